/- Numbers as bytes, the lowest first: plain mathematics, no program. -/
namespace Go.Proofs.Ytmidoghjacmdcaa
/-- n bytes of v, the lowest first. -/
def leB : Nat → Nat → List UInt8
  | 0, _ => []
  | n + 1, v => UInt8.ofNat (v % 256) :: leB n (v / 256)
/-- The number whose bytes these are. -/
def leV : List UInt8 → Nat
  | [] => 0
  | b :: r => b.toNat + 256 * leV r
theorem leB_length (n v : Nat) : (leB n v).length = n := by
  induction n generalizing v with
  | zero => rfl
  | succ n ih => simp [leB, ih]
theorem leV_lt (l : List UInt8) : leV l < 256 ^ l.length := by
  induction l with
  | nil => simp [leV]
  | cons b r ih =>
    have hb := b.toNat_lt
    simp only [leV, List.length_cons, Nat.pow_succ]
    omega
theorem leV_leB (n v : Nat) (h : v < 256 ^ n) : leV (leB n v) = v := by
  induction n generalizing v with
  | zero => simp at h; subst h; rfl
  | succ n ih =>
    have h1 : v / 256 < 256 ^ n := by
      rw [Nat.pow_succ] at h
      exact Nat.div_lt_of_lt_mul (by rw [Nat.mul_comm]; exact h)
    simp only [leB, leV, ih _ h1, UInt8.toNat_ofNat']
    omega
theorem leV_leB_mod (n v : Nat) : leV (leB n v) = v % 256 ^ n := by
  induction n generalizing v with
  | zero => simp [leB, leV, Nat.mod_one]
  | succ n ih =>
    have h1 : 256 ^ (n + 1) = 256 * 256 ^ n := by rw [Nat.pow_succ, Nat.mul_comm]
    simp only [leB, leV, ih, UInt8.toNat_ofNat']
    rw [h1, Nat.mod_mul]
    omega
theorem leB_leV (l : List UInt8) : leB l.length (leV l) = l := by
  induction l with
  | nil => rfl
  | cons b r ih =>
    have hb := b.toNat_lt
    have h1 : (b.toNat + 256 * leV r) / 256 = leV r := by omega
    have h2 : (b.toNat + 256 * leV r) % 256 = b.toNat := by omega
    simp only [List.length_cons, leB, leV, h1, h2, ih]
    simp
theorem leB_snoc (n v : Nat) : leB (n + 1) v = leB n v ++ [UInt8.ofNat (v / 256 ^ n % 256)] := by
  induction n generalizing v with
  | zero => simp [leB]
  | succ n ih =>
    rw [leB, ih]
    simp only [leB, List.cons_append, Nat.div_div_eq_div_mul, Nat.pow_succ]
    rw [Nat.mul_comm 256 (256 ^ n)]
theorem leB_fill (n k v : Nat) (h : k < n) : (leB k v ++ List.replicate (n - k) 0).set k (UInt8.ofNat (v / 256 ^ k % 256)) = leB (k + 1) v ++ List.replicate (n - (k + 1)) 0 := by
  rw [leB_snoc, List.set_append_right _ _ (by rw [leB_length]; omega), leB_length, Nat.sub_self]
  obtain ⟨m, hm⟩ : ∃ m, n - k = m + 1 := ⟨n - k - 1, by omega⟩
  have : n - (k + 1) = m := by omega
  rw [hm, this, List.replicate_succ, List.set_cons_zero]
  simp
theorem leV_snoc (l : List UInt8) (b : UInt8) : leV (l ++ [b]) = leV l + 256 ^ l.length * b.toNat := by
  induction l with
  | nil => simp [leV]
  | cons c r ih =>
    simp only [List.cons_append, leV, ih, List.length_cons, Nat.pow_succ, Nat.mul_add]
    rw [Nat.mul_comm (256 ^ r.length) 256, Nat.mul_assoc]
    omega
theorem leV_take_succ (l : List UInt8) (k : Nat) (h : k < l.length) : leV (l.take (k + 1)) = leV (l.take k) + 256 ^ k * (l[k]).toNat := by
  rw [List.take_succ_eq_append_getElem h, leV_snoc, List.length_take, Nat.min_eq_left (by omega)]
theorem leV_drop (l : List UInt8) (k : Nat) (h : k < l.length) : leV (l.drop k) = (l[k]).toNat + 256 * leV (l.drop (k + 1)) := by
  rw [List.drop_eq_getElem_cons h, leV]
theorem pow256 (k : Nat) : 256 ^ k = 2 ^ (8 * k) := by
  rw [Nat.pow_mul]
/-- The text without the noughts at its end. -/
def bareL (l : List UInt8) : List UInt8 := (l.reverse.dropWhile (· == 0)).reverse
/-- Where the noughts at the end begin. -/
theorem bareL_eq (l : List UInt8) (e : Nat) (he : e ≤ l.length) (hz : ∀ i (h : i < l.length), e ≤ i → l[i] = 0) (hn : ∀ h : e - 1 < l.length, 0 < e → l[e - 1] ≠ 0) : bareL l = l.take e := by
  have hsplit : l = l.take e ++ l.drop e := (List.take_append_drop e l).symm
  have hdrop : l.drop e = List.replicate (l.length - e) 0 := by
    apply List.ext_getElem
    · simp
    · intro i h1 h2
      simp only [List.getElem_drop, List.getElem_replicate]
      exact hz _ _ (by omega)
  unfold bareL
  conv => lhs; rw [hsplit, hdrop, List.reverse_append, List.reverse_replicate]
  rw [List.dropWhile_append_of_pos (by intro a ha; simp at ha; simp [ha.2])]
  rcases Nat.eq_zero_or_pos e with h0 | h0
  · subst h0; simp
  · have h1 := hn (by omega) h0
    have h2 : l.take e = l.take (e - 1) ++ [l[e - 1]'(by omega)] := by
      have := List.take_succ_eq_append_getElem (l := l) (i := e - 1) (by omega)
      rwa [Nat.sub_add_cancel h0] at this
    rw [h2, List.reverse_append]
    simp [h1]
theorem bareL_nil : bareL [] = [] := rfl
theorem bareL_snoc0 (l : List UInt8) : bareL (l ++ [0]) = bareL l := by simp [bareL]
theorem bareL_snoc (l : List UInt8) (b : UInt8) (h : b ≠ 0) : bareL (l ++ [b]) = l ++ [b] := by simp [bareL, h]
theorem bareL_pad (l : List UInt8) (n : Nat) : bareL (l ++ List.replicate n 0) = bareL l := by
  induction n with
  | zero => simp
  | succ n ih => rw [List.replicate_succ', ← List.append_assoc, bareL_snoc0, ih]
theorem snoc_ind {P : List UInt8 → Prop} (h0 : P []) (h1 : ∀ l b, P l → P (l ++ [b])) (l : List UInt8) : P l := by
  have : ∀ r : List UInt8, P r.reverse := by
    intro r
    induction r with
    | nil => exact h0
    | cons b r ih => rw [List.reverse_cons]; exact h1 _ _ ih
  simpa using this l.reverse
/-- A text is what is bare of it, padded. -/
theorem bareL_back (l : List UInt8) : (bareL l).length ≤ l.length ∧ bareL l ++ List.replicate (l.length - (bareL l).length) 0 = l := by
  refine snoc_ind (P := fun l => (bareL l).length ≤ l.length ∧ bareL l ++ List.replicate (l.length - (bareL l).length) 0 = l) ?_ ?_ l
  · simp [bareL]
  · intro l b ih
    by_cases h : b = 0
    · subst h
      rw [bareL_snoc0]
      refine ⟨by simp; omega, ?_⟩
      have h2 : (l ++ [(0 : UInt8)]).length - (bareL l).length = l.length - (bareL l).length + 1 := by simp; omega
      rw [h2, List.replicate_succ', ← List.append_assoc, ih.2]
    · rw [bareL_snoc _ _ h]; simp
theorem bareL_idem (l : List UInt8) : bareL (bareL l) = bareL l := by
  have h := congrArg bareL (bareL_back l).2
  rw [bareL_pad] at h
  exact h
/-- The text in parts of n bytes. -/
def partsL (n : Nat) : Nat → List UInt8 → List (List UInt8)
  | 0, _ => []
  | f + 1, l => if l = [] then [] else l.take n :: partsL n f (l.drop n)
theorem partsL_nil (n f : Nat) : partsL n f [] = [] := by cases f <;> simp [partsL]
theorem partsL_step (n f : Nat) (l : List UInt8) (hn : 0 < n) (hf : l.length ≤ f) (hl : l ≠ []) : partsL n f l = l.take n :: partsL n f (l.drop n) := by
  have key : ∀ f (l : List UInt8), l.length ≤ f → ∀ g, l.length ≤ g → partsL n f l = partsL n g l := by
    intro f
    induction f with
    | zero =>
      intro l h g _
      have : l = [] := List.eq_nil_of_length_eq_zero (by omega)
      subst this
      rw [partsL_nil, partsL_nil]
    | succ f ih =>
      intro l h g hg
      by_cases hl : l = []
      · subst hl; rw [partsL_nil, partsL_nil]
      · have hp : 0 < l.length := List.length_pos_iff.2 hl
        cases g with
        | zero => omega
        | succ g =>
          simp only [partsL, hl, if_false]
          rw [ih (l.drop n) (by simp; omega) g (by simp; omega)]
  have hp : 0 < l.length := List.length_pos_iff.2 hl
  cases f with
  | zero => omega
  | succ f =>
    rw [partsL, if_neg hl]
    rw [key f (l.drop n) (by simp; omega) (f + 1) (by simp; omega)]
theorem partsL_flat (n : Nat) (hn : 0 < n) : ∀ f (l : List UInt8), l.length ≤ f → (partsL n f l).flatten = l := by
  intro f
  induction f with
  | zero => intro l h; have : l = [] := List.eq_nil_of_length_eq_zero (by omega); subst this; rfl
  | succ f ih =>
    intro l h
    by_cases hl : l = []
    · subst hl; rw [partsL_nil]; rfl
    · have hp : 0 < l.length := List.length_pos_iff.2 hl
      rw [partsL, if_neg hl, List.flatten_cons, ih _ (by simp; omega), List.take_append_drop]
theorem partsL_each (n : Nat) (hn : 0 < n) : ∀ f (l : List UInt8), l.length ≤ f → ∀ k (h : k < (partsL n f l).length),
    (partsL n f l)[k] ≠ [] ∧ ((partsL n f l)[k]).length ≤ n ∧ (k + 1 < (partsL n f l).length → ((partsL n f l)[k]).length = n) := by
  intro f
  induction f with
  | zero => intro l _ k h; simp [partsL] at h
  | succ f ih =>
    intro l hl k h
    by_cases h0 : l = []
    · subst h0; simp [partsL_nil] at h
    · have hp : 0 < l.length := List.length_pos_iff.2 h0
      have he : partsL n (f + 1) l = l.take n :: partsL n f (l.drop n) := by rw [partsL, if_neg h0]
      simp only [he] at h ⊢
      cases k with
      | zero =>
        refine ⟨?_, by simp; omega, ?_⟩
        · intro e
          simp only [List.getElem_cons_zero, List.take_eq_nil_iff] at e
          rcases e with e | e
          · omega
          · exact h0 e
        · intro h2
          simp only [List.getElem_cons_zero, List.length_take]
          by_cases h3 : n ≤ l.length
          · omega
          · have hd : partsL n f (l.drop n) = [] := by rw [List.drop_of_length_le (by omega), partsL_nil]
            simp [hd] at h2
      | succ k =>
        have h' : k < (partsL n f (l.drop n)).length := by simpa using h
        have := ih (l.drop n) (by simp; omega) k h'
        simpa using this
/-- The parts of a text. -/
def parts (n : Nat) (l : List UInt8) : List (List UInt8) := partsL n l.length l
end Go.Proofs.Ytmidoghjacmdcaa
