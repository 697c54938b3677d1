/- Layer 10 (dirs): entries, slots, directories; plain mathematics. -/
import Derived.Test.YtmidoghjacmdcaaOctM
namespace Go.Proofs.Ytmidoghjacmdcaa
set_option linter.unusedVariables false
set_option linter.unusedSimpArgs false
set_option maxRecDepth 10000
/-- An entry. -/
structure En where
  n : List UInt8
  i : Nat
deriving DecidableEq
instance : Inhabited En := ⟨⟨[], 0⟩⟩
/-- A free one. -/
def En.free : En := ⟨[], 0⟩
def oddB (b : UInt8) : Bool := b == 47 || b == 0
def nameB (l : List UInt8) : Bool := decide (1 ≤ l.length ∧ l.length ≤ 27 ∧ l ≠ [46] ∧ l ≠ [46, 46]) && !(l.any oddB)
def mayB (x : En) : Bool := x.i != 0 && nameB x.n
/-- A slot's bytes. -/
def slotL (x : En) : List UInt8 := leB 4 x.i ++ (UInt8.ofNat x.n.length :: x.n) ++ List.replicate (27 - x.n.length) 0
def freeL : List UInt8 := List.replicate 32 0
def name8 : List UInt8 → List UInt8
  | [] => []
  | b :: r => if b.toNat ≤ r.length then r.take b.toNat else []
/-- What a slot's bytes tell. -/
def getE (s : List UInt8) : En := ⟨name8 (s.drop 4), leV (s.take 4)⟩
def okS (s : List UInt8) : Bool := (decide (getE s = En.free) || mayB (getE s)) && decide (slotL (getE s) = s)
/-- An entry that may stand in a slot, or the free one. -/
def okE (x : En) : Prop := x = En.free ∨ (mayB x = true ∧ x.i < 4294967296)
theorem nameB_len {l : List UInt8} (h : nameB l = true) : 1 ≤ l.length ∧ l.length ≤ 27 := by
  simp [nameB] at h
  exact ⟨by have := h.1.1; omega, h.1.2.1⟩
theorem mayB_len {x : En} (h : mayB x = true) : x.i ≠ 0 ∧ 1 ≤ x.n.length ∧ x.n.length ≤ 27 := by
  simp only [mayB, Bool.and_eq_true, bne_iff_ne] at h
  exact ⟨h.1, nameB_len h.2⟩
theorem okE_free : okE En.free := .inl rfl
theorem okE.len {x : En} (h : okE x) : x.n.length ≤ 27 := by
  rcases h with rfl | ⟨h, _⟩
  · exact Nat.zero_le _
  · exact (mayB_len h).2.2
theorem okE.lt {x : En} (h : okE x) : x.i < 4294967296 := by
  rcases h with rfl | ⟨_, h⟩
  · decide
  · exact h
/-- The free one has no name, and only it. -/
theorem okE.name_nil {x : En} (h : okE x) : x.n = [] ↔ x = En.free := by
  rcases h with rfl | ⟨h, _⟩
  · exact ⟨fun _ => rfl, fun _ => rfl⟩
  · have := mayB_len h
    refine ⟨fun e => ?_, fun e => by rw [e]; rfl⟩
    rw [e] at this; simp at this
theorem okE.ino_zero {x : En} (h : okE x) : x.i = 0 ↔ x = En.free := by
  rcases h with rfl | ⟨h, _⟩
  · exact ⟨fun _ => rfl, fun _ => rfl⟩
  · have := mayB_len h
    refine ⟨fun e => absurd e this.1, fun e => by rw [e]; rfl⟩
theorem slotL_length {x : En} (h : x.n.length ≤ 27) : (slotL x).length = 32 := by
  simp [slotL, leB_length]; omega
theorem slotL_free : slotL En.free = freeL := by decide
theorem freeL_length : freeL.length = 32 := by decide
theorem getE_free : getE freeL = En.free := by decide
theorem ofNat_len {n : Nat} (h : n ≤ 27) : (UInt8.ofNat n).toNat = n := by
  rw [UInt8.toNat_ofNat']; exact Nat.mod_eq_of_lt (by omega)
theorem getE_slotL {x : En} (hn : x.n.length ≤ 27) (hi : x.i < 4294967296) : getE (slotL x) = x := by
  have h4 : (leB 4 x.i).length = 4 := leB_length _ _
  have e1 : (slotL x).take 4 = leB 4 x.i := by
    unfold slotL
    rw [List.append_assoc, List.take_append_of_le_length (by omega), List.take_of_length_le (by omega)]
  have e2 : (slotL x).drop 4 = UInt8.ofNat x.n.length :: (x.n ++ List.replicate (27 - x.n.length) 0) := by
    unfold slotL
    rw [List.append_assoc, List.drop_append_of_le_length (by omega), List.drop_of_length_le (by omega)]
    rfl
  unfold getE
  rw [e1, e2, leV_leB _ _ hi]
  simp only [name8, ofNat_len hn]
  rw [if_pos (by simp)]
  simp
theorem okE.get {x : En} (h : okE x) : getE (slotL x) = x := getE_slotL h.len h.lt
theorem okS_slotL {x : En} (h : okE x) : okS (slotL x) = true := by
  unfold okS
  rw [h.get]
  rcases h with rfl | ⟨h, _⟩
  · simp
  · simp [h]
theorem leV_lt4 (s : List UInt8) : leV (s.take 4) < 4294967296 := by
  have h := leV_lt (s.take 4)
  have h2 : (s.take 4).length ≤ 4 := by simp; omega
  exact Nat.lt_of_lt_of_le h (Nat.pow_le_pow_right (by decide) h2)
theorem okS_okE {s : List UInt8} (h : okS s = true) : okE (getE s) ∧ slotL (getE s) = s := by
  simp only [okS, Bool.and_eq_true, Bool.or_eq_true, decide_eq_true_eq] at h
  refine ⟨?_, h.2⟩
  rcases h.1 with h1 | h1
  · exact .inl h1
  · exact .inr ⟨h1, leV_lt4 s⟩
theorem name8_len {s : List UInt8} (h : s.length ≤ 28) : (name8 s).length ≤ 27 := by
  cases s with
  | nil => simp [name8]
  | cons b r =>
    simp only [name8, List.length_cons] at *
    split
    · simp; omega
    · simp
theorem getE_len {s : List UInt8} (h : s.length = 32) : (getE s).n.length ≤ 27 := name8_len (by simp; omega)
/-- The parts of 32 bytes. -/
def slots (s : List UInt8) : List (List UInt8) := partsL 32 8192 s
def sizeB (s : List UInt8) : Bool := decide (s.length % 64 = 0 ∧ s.length ≤ 2304)
/-- No name stands twice. -/
def uniq (l : List En) : Prop := l.Pairwise fun x y => x.n = y.n → y.n = []
instance (l : List En) : Decidable (uniq l) := inferInstanceAs (Decidable (l.Pairwise fun x y => x.n = y.n → y.n = []))
def formB (s : List UInt8) : Bool := sizeB s && (slots s).all okS
/-- What is wrong with a text. -/
def chk (s : List UInt8) : Nat := if formB s = true then (if uniq ((slots s).map getE) then 0 else 9) else 7
/-- The entries of a text, slot by slot; none of one that is no directory's. -/
def ents (s : List UInt8) : List En := if chk s = 0 then (slots s).map getE else []
def pad72 (l : List En) : List En := l ++ List.replicate (72 - l.length) En.free
theorem pad72_length {l : List En} (h : l.length ≤ 72) : (pad72 l).length = 72 := by simp [pad72]; omega
theorem pad72_nil : pad72 [] = List.replicate 72 En.free := rfl
/-- Entries as a text. -/
def text (l : List En) : List UInt8 := (l.map slotL).flatten
structure Dir (l : List En) : Prop where
  even : l.length % 2 = 0
  le : l.length ≤ 72
  ok : ∀ x ∈ l, okE x
  uniq : uniq l
theorem partsL_get (n : Nat) (hn : 0 < n) : ∀ (f : Nat) (l : List UInt8), l.length ≤ f → l.length % n = 0 → ∀ k, (partsL n f l)[k]? = if k < l.length / n then some ((l.drop (n * k)).take n) else none := by
  intro f
  induction f with
  | zero =>
    intro l h _ k
    have : l = [] := List.eq_nil_of_length_eq_zero (by omega)
    subst this; simp [partsL]
  | succ f ih =>
    intro l h hm k
    by_cases h0 : l = []
    · subst h0; simp [partsL]
    · have hp : 0 < l.length := List.length_pos_iff.2 h0
      have hle : n ≤ l.length := Nat.le_of_dvd hp (Nat.dvd_of_mod_eq_zero hm)
      have hd : l.length / n = (l.length - n) / n + 1 := by rw [Nat.div_eq_sub_div hn hle]
      rw [partsL, if_neg h0]
      cases k with
      | zero => simp [hd]
      | succ k =>
        rw [List.getElem?_cons_succ, ih _ (by simp; omega) (by rw [List.length_drop, Nat.mod_eq_sub_mod hle] at *; exact hm), List.length_drop, hd]
        rw [List.drop_drop, show n + n * k = n * (k + 1) by rw [Nat.mul_add]; omega]
        simp [Nat.add_lt_add_iff_right]
theorem slots_get {s : List UInt8} (h : sizeB s = true) (k : Nat) : (slots s)[k]? = if k < s.length / 32 then some ((s.drop (32 * k)).take 32) else none := by
  simp only [sizeB, decide_eq_true_eq] at h
  exact partsL_get 32 (by decide) 8192 s (by omega) (by omega) k
theorem slots_length {s : List UInt8} (h : sizeB s = true) : (slots s).length = s.length / 32 := by
  have h1 := slots_get h (slots s).length
  have h2 := slots_get h (s.length / 32)
  have h3 := fun k => slots_get h k
  rw [List.getElem?_eq_none (Nat.le_refl _)] at h1
  rw [if_neg (by omega)] at h2
  have h4 := List.getElem?_eq_none_iff.1 h2
  split at h1
  · cases h1
  · omega
theorem sizeB_facts {s : List UInt8} (h : sizeB s = true) : s.length % 64 = 0 ∧ s.length ≤ 2304 := by simpa [sizeB] using h
theorem slots_le {s : List UInt8} (h : sizeB s = true) : (slots s).length ≤ 72 ∧ (slots s).length % 2 = 0 := by
  have := sizeB_facts h
  rw [slots_length h]; omega
theorem slots_each {s : List UInt8} (h : sizeB s = true) {p : List UInt8} (hp : p ∈ slots s) : p.length = 32 := by
  obtain ⟨k, hk⟩ := List.getElem?_of_mem hp
  rw [slots_get h] at hk
  have := sizeB_facts h
  split at hk
  · cases hk; simp; omega
  · cases hk
theorem slots_flat {s : List UInt8} (h : sizeB s = true) : (slots s).flatten = s := by
  have := sizeB_facts h
  exact partsL_flat 32 (by decide) 8192 s (by omega)
theorem text_length {l : List En} (h : ∀ x ∈ l, x.n.length ≤ 27) : (text l).length = 32 * l.length := by
  induction l with
  | nil => rfl
  | cons x r ih =>
    have h1 := slotL_length (h x (by simp))
    have h2 := ih fun y hy => h y (by simp [hy])
    unfold text at *
    rw [List.map_cons, List.flatten_cons, List.length_append, h1, h2, List.length_cons]
    omega
theorem text_append (l m : List En) : text (l ++ m) = text l ++ text m := by simp [text]
theorem text_cons (x : En) (l : List En) : text (x :: l) = slotL x ++ text l := by simp [text]
theorem Dir.len {l : List En} (h : Dir l) : (text l).length = 32 * l.length := text_length fun x hx => (h.ok x hx).len
theorem Dir.sizeB {l : List En} (h : Dir l) : sizeB (text l) = true := by
  have := h.even; have := h.le
  simp [Go.Proofs.Ytmidoghjacmdcaa.sizeB, h.len]; omega
theorem slots_text {l : List En} (hl : l.length ≤ 72) (h : ∀ x ∈ l, okE x) : slots (text l) = l.map slotL := by
  have key : ∀ (f : Nat) (l : List En), 32 * l.length ≤ f → (∀ x ∈ l, okE x) → partsL 32 f (text l) = l.map slotL := by
    intro f
    induction f with
    | zero =>
      intro l hf _
      have : l = [] := List.eq_nil_of_length_eq_zero (by omega)
      subst this; rfl
    | succ f ih =>
      intro l hf hok
      cases l with
      | nil => rfl
      | cons x r =>
        have hx := slotL_length (hok x (by simp)).len
        rw [List.length_cons] at hf
        have hne : slotL x ++ text r ≠ [] := by
          intro e
          have := congrArg List.length e
          rw [List.length_append, hx] at this
          simp at this
        rw [text_cons, partsL, if_neg hne, List.take_append_of_le_length (by omega), List.take_of_length_le (by omega), List.drop_append_of_le_length (by omega), List.drop_of_length_le (by omega), List.nil_append, ih r (by omega) fun y hy => hok y (by simp [hy])]
        rfl
  exact key 8192 l (by omega) h
theorem map_get_slots {l : List En} (h : ∀ x ∈ l, okE x) : (l.map slotL).map getE = l := by
  rw [List.map_map]
  conv => rhs; rw [← List.map_id l]
  exact List.map_congr_left fun x hx => (h x hx).get
theorem Dir.chk {l : List En} (h : Dir l) : chk (text l) = 0 := by
  have h1 := slots_text h.le h.ok
  unfold Go.Proofs.Ytmidoghjacmdcaa.chk formB
  rw [h.sizeB, h1, map_get_slots h.ok, if_pos h.uniq]
  rw [if_pos]
  simp only [Bool.true_and, List.all_eq_true]
  intro p hp
  obtain ⟨x, hx, rfl⟩ := List.mem_map.1 hp
  exact okS_slotL (h.ok x hx)
theorem Dir.ents {l : List En} (h : Dir l) : ents (text l) = l := by
  unfold Go.Proofs.Ytmidoghjacmdcaa.ents
  rw [if_pos h.chk, slots_text h.le h.ok, map_get_slots h.ok]
theorem chk_dir {s : List UInt8} (h : chk s = 0) : Dir (ents s) ∧ s = text (ents s) := by
  unfold ents
  rw [if_pos h]
  unfold chk at h
  split at h
  case isFalse => cases h
  case isTrue hf =>
    split at h
    case isFalse => cases h
    case isTrue hu =>
      simp only [formB, Bool.and_eq_true, List.all_eq_true] at hf
      obtain ⟨hs, ha⟩ := hf
      have hl := slots_le hs
      refine ⟨⟨by simpa using hl.2, by simpa using hl.1, ?_, hu⟩, ?_⟩
      · intro x hx
        obtain ⟨p, hp, rfl⟩ := List.mem_map.1 hx
        exact (okS_okE (ha p hp)).1
      · conv => lhs; rw [← slots_flat hs]
        unfold text
        rw [List.map_map]
        congr 1
        conv => lhs; rw [← List.map_id (slots s)]
        exact List.map_congr_left fun p hp => ((okS_okE (ha p hp)).2).symm
theorem ents_bad {s : List UInt8} (h : chk s ≠ 0) : ents s = [] := if_neg h
theorem ents_ok (s : List UInt8) : ∀ x ∈ ents s, okE x := by
  by_cases h : chk s = 0
  · exact (chk_dir h).1.ok
  · rw [ents_bad h]; simp
theorem ents_le (s : List UInt8) : (ents s).length ≤ 72 := by
  by_cases h : chk s = 0
  · exact (chk_dir h).1.le
  · rw [ents_bad h]; simp
theorem chk_val (s : List UInt8) : chk s = 0 ∨ chk s = 7 ∨ chk s = 9 := by
  unfold chk
  split
  · split
    · exact .inl rfl
    · exact .inr (.inr rfl)
  · exact .inr (.inl rfl)
end Go.Proofs.Ytmidoghjacmdcaa
