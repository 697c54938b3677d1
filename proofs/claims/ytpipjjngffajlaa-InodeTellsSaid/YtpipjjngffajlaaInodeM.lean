/- Inodes and blocks of blocks as bytes: plain mathematics, no program. -/
import Derived.Test.YtpipjjngffajlaaOctM
namespace Go.Proofs.Ytpipjjngffajlaa
/-- An inode as numbers. -/
structure Im where
  k : Nat
  n : Nat
  z : Nat
  d0 : Nat
  d1 : Nat
  d2 : Nat
  d3 : Nat
  i : Nat
deriving DecidableEq
def Im.nought : Im := ⟨0, 0, 0, 0, 0, 0, 0, 0⟩
def Im.fits (x : Im) : Prop := x.k < 256 ∧ x.n < 65536 ∧ x.z < 4294967296 ∧ x.d0 < 65536 ∧ x.d1 < 65536 ∧ x.d2 < 65536 ∧ x.d3 < 65536 ∧ x.i < 65536
/-- The five blocks. -/
def Im.bl (x : Im) : List Nat := [x.d0, x.d1, x.d2, x.d3, x.i]
def pagesN (z : Nat) : Nat := (z + 63) / 64
/-- No block is for a page behind the end. -/
def inside (z : Nat) (l : List Nat) : Prop := ∀ j b, l[j]? = some b → b = 0 ∨ 64 * j < z
/-- No block is there twice. -/
def once (l : List Nat) : Prop := (l.filter (· != 0)).Nodup
instance (l : List Nat) : Decidable (once l) := by unfold once; exact inferInstance
/-- What may be. -/
def Im.may (x : Im) : Prop := if x.k = 0 then x = Im.nought else x.k ≤ 2 ∧ x.n ≤ 200 ∧ x.z ≤ 2304 ∧ (x.k = 2 → x.z % 64 = 0) ∧ inside x.z x.bl ∧ once x.bl
noncomputable instance (x : Im) : Decidable x.may := Classical.propDecidable _
/-- Its bytes. -/
def Im.putL (x : Im) : List UInt8 := leB 1 x.k ++ leB 1 0 ++ leB 2 x.n ++ leB 4 x.z ++ (leB 2 x.d0 ++ leB 2 x.d1 ++ leB 2 x.d2 ++ leB 2 x.d3 ++ leB 2 x.i) ++ List.replicate 14 0
theorem putL_length (x : Im) : x.putL.length = 32 := by simp [Im.putL, leB_length]
/-- The j-th number of two bytes. -/
def num2 (l : List UInt8) (j : Nat) : Nat := leV ((l.drop (2 * j)).take 2)
/-- The numbers where they stand. -/
def getI (l : List UInt8) : Im := ⟨num2 l 0 % 256, num2 l 1, num2 l 2 + 65536 * num2 l 3, num2 l 4, num2 l 5, num2 l 6, num2 l 7, num2 l 8⟩
theorem num2_lt (l : List UInt8) (j : Nat) : num2 l j < 65536 := by
  have h := leV_lt ((l.drop (2 * j)).take 2)
  have h2 : ((l.drop (2 * j)).take 2).length ≤ 2 := by simp; omega
  have h3 : (256 : Nat) ^ ((l.drop (2 * j)).take 2).length ≤ 256 ^ 2 := Nat.pow_le_pow_right (by omega) h2
  unfold num2
  omega
theorem getI_fits (l : List UInt8) : (getI l).fits := by
  have h := num2_lt l
  have h2 := h 2
  have h3 := h 3
  exact ⟨Nat.mod_lt _ (by omega), h _, by show _ + _ < _; omega, h _, h _, h _, h _, h _⟩
theorem getI_put {x : Im} (h : x.fits) : getI x.putL = x := by
  obtain ⟨k, n, z, d0, d1, d2, d3, i⟩ := x
  obtain ⟨h1, h2, h3, h4, h5, h6, h7, h8⟩ := h
  simp only at h1 h2 h3 h4 h5 h6 h7 h8
  simp [getI, num2, Im.putL, leB, leV, List.replicate]
  omega
theorem putL_inj {x y : Im} (hx : x.fits) (hy : y.fits) (e : x.putL = y.putL) : x = y := by
  rw [← getI_put hx, ← getI_put hy, e]
/-- Which inode's encoding a text is. -/
noncomputable def getL (l : List UInt8) : Option Im := if (getI l).may ∧ (getI l).putL = l then some (getI l) else none
theorem getL_put {x : Im} (hf : x.fits) (h : x.may) : getL x.putL = some x := by
  unfold getL
  rw [getI_put hf, if_pos ⟨h, rfl⟩]
theorem getL_some {l : List UInt8} {x : Im} (h : getL l = some x) : x.may ∧ x.putL = l ∧ x.fits := by
  unfold getL at h
  split at h
  · rename_i hc
    injection h with h
    subst h
    exact ⟨hc.1, hc.2, getI_fits _⟩
  · cases h
theorem getL_none {l : List UInt8} (h : ¬ ((getI l).may ∧ (getI l).putL = l)) : getL l = none := by
  unfold getL
  rw [if_neg h]
theorem nought_may : Im.nought.may := by simp [Im.may, Im.nought]
theorem nought_fits : Im.nought.fits := by simp [Im.fits, Im.nought]
/-- The numbers of two bytes each, one behind the other. -/
def catL (l : List Nat) : List UInt8 := (l.map (leB 2)).flatten
theorem catL_length (l : List Nat) : (catL l).length = 2 * l.length := by
  induction l with
  | nil => rfl
  | cons a l ih => simp only [catL, List.map_cons, List.flatten_cons, List.length_append, leB_length, List.length_cons] at ih ⊢; omega
theorem catL_snoc (l : List Nat) (a : Nat) : catL (l ++ [a]) = catL l ++ leB 2 a := by simp [catL]
theorem catL_append (l r : List Nat) : catL (l ++ r) = catL l ++ catL r := by simp [catL]
theorem catL_zero (n : Nat) : catL (List.replicate n 0) = List.replicate (2 * n) 0 := by
  induction n with
  | zero => rfl
  | succ n ih =>
    rw [List.replicate_succ, show (0 : Nat) :: List.replicate n 0 = [0] ++ List.replicate n 0 from rfl, catL_append, ih]
    have : 2 * (n + 1) = 2 * n + 1 + 1 := by omega
    rw [this, List.replicate_succ, List.replicate_succ]
    rfl
/-- The block that lists these. -/
def tellL (l : List Nat) : List UInt8 := catL l ++ List.replicate (64 - 2 * l.length) 0
theorem tellL_length (l : List Nat) (h : l.length ≤ 32) : (tellL l).length = 64 := by simp [tellL, catL_length]; omega
theorem tellL_eq (l : List Nat) : tellL l = catL (l ++ List.replicate (32 - l.length) 0) := by
  rw [catL_append, catL_zero, tellL]
  congr 2
  omega
/-- The numbers that a text has. -/
def numsL (s : List UInt8) : List Nat := (List.range (s.length / 2)).map (num2 s)
theorem numsL_length (s : List UInt8) : (numsL s).length = s.length / 2 := by simp [numsL]
theorem num2_cat (l : List Nat) (r : List UInt8) (j : Nat) (h : j < l.length) (hl : ∀ x ∈ l, x < 65536) : num2 (catL l ++ r) j = l[j] := by
  induction l generalizing j with
  | nil => simp at h
  | cons a l ih =>
    have ha : a < 256 ^ 2 := hl a (by simp)
    cases j with
    | zero =>
      simp only [num2, catL, List.map_cons, List.flatten_cons, Nat.mul_zero, List.drop_zero, List.getElem_cons_zero, List.append_assoc]
      rw [List.take_left' (leB_length _ _), leV_leB _ _ ha]
    | succ j =>
      have e : num2 (catL (a :: l) ++ r) (j + 1) = num2 (catL l ++ r) j := by
        simp only [num2, catL, List.map_cons, List.flatten_cons, List.append_assoc]
        rw [show 2 * (j + 1) = 2 + 2 * j by omega, ← List.drop_drop, List.drop_left' (leB_length _ _)]
      rw [e, ih j (by simpa using h) fun x hx => hl x (by simp [hx])]
      rfl
theorem numsL_cat (l : List Nat) (hl : ∀ x ∈ l, x < 65536) : numsL (catL l) = l := by
  apply List.ext_getElem
  · simp [numsL, catL_length]
  · intro j h1 h2
    have := num2_cat l [] j h2 hl
    simpa [numsL] using this
theorem catL_numsL : ∀ (n : Nat) (s : List UInt8), s.length = 2 * n → catL (numsL s) = s := by
  intro n
  induction n with
  | zero => intro s h; have : s = [] := List.eq_nil_of_length_eq_zero (by omega); subst this; rfl
  | succ n ih =>
    intro s h
    have e : numsL s = leV (s.take 2) :: numsL (s.drop 2) := by
      apply List.ext_getElem
      · simp [numsL]; omega
      · intro j h1 h2
        cases j with
        | zero => simp [numsL, num2]
        | succ j => simp [numsL, num2, List.drop_drop, show 2 + 2 * j = 2 * (j + 1) by omega]
    rw [e, show leV (s.take 2) :: numsL (s.drop 2) = [leV (s.take 2)] ++ numsL (s.drop 2) from rfl, catL_append, ih (s.drop 2) (by simp; omega)]
    have h2 : (s.take 2).length = 2 := by simp; omega
    have h3 := leB_leV (s.take 2)
    rw [h2] at h3
    simp only [catL, List.map_cons, List.map_nil, List.flatten_cons, List.flatten_nil, List.append_nil]
    rw [h3, List.take_append_drop]
theorem tell_nums {s : List UInt8} (h : s.length = 64) : tellL (numsL s) = s := by
  have hl : (numsL s).length = 32 := by rw [numsL_length, h]
  rw [tellL, hl, catL_numsL 32 s h]
  simp
theorem nums_tell {l : List Nat} (hl : ∀ x ∈ l, x < 65536) : numsL (tellL l) = l ++ List.replicate (32 - l.length) 0 := by
  rw [tellL_eq, numsL_cat]
  intro x hx
  rcases List.mem_append.1 hx with hx | hx
  · exact hl x hx
  · rw [(List.mem_replicate.1 hx).2]; omega
theorem partsL_map2 : ∀ (f : Nat) (s : List UInt8), s.length ≤ f → ∀ n, s.length = 2 * n → (partsL 2 f s).map leV = numsL s := by
  intro f
  induction f with
  | zero => intro s h n _; have : s = [] := List.eq_nil_of_length_eq_zero (by omega); subst this; rfl
  | succ f ih =>
    intro s h n hn
    by_cases h0 : s = []
    · subst h0; rw [partsL_nil]; rfl
    · have hp : 0 < s.length := List.length_pos_iff.2 h0
      have e : numsL s = leV (s.take 2) :: numsL (s.drop 2) := by
        apply List.ext_getElem
        · simp [numsL]; omega
        · intro j h1 h2
          cases j with
          | zero => simp [numsL, num2]
          | succ j => simp [numsL, num2, List.drop_drop, show 2 + 2 * j = 2 * (j + 1) by omega]
      rw [partsL, if_neg h0, List.map_cons, ih (s.drop 2) (by simp; omega) (n - 1) (by simp; omega), e]
end Go.Proofs.Ytpipjjngffajlaa
