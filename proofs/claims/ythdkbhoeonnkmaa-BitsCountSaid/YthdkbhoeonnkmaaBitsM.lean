/- Bits of texts, eight a byte, the lowest first: plain mathematics, no program. -/
namespace Go.Proofs.Ythdkbhoeonnkmaa
/-- The bit i of a text. -/
def bitL (l : List UInt8) (i : Nat) : Bool := (l.getD (i / 8) 0).toNat.testBit (i % 8)
/-- A byte with its bit k on, or off. -/
def turnB (on : Bool) (b : UInt8) (k : Nat) : UInt8 := UInt8.ofNat (if on then b.toNat ||| 2 ^ k else b.toNat &&& (255 - 2 ^ k))
/-- A text with its bit i on, or off. -/
def setL (l : List UInt8) (i : Nat) (on : Bool) : List UInt8 := l.set (i / 8) (turnB on (l.getD (i / 8) 0) (i % 8))
/-- A text with n bits from a on, on, or off. -/
def fillL (l : List UInt8) (a : Nat) (on : Bool) : Nat → List UInt8
  | 0 => l
  | n + 1 => setL (fillL l a on n) (a + n) on
/-- How many bits below n are on. -/
def countL (l : List UInt8) : Nat → Nat
  | 0 => 0
  | n + 1 => countL l n + (if bitL l n then 1 else 0)
/-- The least bit below n that is as on says. -/
def leastL (l : List UInt8) (on : Bool) : Nat → Option Nat
  | 0 => none
  | n + 1 => match leastL l on n with
    | some k => some k
    | none => if bitL l n = on then some n else none
theorem pow_lt256 (k : Nat) (h : k < 8) : 2 ^ k < 256 := by
  have : (2 : Nat) ^ k < 2 ^ 8 := Nat.pow_lt_pow_right (by omega) h
  simpa using this
theorem notPow_bit (k j : Nat) (hk : k < 8) (hj : j < 8) : (255 - 2 ^ k).testBit j = !decide (j = k) := by
  have h := pow_lt256 k hk
  have e : 255 - 2 ^ k = 2 ^ 8 - (2 ^ k + 1) := by omega
  rw [e, Nat.testBit_two_pow_sub_succ h]
  simp [hj, Nat.testBit_two_pow, eq_comm]
theorem turnB_nat (on : Bool) (b : UInt8) (k : Nat) (hk : k < 8) : (turnB on b k).toNat = if on then b.toNat ||| 2 ^ k else b.toNat &&& (255 - 2 ^ k) := by
  unfold turnB
  rw [UInt8.toNat_ofNat']
  apply Nat.mod_eq_of_lt
  have hb := b.toNat_lt
  have hp := pow_lt256 k hk
  split
  · exact Nat.or_lt_two_pow (n := 8) hb hp
  · exact Nat.lt_of_le_of_lt Nat.and_le_left hb
theorem turnB_bit (on : Bool) (b : UInt8) (k j : Nat) (hk : k < 8) (hj : j < 8) : (turnB on b k).toNat.testBit j = if j = k then on else b.toNat.testBit j := by
  rw [turnB_nat on b k hk]
  cases on
  · simp only [Bool.false_eq_true, if_false, Nat.testBit_and, notPow_bit k j hk hj]
    split <;> simp_all
  · simp only [if_true, Nat.testBit_or, Nat.testBit_two_pow]
    split
    · simp_all
    · rename_i h
      have : ¬ k = j := fun e => h e.symm
      simp [this]
theorem byte_ext (a b : UInt8) (h : ∀ j, j < 8 → a.toNat.testBit j = b.toNat.testBit j) : a = b := by
  apply UInt8.toNat_inj.1
  apply Nat.eq_of_testBit_eq
  intro j
  by_cases hj : j < 8
  · exact h j hj
  · have ha : a.toNat < 2 ^ j := Nat.lt_of_lt_of_le a.toNat_lt (Nat.pow_le_pow_right (by omega) (by omega : 8 ≤ j))
    have hb : b.toNat < 2 ^ j := Nat.lt_of_lt_of_le b.toNat_lt (Nat.pow_le_pow_right (by omega) (by omega : 8 ≤ j))
    rw [Nat.testBit_lt_two_pow ha, Nat.testBit_lt_two_pow hb]
@[simp] theorem setL_length (l : List UInt8) (i : Nat) (on : Bool) : (setL l i on).length = l.length := by simp [setL]
@[simp] theorem fillL_length (l : List UInt8) (a : Nat) (on : Bool) (n : Nat) : (fillL l a on n).length = l.length := by
  induction n with
  | zero => rfl
  | succ n ih => simp [fillL, ih]
theorem getD_set (l : List UInt8) (i j : Nat) (x : UInt8) (h : i < l.length) : (l.set i x).getD j 0 = if j = i then x else l.getD j 0 := by
  simp only [List.getD_eq_getElem?_getD]
  split
  · rename_i e
    subst e
    simp [h]
  · rename_i e
    rw [List.getElem?_set_ne (fun e2 => e e2.symm)]
theorem setL_bit (l : List UInt8) (i j : Nat) (on : Bool) (h : i < 8 * l.length) : bitL (setL l i on) j = if j = i then on else bitL l j := by
  unfold bitL setL
  rw [getD_set _ _ _ _ (by omega)]
  by_cases e : j / 8 = i / 8
  · rw [if_pos e, turnB_bit _ _ _ _ (Nat.mod_lt _ (by omega)) (Nat.mod_lt _ (by omega)), e]
    by_cases e2 : j % 8 = i % 8
    · rw [if_pos e2, if_pos (by omega)]
    · rw [if_neg e2, if_neg (by omega)]
  · rw [if_neg e, if_neg (by intro e2; exact e (by rw [e2]))]
theorem bits_ext (l m : List UInt8) (hl : l.length = m.length) (h : ∀ j, j < 8 * l.length → bitL l j = bitL m j) : l = m := by
  apply List.ext_getElem hl
  intro i h1 h2
  apply byte_ext
  intro j hj
  have := h (8 * i + j) (by omega)
  unfold bitL at this
  rw [show (8 * i + j) / 8 = i by omega, show (8 * i + j) % 8 = j by omega] at this
  simpa [List.getD_eq_getElem?_getD, h1, h2] using this
theorem bitL_far (l : List UInt8) (i : Nat) (h : 8 * l.length ≤ i) : bitL l i = false := by
  unfold bitL
  rw [List.getD_eq_getElem?_getD, List.getElem?_eq_none (by omega)]
  simp
theorem setL_same (l : List UInt8) (i : Nat) (on : Bool) (h : i < 8 * l.length) (hb : bitL l i = on) : setL l i on = l := by
  apply bits_ext _ _ (by simp)
  intro j hj
  rw [setL_bit _ _ _ _ h]
  split
  · rename_i e; rw [e, hb]
  · rfl
theorem setL_twice (l : List UInt8) (i : Nat) (on : Bool) (h : i < 8 * l.length) : setL (setL l i on) i on = setL l i on :=
  setL_same _ _ _ (by simpa using h) (by rw [setL_bit _ _ _ _ h, if_pos rfl])
theorem setL_back (l : List UInt8) (i : Nat) (on : Bool) (h : i < 8 * l.length) : setL (setL l i on) i (bitL l i) = l := by
  apply bits_ext _ _ (by simp)
  intro j hj
  rw [setL_bit _ _ _ _ (by simpa using h), setL_bit _ _ _ _ h]
  split
  · rename_i e; rw [e]
  · rfl
theorem setL_flip (l : List UInt8) (i : Nat) (on : Bool) (h : i < 8 * l.length) (hb : bitL l i ≠ on) :
    setL l i on = l.take (i / 8) ++ [l.getD (i / 8) 0 ^^^ UInt8.ofNat (2 ^ (i % 8))] ++ l.drop (i / 8 + 1) := by
  have hi : i / 8 < l.length := by omega
  unfold setL
  rw [List.set_eq_take_append_cons_drop, if_pos hi, List.append_assoc]
  congr 1
  show _ :: _ = _ :: _
  congr 1
  apply byte_ext
  intro j hj
  have hk : i % 8 < 8 := Nat.mod_lt _ (by omega)
  have hp := pow_lt256 _ hk
  rw [turnB_bit _ _ _ _ hk hj, UInt8.toNat_xor, UInt8.toNat_ofNat', Nat.mod_eq_of_lt hp, Nat.testBit_xor, Nat.testBit_two_pow]
  unfold bitL at hb
  split
  · rename_i e
    subst e
    revert hb
    cases on <;> cases (l.getD (i / 8) 0).toNat.testBit (i % 8) <;> simp
  · rename_i e
    have : ¬ i % 8 = j := fun e2 => e e2.symm
    simp [this]
theorem fillL_bit (l : List UInt8) (a : Nat) (on : Bool) (n j : Nat) (h : a + n ≤ 8 * l.length) : bitL (fillL l a on n) j = if a ≤ j ∧ j < a + n then on else bitL l j := by
  induction n with
  | zero => rw [if_neg (by omega)]; rfl
  | succ n ih =>
    rw [fillL, setL_bit _ _ _ _ (by simp; omega), ih (by omega)]
    by_cases e : j = a + n
    · rw [if_pos e, if_pos (by omega)]
    · rw [if_neg e]
      by_cases e2 : a ≤ j ∧ j < a + n
      · rw [if_pos e2, if_pos (by omega)]
      · rw [if_neg e2, if_neg (by omega)]
theorem fillL_one (l : List UInt8) (i : Nat) (on : Bool) : fillL l i on 1 = setL l i on := rfl
/-- How many bits from a on, n of them, are on. -/
def rowL (l : List UInt8) (a : Nat) : Nat → Nat
  | 0 => 0
  | n + 1 => rowL l a n + (if bitL l (a + n) then 1 else 0)
theorem countL_add (l : List UInt8) (a n : Nat) : countL l (a + n) = countL l a + rowL l a n := by
  induction n with
  | zero => rfl
  | succ n ih => rw [← Nat.add_assoc, countL, ih, rowL, Nat.add_assoc]
theorem rowL_le (l : List UInt8) (a n : Nat) : rowL l a n ≤ n := by
  induction n with
  | zero => exact Nat.le_refl _
  | succ n ih => rw [rowL]; split <;> omega
theorem countL_le (l : List UInt8) (n : Nat) : countL l n ≤ n := by
  have := countL_add l 0 n
  rw [Nat.zero_add] at this
  have h := rowL_le l 0 n
  rw [this]
  simpa [countL] using h
theorem rowL_congr (l m : List UInt8) (a n : Nat) (h : ∀ j, a ≤ j → j < a + n → bitL l j = bitL m j) : rowL l a n = rowL m a n := by
  induction n with
  | zero => rfl
  | succ n ih => rw [rowL, rowL, ih (fun j h1 h2 => h j h1 (by omega)), h (a + n) (by omega) (by omega)]
theorem countL_congr (l m : List UInt8) (n : Nat) (h : ∀ j, j < n → bitL l j = bitL m j) : countL l n = countL m n := by
  induction n with
  | zero => rfl
  | succ n ih => rw [countL, countL, ih (fun j h1 => h j (by omega)), h n (by omega)]
theorem rowL_all (l : List UInt8) (a n : Nat) (on : Bool) (h : ∀ j, a ≤ j → j < a + n → bitL l j = on) : rowL l a n = if on then n else 0 := by
  induction n with
  | zero => simp [rowL]
  | succ n ih =>
    rw [rowL, ih (fun j h1 h2 => h j h1 (by omega)), h (a + n) (by omega) (by omega)]
    cases on <;> simp
/-- A row that is filled: how many are on then. -/
theorem countL_fill (l : List UInt8) (a : Nat) (on : Bool) (n m : Nat) (h : a + n + m = 8 * l.length) :
    countL (fillL l a on n) (a + n + m) + rowL l a n = countL l (a + n + m) + if on then n else 0 := by
  have hb := fun j => fillL_bit l a on n j (by omega)
  rw [countL_add, countL_add, countL_add l (a + n), countL_add l a,
    countL_congr _ l a (fun j hj => by rw [hb, if_neg (by omega)]),
    rowL_all _ a n on (fun j h1 h2 => by rw [hb, if_pos (by omega)]),
    rowL_congr _ l (a + n) m (fun j h1 h2 => by rw [hb, if_neg (by omega)])]
  omega
theorem leastL_some (l : List UInt8) (on : Bool) (n k : Nat) (h : leastL l on n = some k) : k < n ∧ bitL l k = on ∧ ∀ j, j < k → bitL l j = !on := by
  induction n with
  | zero => simp [leastL] at h
  | succ n ih =>
    rw [leastL] at h
    cases hq : leastL l on n with
    | some q =>
      rw [hq] at h
      simp only [Option.some.injEq] at h
      subst h
      obtain ⟨h1, h2, h3⟩ := ih hq
      exact ⟨by omega, h2, h3⟩
    | none =>
      rw [hq] at h
      simp only at h
      split at h
      · rename_i hb
        simp only [Option.some.injEq] at h
        subst h
        refine ⟨by omega, hb, ?_⟩
        clear ih hb
        revert hq
        induction n with
        | zero => intro _ j hj; omega
        | succ n ih2 =>
          intro hq j hj
          rw [leastL] at hq
          cases hr : leastL l on n with
          | some r => rw [hr] at hq; simp at hq
          | none =>
            rw [hr] at hq
            simp only at hq
            split at hq
            · simp at hq
            · rename_i hne
              by_cases e : j = n
              · subst e
                revert hne
                cases on <;> cases bitL l j <;> simp
              · exact ih2 hr j (by omega)
      · simp at h
theorem leastL_none (l : List UInt8) (on : Bool) (n : Nat) : leastL l on n = none ↔ ∀ j, j < n → bitL l j = !on := by
  induction n with
  | zero => simp [leastL]
  | succ n ih =>
    rw [leastL]
    cases hq : leastL l on n with
    | some q =>
      simp only [reduceCtorEq, false_iff]
      intro hall
      obtain ⟨h1, h2, _⟩ := leastL_some l on n q hq
      have := hall q (by omega)
      rw [h2] at this
      cases on <;> simp at this
    | none =>
      have hb := ih.1 hq
      simp only [ite_eq_right_iff, reduceCtorEq, imp_false]
      constructor
      · intro hne j hj
        by_cases e : j = n
        · subst e
          revert hne
          cases on <;> cases bitL l j <;> simp
        · exact hb j (by omega)
      · intro hall e
        have := hall n (by omega)
        rw [e] at this
        cases on <;> simp at this
theorem leastL_is (l : List UInt8) (on : Bool) (n k : Nat) (hk : k < n) (hb : bitL l k = on) (h : ∀ j, j < k → bitL l j = !on) : leastL l on n = some k := by
  cases hq : leastL l on n with
  | none =>
    have := (leastL_none l on n).1 hq k hk
    rw [hb] at this
    cases on <;> simp at this
  | some q =>
    obtain ⟨_, h2, h3⟩ := leastL_some l on n q hq
    congr 1
    rcases Nat.lt_trichotomy q k with e | e | e
    · have := h q e
      rw [h2] at this
      cases on <;> simp at this
    · exact e
    · have := h3 k e
      rw [hb] at this
      cases on <;> simp at this
theorem countL_none (l : List UInt8) (on : Bool) (n : Nat) (h : ∀ j, j < n → bitL l j = !on) : countL l n = if on then 0 else n := by
  have := countL_add l 0 n
  rw [Nat.zero_add, rowL_all l 0 n (!on) (fun j _ h2 => h j (by omega))] at this
  rw [this]
  cases on <;> simp [countL]
end Go.Proofs.Ythdkbhoeonnkmaa
