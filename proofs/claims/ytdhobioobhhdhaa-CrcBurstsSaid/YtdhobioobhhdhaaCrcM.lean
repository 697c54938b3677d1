/- CRC-32, bit by bit: plain mathematics, no program. -/
namespace Go.Proofs.Ytdhobioobhhdhaa
/-- What a register is combined with where a 1 leaves it. -/
def poly : BitVec 32 := 0xedb88320#32
/-- One bit. -/
def st1 (c : BitVec 32) : BitVec 32 := if c.getLsbD 0 then (c >>> 1) ^^^ poly else c >>> 1
/-- So many bits 0. -/
def stn : Nat → BitVec 32 → BitVec 32
  | 0, c => c
  | n + 1, c => stn n (st1 c)
theorem xor_swap (a b p q : BitVec 32) : (a ^^^ b) ^^^ (p ^^^ q) = (a ^^^ p) ^^^ (b ^^^ q) := by
  rw [BitVec.xor_assoc, BitVec.xor_assoc]; congr 1
  rw [← BitVec.xor_assoc, ← BitVec.xor_assoc, BitVec.xor_comm b p]
theorem st1_xor (a b : BitVec 32) : st1 (a ^^^ b) = st1 a ^^^ st1 b := by
  unfold st1
  rw [BitVec.getLsbD_xor, BitVec.ushiftRight_xor_distrib]
  cases a.getLsbD 0 <;> cases b.getLsbD 0 <;> simp
  · exact BitVec.xor_assoc _ _ _
  · rw [BitVec.xor_assoc, BitVec.xor_assoc, BitVec.xor_comm poly]
  · rw [xor_swap]; simp
theorem stn_xor (n : Nat) (a b : BitVec 32) : stn n (a ^^^ b) = stn n a ^^^ stn n b := by
  induction n generalizing a b with
  | zero => rfl
  | succ n ih => simp only [stn, st1_xor, ih]
theorem stn_add (m n : Nat) (c : BitVec 32) : stn (m + n) c = stn n (stn m c) := by
  induction m generalizing c with
  | zero => simp [stn]
  | succ m ih => rw [Nat.succ_add]; simp only [stn, ih]
theorem st1_zero (c : BitVec 32) (h : st1 c = 0#32) : c = 0#32 := by
  unfold st1 at h
  split at h
  · exfalso
    have := congrArg (fun x => x.getLsbD 31) h
    simp [poly] at this
  · rename_i h0
    apply BitVec.eq_of_getLsbD_eq
    intro i hi
    cases i with
    | zero => simpa using h0
    | succ i =>
      have := congrArg (fun x => x.getLsbD i) h
      simp at this
      rw [Nat.add_comm]; simp [this]
theorem stn_zero (n : Nat) (c : BitVec 32) (h : stn n c = 0#32) : c = 0#32 := by
  induction n generalizing c with
  | zero => exact h
  | succ n ih => exact st1_zero c (ih _ h)
theorem stn_inj (n : Nat) (a b : BitVec 32) (h : stn n a = stn n b) : a = b := by
  have h2 : stn n (a ^^^ b) = 0#32 := by rw [stn_xor, h]; simp
  have := stn_zero n _ h2
  exact BitVec.xor_eq_zero_iff.1 this
/-- Bits 0 go out. -/
theorem stn_shift (k : Nat) (x : BitVec 32) (h : ∀ i, i < k → x.getLsbD i = false) : stn k x = x >>> k := by
  induction k generalizing x with
  | zero => simp [stn]
  | succ k ih =>
    have h0 : st1 x = x >>> 1 := by unfold st1; rw [h 0 (by omega)]; rfl
    rw [stn, h0, ih]
    · rw [← BitVec.shiftRight_add, Nat.add_comm]
    · intro i hi
      rw [BitVec.getLsbD_ushiftRight]
      exact h _ (by omega)
/-- A byte as a register's low bits. -/
def low (b : UInt8) : BitVec 32 := BitVec.ofNat 32 b.toNat
theorem low_getLsbD (b : UInt8) (i : Nat) : (low b).getLsbD i = b.toNat.testBit i := by
  unfold low
  rw [BitVec.getLsbD_ofNat]
  by_cases h : i < 32
  · simp [h]
  · have := b.toNat_lt
    rw [Nat.testBit_lt_two_pow]
    · simp
    · exact Nat.lt_of_lt_of_le this (Nat.pow_le_pow_right (n := 2) (by omega) (show 8 ≤ i by omega))
theorem low_xor (a b : UInt8) : low (a ^^^ b) = low a ^^^ low b := by
  apply BitVec.eq_of_getLsbD_eq
  intro i hi
  rw [BitVec.getLsbD_xor, low_getLsbD, low_getLsbD, low_getLsbD]
  simp
/-- The register behind all bytes of a text. -/
def crcL (c : BitVec 32) : List UInt8 → BitVec 32
  | [] => c
  | b :: r => crcL (stn 8 (c ^^^ low b)) r
theorem crcL_append (c : BitVec 32) (l m : List UInt8) : crcL c (l ++ m) = crcL (crcL c l) m := by
  induction l generalizing c with
  | nil => rfl
  | cons b r ih => exact ih _
theorem crcL_snoc (c : BitVec 32) (l : List UInt8) (b : UInt8) : crcL c (l ++ [b]) = stn 8 (crcL c l ^^^ low b) := crcL_append c l [b]
theorem crcL_lin (c d : BitVec 32) (l : List UInt8) : crcL (c ^^^ d) l = crcL c l ^^^ stn (8 * l.length) d := by
  induction l generalizing c d with
  | nil => rfl
  | cons b r ih =>
    have h : (c ^^^ d) ^^^ low b = (c ^^^ low b) ^^^ d := by rw [BitVec.xor_assoc, BitVec.xor_comm d, ← BitVec.xor_assoc]
    rw [crcL, h, stn_xor, ih, List.length_cons, Nat.mul_succ, Nat.add_comm, stn_add]
    rfl
theorem crcL_both (c d : BitVec 32) (l m : List UInt8) (h : l.length = m.length) : crcL (c ^^^ d) (List.zipWith (· ^^^ ·) l m) = crcL c l ^^^ crcL d m := by
  induction l generalizing c d m with
  | nil => cases m with
    | nil => rfl
    | cons => simp at h
  | cons b r ih =>
    cases m with
    | nil => simp at h
    | cons x m =>
      rw [List.zipWith_cons_cons, crcL, crcL, crcL, low_xor, xor_swap, stn_xor]
      exact ih _ _ m (by simpa using h)
/-- By a table: a byte goes out, what it does comes in. -/
theorem stn8_table (c : BitVec 32) (b : UInt8) : stn 8 (c ^^^ low b) = (c >>> 8) ^^^ stn 8 (low (UInt8.ofNat c.toNat ^^^ b)) := by
  have h1 : c ^^^ low b = (c ^^^ low (UInt8.ofNat c.toNat)) ^^^ low (UInt8.ofNat c.toNat ^^^ b) := by
    rw [low_xor, BitVec.xor_assoc]
    congr 1
    rw [← BitVec.xor_assoc]
    simp
  have hlow : ∀ i, (low (UInt8.ofNat c.toNat)).getLsbD i = (decide (i < 8) && c.getLsbD i) := by
    intro i
    rw [low_getLsbD, UInt8.toNat_ofNat']
    rw [Nat.testBit_mod_two_pow]
    rfl
  rw [h1, stn_xor, stn_shift]
  · congr 1
    apply BitVec.eq_of_getLsbD_eq
    intro i hi
    have h8 : ¬ 8 + i < 8 := by omega
    simp [hlow, h8]
  · intro i hi
    simp [hlow, hi]
/-- One bit of a byte. -/
theorem stn8_bit : ∀ k : Fin 8, stn 8 (low (1 <<< UInt8.ofNat k.val)) = stn (8 - k.val) 1#32 := by decide +kernel
theorem crcL_flip (c : BitVec 32) (l : List UInt8) (k : Nat) (h : k / 8 < l.length) :
    crcL c (l.set (k / 8) (l[k / 8] ^^^ 1 <<< UInt8.ofNat (k % 8))) = crcL c l ^^^ stn (8 * l.length - k) 1#32 := by
  induction l generalizing c k with
  | nil => simp at h
  | cons x r ih =>
    by_cases h8 : k < 8
    · have h0 : k / 8 = 0 := Nat.div_eq_of_lt h8
      have h1 : k % 8 = k := Nat.mod_eq_of_lt h8
      simp only [h0, h1, List.set_cons_zero, List.getElem_cons_zero]
      rw [crcL, crcL, low_xor, ← BitVec.xor_assoc, stn_xor, crcL_lin, stn8_bit ⟨k, h8⟩, ← stn_add, List.length_cons]
      congr 2
      show 8 - k + 8 * r.length = _
      omega
    · have h0 : k / 8 = (k - 8) / 8 + 1 := by omega
      have h1 : k % 8 = (k - 8) % 8 := by omega
      simp only [h0, h1, List.set_cons_succ, List.getElem_cons_succ]
      rw [crcL, crcL, ih _ (k - 8) (by simp [h0] at h; omega), List.length_cons]
      congr 2
      omega
/-- Bits i and below of p. -/
def part (p i : Nat) : BitVec 32 := BitVec.ofNat 32 (p % 2 ^ i)
theorem part_step1 (p i : Nat) (hi : i < 32) (h : p / 2 ^ i % 2 = 1) : part p (i + 1) = part p i ^^^ (1#32 <<< i) := by
  apply BitVec.eq_of_getLsbD_eq
  intro j hj
  have ht : p.testBit i = true := by rw [Nat.testBit_eq_decide_div_mod_eq]; simp [h]
  simp only [part, BitVec.getLsbD_xor, BitVec.getLsbD_ofNat, Nat.testBit_mod_two_pow, hj, decide_true, Bool.true_and, BitVec.getLsbD_shiftLeft]
  by_cases h1 : j < i
  · have h3 : j < i + 1 := by omega
    simp [h1, h3]
  · by_cases h2 : j = i
    · subst h2; simp [ht]
    · have h3 : ¬ j < i + 1 := by omega
      have h4 : Nat.testBit 1 (j - i) = false := Nat.testBit_lt_two_pow (Nat.one_lt_two_pow (by omega))
      simp [h1, h3, h4]
theorem part_step0 (p i : Nat) (h : p / 2 ^ i % 2 ≠ 1) : part p (i + 1) = part p i := by
  have ht : p.testBit i = false := by rw [Nat.testBit_eq_decide_div_mod_eq]; simp; omega
  apply BitVec.eq_of_getLsbD_eq
  intro j hj
  simp only [part, BitVec.getLsbD_ofNat, Nat.testBit_mod_two_pow, hj, decide_true, Bool.true_and]
  by_cases h1 : j < i
  · have h3 : j < i + 1 := by omega
    simp [h1, h3]
  · by_cases h2 : j = i
    · subst h2; simp [ht]
    · have h3 : ¬ j < i + 1 := by omega
      simp [h1, h3]
theorem stn_bit (i : Nat) (hi : i < 32) : stn i (1#32 <<< i) = 1#32 := by
  rw [stn_shift]
  · apply BitVec.eq_of_getLsbD_eq
    intro j hj
    rw [BitVec.getLsbD_ushiftRight, BitVec.getLsbD_shiftLeft]
    have h1 : ¬ i + j < i := by omega
    by_cases h2 : i + j < 32
    · simp [h2, BitVec.getLsbD_one]
    · have h3 : ¬ j = 0 := by omega
      simp [h2, BitVec.getLsbD_one, h3]
  · intro j hj
    simp [BitVec.getLsbD_shiftLeft, hj]
theorem burst_step1 (p i N : Nat) (hi : i < 32) (hN : 32 ≤ N) (h : p / 2 ^ i % 2 = 1) : stn N (part p (i + 1)) = stn N (part p i) ^^^ stn (N - i) 1#32 := by
  rw [part_step1 p i hi h, stn_xor]
  congr 1
  have h2 : N = i + (N - i) := by omega
  conv => lhs; rw [h2, stn_add, stn_bit i hi]
/-- What the four bytes of a seal do to a register. -/
theorem crcL_le4 (c : BitVec 32) (a b d e : UInt8) : crcL c [a, b, d, e] = stn 32 (c ^^^ (low a ^^^ (low b <<< 8 ^^^ (low d <<< 16 ^^^ low e <<< 24)))) := by
  have hb : ∀ (x : UInt8) (k : Nat), k ≤ 24 → stn k (low x <<< k) = low x := by
    intro x k hk
    rw [stn_shift]
    · apply BitVec.eq_of_getLsbD_eq
      intro j hj
      rw [BitVec.getLsbD_ushiftRight, BitVec.getLsbD_shiftLeft]
      have h1 : ¬ k + j < k := by omega
      have h4 : k + j - k = j := by omega
      by_cases h2 : k + j < 32
      · simp [h2]
      · have h3 : (low x).getLsbD j = false := by
          rw [low_getLsbD]
          apply Nat.testBit_lt_two_pow
          exact Nat.lt_of_lt_of_le x.toNat_lt (Nat.pow_le_pow_right (n := 2) (by omega) (show 8 ≤ j by omega))
        simp [h2, h3]
    · intro j hj
      simp [BitVec.getLsbD_shiftLeft, hj]
  simp only [crcL]
  have h32 : ∀ x, stn 32 x = stn 8 (stn 8 (stn 8 (stn 8 x))) := fun x => by rw [← stn_add, ← stn_add, ← stn_add]
  rw [h32]
  have e8 : stn 8 (low b <<< 8) = low b := hb b 8 (by omega)
  have e16 : stn 8 (stn 8 (low d <<< 16)) = low d := by rw [← stn_add]; exact hb d 16 (by omega)
  have e24 : stn 8 (stn 8 (stn 8 (low e <<< 24))) = low e := by rw [← stn_add, ← stn_add]; exact hb e 24 (by omega)
  simp only [stn_xor, e8, e16, e24, BitVec.xor_assoc]
theorem low_part (v : BitVec 32) (k i : Nat) (hk : k ≤ 24) : (low (UInt8.ofNat (v.toNat / 2 ^ k % 256)) <<< k).getLsbD i = (decide (k ≤ i) && (decide (i < k + 8) && v.getLsbD i)) := by
  rw [BitVec.getLsbD_shiftLeft, low_getLsbD, UInt8.toNat_ofNat', Nat.testBit_mod_two_pow, show (256 : Nat) = 2 ^ 8 from rfl, Nat.testBit_mod_two_pow, Nat.testBit_div_two_pow]
  by_cases h1 : k ≤ i
  · have h2 : ¬ i < k := by omega
    have h3 : i - k + k = i := by omega
    by_cases h4 : i < k + 8
    · have h5 : i - k < 8 := by omega
      have h6 : i < 32 := by omega
      simp [h1, h2, h3, h4, h5, h6, BitVec.testBit_toNat]
    · have h5 : ¬ i - k < 8 := by omega
      simp [h4, h5]
  · have h2 : i < k := by omega
    simp [h1, h2]
/-- The bytes of a register, the lowest first. -/
def four (v : BitVec 32) : List UInt8 := [UInt8.ofNat (v.toNat % 256), UInt8.ofNat (v.toNat / 256 % 256), UInt8.ofNat (v.toNat / 65536 % 256), UInt8.ofNat (v.toNat / 16777216 % 256)]
theorem crcL_four (c v : BitVec 32) : crcL c (four v) = stn 32 (c ^^^ v) := by
  unfold four
  rw [crcL_le4]
  congr 2
  apply BitVec.eq_of_getLsbD_eq
  intro i hi
  have h0 := low_part v 0 i (by omega)
  have h1 := low_part v 8 i (by omega)
  have h2 := low_part v 16 i (by omega)
  have h3 := low_part v 24 i (by omega)
  simp only [Nat.pow_zero, Nat.div_one, BitVec.shiftLeft_zero] at h0
  simp only [BitVec.getLsbD_xor]
  rw [h0, show (256 : Nat) = 2 ^ 8 from rfl, h1, show (65536 : Nat) = 2 ^ 16 from rfl, h2, show (16777216 : Nat) = 2 ^ 24 from rfl, h3]
  by_cases a : i < 8
  · have b1 : ¬ 8 ≤ i := by omega
    have b2 : ¬ 16 ≤ i := by omega
    have b3 : ¬ 24 ≤ i := by omega
    simp [a, b1, b2, b3]
  · by_cases b : i < 16
    · have b1 : 8 ≤ i := by omega
      have b2 : ¬ 16 ≤ i := by omega
      have b3 : ¬ 24 ≤ i := by omega
      simp [a, b, b1, b2, b3]
    · by_cases d : i < 24
      · have b2 : 16 ≤ i := by omega
        have b3 : ¬ 24 ≤ i := by omega
        simp [a, b, d, b2, b3]
      · have b3 : 24 ≤ i := by omega
        simp [a, b, d, b3, hi]
/-- The bytes of a text's sum. -/
def sealL (l : List UInt8) : List UInt8 := four (~~~ (crcL 0xffffffff#32 l))
theorem sealL_length (l : List UInt8) : (sealL l).length = 4 := rfl
/-- What a whole sealed text leaves. -/
def residue : BitVec 32 := stn 32 0xffffffff#32
theorem ones_all : 0xffffffff#32 = BitVec.allOnes 32 := by decide
theorem sealed_residue (l : List UInt8) : crcL 0xffffffff#32 (l ++ sealL l) = residue := by
  rw [crcL_append, sealL, crcL_four]
  unfold residue
  congr 1
  generalize crcL (4294967295#32) l = x
  rw [ones_all]
  apply BitVec.eq_of_getLsbD_eq
  intro i hi
  rw [BitVec.getLsbD_xor, BitVec.getLsbD_not, BitVec.getLsbD_allOnes]
  cases x.getLsbD i <;> simp [hi]
theorem four_inj (a b : BitVec 32) (h : four a = four b) : a = b := by
  have h1 := crcL_four 0#32 a
  have h2 := crcL_four 0#32 b
  rw [h, h2] at h1
  have := stn_inj 32 _ _ h1
  simpa using this.symm
theorem four_of (q : List UInt8) (h : q.length = 4) : ∃ v, q = four v := by
  match q, h with
  | [a, b, d, e], _ =>
    refine ⟨BitVec.ofNat 32 (a.toNat + 256 * (b.toNat + 256 * (d.toNat + 256 * e.toNat))), ?_⟩
    have ha := a.toNat_lt
    have hb := b.toNat_lt
    have hd := d.toNat_lt
    have he := e.toNat_lt
    have e1 : ∀ x : UInt8, UInt8.ofNat x.toNat = x := fun x => UInt8.ofNat_toNat
    unfold four
    rw [BitVec.toNat_ofNat, Nat.mod_eq_of_lt (a := a.toNat + 256 * (b.toNat + 256 * (d.toNat + 256 * e.toNat))) (by omega)]
    have f0 : (a.toNat + 256 * (b.toNat + 256 * (d.toNat + 256 * e.toNat))) % 256 = a.toNat := by omega
    have f1 : (a.toNat + 256 * (b.toNat + 256 * (d.toNat + 256 * e.toNat))) / 256 % 256 = b.toNat := by omega
    have f2 : (a.toNat + 256 * (b.toNat + 256 * (d.toNat + 256 * e.toNat))) / 65536 % 256 = d.toNat := by omega
    have f3 : (a.toNat + 256 * (b.toNat + 256 * (d.toNat + 256 * e.toNat))) / 16777216 % 256 = e.toNat := by omega
    rw [f0, f1, f2, f3, e1, e1, e1, e1]
/-- Whose sum fits is what leaves the residue. -/
theorem fits_residue (l q : List UInt8) (hq : q.length = 4) : q = sealL l ↔ crcL 0xffffffff#32 (l ++ q) = residue := by
  constructor
  · rintro rfl; exact sealed_residue l
  · intro h
    obtain ⟨v, rfl⟩ := four_of q hq
    rw [crcL_append, crcL_four] at h
    have h2 := stn_inj 32 _ _ h
    unfold sealL
    congr 1
    generalize crcL 0xffffffff#32 l = x at h2
    have h3 : v = x ^^^ 0xffffffff#32 := by
      rw [← h2, ← BitVec.xor_assoc, BitVec.xor_self, BitVec.zero_xor]
    rw [h3, ones_all]
    exact BitVec.xor_allOnes
end Go.Proofs.Ytdhobioobhhdhaa
