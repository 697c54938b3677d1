/- Names by their runes: plain mathematics over the model's decoder. -/
import Derived.Test.YtmidoghjacmdcaaDirsM
import Derived.Lib.TrimU
namespace Go.Proofs.Ytmidoghjacmdcaa
set_option linter.unusedVariables false
set_option linter.unusedSimpArgs false
set_option maxRecDepth 10000
theorem oddB_false {b : UInt8} (h : 128 ≤ b.toNat) : oddB b = false := by
  simp only [oddB, Bool.or_eq_false_iff, beq_eq_false_iff_ne]
  exact ⟨fun e => by rw [e] at h; simp at h, fun e => by rw [e] at h; simp at h⟩
theorem oddB_iff {b : UInt8} : oddB b = true ↔ b.toNat = 47 ∨ b.toNat = 0 := by
  simp only [oddB, Bool.or_eq_true, beq_iff_eq]
  constructor
  · rintro (h | h) <;> subst h <;> decide
  · rintro (h | h)
    · exact .inl (UInt8.toNat_inj.1 h)
    · exact .inr (UInt8.toNat_inj.1 h)
/-- The byte at a place, as the decoder reads it. -/
theorem get_bang (l : List UInt8) (j : Nat) (h : j < l.length) : ((⟨l.toArray⟩ : ByteArray).get! j) = l[j] := by
  show l.toArray[j]! = l[j]
  simp [h]
theorem decode_kinds (l : List UInt8) (pos : Nat) (h : pos < l.length) :
    (oddB l[pos] = true ∧ ((Utf8.decode ⟨l.toArray⟩ pos).1 = 47 ∨ (Utf8.decode ⟨l.toArray⟩ pos).1 = 0)) ∨
    (¬ ((Utf8.decode ⟨l.toArray⟩ pos).1 = 47 ∨ (Utf8.decode ⟨l.toArray⟩ pos).1 = 0) ∧ pos + (Utf8.decode ⟨l.toArray⟩ pos).2 ≤ l.length ∧ ∀ j (hj : j < l.length), pos ≤ j → j < pos + (Utf8.decode ⟨l.toArray⟩ pos).2 → oddB l[j] = false) := by
  have hsz : (⟨l.toArray⟩ : ByteArray).size = l.length := by simp [ByteArray.size]
  have g0 := get_bang l pos h
  have hc : ∀ k, (decide (pos + k < l.length) && ((⟨l.toArray⟩ : ByteArray).get! (pos + k)).toNat / 64 == 2) = true → pos + k < l.length ∧ ∀ hj : pos + k < l.length, oddB l[pos + k] = false := by
    intro k hk
    simp only [Bool.and_eq_true, decide_eq_true_eq, beq_iff_eq] at hk
    refine ⟨hk.1, fun hj => oddB_false ?_⟩
    rw [← get_bang l _ hj]; omega
  by_cases hb : (l[pos]).toNat < 128
  · have e : Utf8.decode ⟨l.toArray⟩ pos = ((l[pos]).toNat, 1) := by
      unfold Utf8.decode
      simp only [Nat.add_zero, g0]
      rw [if_pos hb]
    rw [e]
    by_cases ho : oddB l[pos] = true
    · exact .inl ⟨ho, oddB_iff.1 ho⟩
    · refine .inr ⟨fun h2 => ho (oddB_iff.2 h2), by simp only; omega, fun j hj h1 h2 => ?_⟩
      obtain rfl : j = pos := by simp only at h2; omega
      simpa using ho
  · have h0 : oddB l[pos] = false := oddB_false (by omega)
    have one : ∀ j (hj : j < l.length), pos ≤ j → j < pos + 1 → oddB l[j] = false := by
      intro j hj h1 h2
      obtain rfl : j = pos := by omega
      exact h0
    refine .inr ?_
    unfold Utf8.decode
    simp only [Nat.add_zero, g0, hsz]
    rw [if_neg hb]
    split
    · rename_i hq
      simp only [Bool.and_eq_true] at hq
      have c1 := hc 1 (by simpa using hq.2)
      split
      · rename_i hv
        refine ⟨by simp only; omega, by simp only; omega, fun j hj h1 h2 => ?_⟩
        simp only at h2
        rcases Nat.lt_or_ge j (pos + 1) with h3 | h3
        · exact one j hj h1 h3
        · obtain rfl : j = pos + 1 := by omega
          exact c1.2 hj
      · exact ⟨by simp only [Utf8.runeError]; omega, by simp only; omega, one⟩
    · split
      · rename_i hq
        simp only [Bool.and_eq_true] at hq
        have c1 := hc 1 (by simpa using hq.1.2)
        have c2 := hc 2 (by simpa using hq.2)
        split
        · rename_i hv
          simp only [Bool.and_eq_true, decide_eq_true_eq] at hv
          refine ⟨by simp only; omega, by simp only; omega, fun j hj h1 h2 => ?_⟩
          simp only at h2
          rcases Nat.lt_or_ge j (pos + 1) with h3 | h3
          · exact one j hj h1 h3
          · rcases Nat.lt_or_ge j (pos + 2) with h4 | h4
            · obtain rfl : j = pos + 1 := by omega
              exact c1.2 hj
            · obtain rfl : j = pos + 2 := by omega
              exact c2.2 hj
        · exact ⟨by simp only [Utf8.runeError]; omega, by simp only; omega, one⟩
      · split
        · rename_i hq
          simp only [Bool.and_eq_true] at hq
          have c1 := hc 1 (by simpa using hq.1.1.2)
          have c2 := hc 2 (by simpa using hq.1.2)
          have c3 := hc 3 (by simpa using hq.2)
          split
          · rename_i hv
            simp only [Bool.and_eq_true, decide_eq_true_eq] at hv
            refine ⟨by simp only; omega, by simp only; omega, fun j hj h1 h2 => ?_⟩
            simp only at h2
            rcases Nat.lt_or_ge j (pos + 1) with h3 | h3
            · exact one j hj h1 h3
            · rcases Nat.lt_or_ge j (pos + 2) with h4 | h4
              · obtain rfl : j = pos + 1 := by omega
                exact c1.2 hj
              · rcases Nat.lt_or_ge j (pos + 3) with h5 | h5
                · obtain rfl : j = pos + 2 := by omega
                  exact c2.2 hj
                · obtain rfl : j = pos + 3 := by omega
                  exact c3.2 hj
          · exact ⟨by simp only [Utf8.runeError]; omega, by simp only; omega, one⟩
        · exact ⟨by simp only [Utf8.runeError]; omega, by simp only; omega, one⟩
end Go.Proofs.Ytmidoghjacmdcaa
