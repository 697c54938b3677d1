/- Layer 10 (dirs), the document's own answers: Same. -/
import Derived.Test.YtmidoghjacmdcaaDirs7
import Derived.Test.YtmidoghjacmdcaaBaseEntEq
namespace Go.Proofs.Ytmidoghjacmdcaa
open Go.RowKit Go.Lib
set_option linter.unusedVariables false
set_option linter.unusedSimpArgs false
set_option maxRecDepth 10000
set_option maxHeartbeats 2000000 in
theorem refSame_any (a b : Value) (l m : List En) (w : World) (ha : EntRow w a l) (hb : EntRow w b m) (hl : l.length ≤ 72) (hm : m.length ≤ 72) :
    Calls Try.prog 22 #[a, b] w fun e w' => e = .returned (.bool (decide (l = m))) ∧ Below w.heap.size w w' := by
  obtain ⟨A, c, rfl⟩ := ha.form
  obtain ⟨B, d, rfl⟩ := hb.form
  have HA := Lib.hid ha
  have HB := Lib.hid hb
  clear ha hb
  by_cases hlm : l.length = m.length
  · obtain ⟨n, hn⟩ : ∃ n, l.length = n := ⟨_, rfl⟩
    have Hn := Lib.hid hn
    have Hm := Lib.hid (hlm.symm.trans hn)
    rw [hn] at HA hl
    rw [← hlm, hn] at HB hm
    rw [← hlm, hn]
    clear hn hlm hm
    go_enter Try.func22, Try.ntmps22
    go_wp2_with fail
    go_loopw [5] (fun i wr => ∃ k : Nat, k ≤ n ∧ i = .int .i64 k ∧ (∀ j, j < k → l[j]? = m[j]?) ∧ Below w.heap.size w wr) (fun i _ => n - (Go.RowKit.intOf i).toNat)
    case atStart => exact ⟨0, Nat.zero_le _, rfl, fun j h => absurd h (Nat.not_lt_zero _), Below.refl _ _⟩
    case round =>
      obtain ⟨k, hk, rfl, hno, hb⟩ := hrel
      have Hno := Lib.hid hno
      have HBW := Lib.hid hb
      clear hno hb
      by_cases hlt : k < n
      · have hltz : (k : Int) < (n : Int) := by omega
        obtain ⟨x, hx⟩ : ∃ x, l[k]? = some x := ⟨l[k]'(by have := Hn.out; omega), List.getElem?_eq_getElem (by have := Hn.out; omega)⟩
        obtain ⟨y, hy⟩ : ∃ y, m[k]? = some y := ⟨m[k]'(by have := Hm.out; omega), List.getElem?_eq_getElem (by have := Hm.out; omega)⟩
        obtain ⟨g, rfl, x0, x1⟩ := (HA.out.below HBW.out).at hx
        obtain ⟨h, rfl, y0, y1⟩ := (HB.out.below HBW.out).at hy
        have heq := eq_ent x y
        have Hx := Lib.hid hx
        have Hy := Lib.hid hy
        clear hx hy
        by_cases hxy : x = y
        · subst hxy
          have heq2 := eq_ent x x
          have ht : decide (x = x) = true := by simp
          rw [ht] at heq heq2
          clear ht heq
          go_wp2_with fail
          go_quiet (fail)
          go_wp2_with fail
          go_roundw
          case rel =>
            refine ⟨k + 1, by omega, by go_num, fun j hj => ?_, below_drewN HBW.out _⟩
            rcases Nat.lt_or_ge j k with h | h
            · exact Hno.out j h
            · obtain rfl : j = k := by omega
              rw [Hx.out, Hy.out]
          case measure => simp [Go.RowKit.intOf]; omega
        · have hne : l ≠ m := fun e => hxy (Option.some.inj (Hx.out.symm.trans (e ▸ Hy.out)))
          have HF := Lib.hid (show decide (l = m) = false by simp [hne])
          have ht : decide (x = y) = false := by simp [hxy]
          rw [ht] at heq
          clear ht hxy hne
          go_wp2_with fail
          go_quiet (fail)
          go_wp2_with fail
          go_ret
          exact ⟨by rw [HF.out]; rfl, below_drewN HBW.out _⟩
      · have hltz : ¬ (k : Int) < (n : Int) := by omega
        have heq : l = m := by
          apply List.ext_getElem?
          intro j
          rcases Nat.lt_or_ge j k with h | h
          · exact Hno.out j h
          · rw [List.getElem?_eq_none (by have := Hn.out; omega), List.getElem?_eq_none (by have := Hm.out; omega)]
        have HF := Lib.hid (show decide (l = m) = true by simp [heq])
        clear heq
        go_wp2_with fail
        go_ret
        exact ⟨by rw [HF.out]; rfl, HBW.out⟩
  · have hne : l ≠ m := fun e => hlm (by rw [e])
    have HF := Lib.hid (show decide (l = m) = false by simp [hne])
    have q : ((l.length : Int) != (m.length : Int)) = true := by
      rw [bne_iff_ne]; omega
    clear hne hlm
    go_enter Try.func22, Try.ntmps22
    go_wp2_with fail
    go_ret
    exact ⟨by rw [HF.out]; rfl, Below.refl _ _⟩
end Go.Proofs.Ytmidoghjacmdcaa
