/- Layer 10 (dirs), continued: names, and which entries may be. -/
import Derived.Test.YtmidoghjacmdcaaDirs1
namespace Go.Proofs.Ytmidoghjacmdcaa
open Go.RowKit Go.Lib
set_option linter.unusedVariables false
set_option linter.unusedSimpArgs false
set_option maxRecDepth 10000
theorem nameB_odd {l : List UInt8} (h0 : l ≠ []) (h1 : ¬ 27 < l.length) (h2 : l ≠ [46]) (h3 : l ≠ [46, 46]) : nameB l = !(l.any oddB) := by
  unfold nameB
  have : 0 < l.length := List.length_pos_iff.2 h0
  rw [decide_eq_true ⟨by omega, by omega, h2, h3⟩]
  rfl
theorem nameB_no {l : List UInt8} (h : l = [] ∨ 27 < l.length ∨ l = [46] ∨ l = [46, 46]) : nameB l = false := by
  unfold nameB
  rw [decide_eq_false]
  · rfl
  · rintro ⟨h1, h2, h3, h4⟩
    rcases h with h | h | h | h
    · rw [h] at h1; simp at h1
    · omega
    · exact h3 h
    · exact h4 h
theorem nameE_no {l : List UInt8} (h : nameB l = false) : nameE l = 2 := by unfold nameE; rw [h]; rfl
theorem nameE_yes {l : List UInt8} (h : nameB l = true) : nameE l = 0 := by unfold nameE; rw [h]; rfl
set_option maxHeartbeats 1000000 in
theorem name_any (l : List UInt8) (w : World) (hs : l.length ≤ maxLen) :
    Calls Try.prog 46 #[str l] w fun e w' => e = .returned (.int .i64 (nameE l)) ∧ Below w.heap.size w w' := by
  unfold maxLen at hs
  by_cases h0 : l = []
  · subst h0
    go_enter Try.func46, Try.ntmps46
    go_wp2
    go_ret
    exact ⟨rfl, Below.refl _ _⟩
  · by_cases h1 : 27 < l.length
    · have HE := Lib.hid (nameE_no (nameB_no (.inr (.inl h1))))
      go_enter Try.func46, Try.ntmps46
      go_wp2
      go_ret
      exact ⟨by rw [HE.out]; rfl, Below.refl _ _⟩
    · by_cases h2 : l = [46]
      · subst h2
        go_enter Try.func46, Try.ntmps46
        go_wp2
        go_ret
        exact ⟨rfl, Below.refl _ _⟩
      · by_cases h3 : l = [46, 46]
        · subst h3
          go_enter Try.func46, Try.ntmps46
          go_wp2
          go_ret
          exact ⟨rfl, Below.refl _ _⟩
        · have hB := nameB_odd h0 h1 h2 h3
          have hc := containsFunc_any l
          have d1 : ¬ (27 : Int) < (l.length : Int) := by omega
          have b1 : l.isEmpty = false := by simp [h0]
          have b2 : (l == [46]) = false := by simp [h2]
          have b3 : (l == [46, 46]) = false := by simp [h3]
          cases ha : l.any oddB with
          | true =>
            rw [ha] at hB
            have HE := Lib.hid (nameE_no hB)
            rw [ha] at hc
            have Hc := Lib.hid hc
            clear hB ha hc
            go_enter Try.func46, Try.ntmps46
            go_wp2_with fail
            refine (Hc.out _).mono ?_
            rintro e w1 ⟨rfl, hb⟩
            go_wp2_with fail
            go_ret
            exact ⟨by rw [HE.out]; rfl, hb⟩
          | false =>
            rw [ha] at hB
            have HE := Lib.hid (nameE_yes hB)
            rw [ha] at hc
            have Hc := Lib.hid hc
            clear hB ha hc
            go_enter Try.func46, Try.ntmps46
            go_wp2_with fail
            refine (Hc.out _).mono ?_
            rintro e w1 ⟨rfl, hb⟩
            go_wp2_with fail
            go_ret
            exact ⟨by rw [HE.out]; rfl, hb⟩
set_option maxHeartbeats 1000000 in
theorem isName_any (l : List UInt8) (w : World) (hs : l.length ≤ maxLen) :
    Calls Try.prog 38 #[str l] w fun e w' => e = .returned (.bool (nameB l)) ∧ w = w' := by
  unfold maxLen at hs
  by_cases h0 : l = []
  · subst h0
    go_enter Try.func38, Try.ntmps38
    go_wp2
    go_ret
    exact ⟨rfl, rfl⟩
  · by_cases h1 : 27 < l.length
    · have HE := Lib.hid (nameB_no (.inr (.inl h1)))
      have d2 : ¬ (l.length : Int) < 1 := by omega
      go_enter Try.func38, Try.ntmps38
      go_wp2
      go_ret
      exact ⟨by rw [HE.out]; rfl, rfl⟩
    · have hp : 0 < l.length := List.length_pos_iff.2 h0
      by_cases h2 : l = [46]
      · subst h2
        go_enter Try.func38, Try.ntmps38
        go_wp2
        go_ret
        exact ⟨rfl, rfl⟩
      by_cases h3 : l = [46, 46]
      · subst h3
        go_enter Try.func38, Try.ntmps38
        go_wp2
        go_ret
        exact ⟨rfl, rfl⟩
      · skip
        have HB := Lib.hid (nameB_odd h0 h1 h2 h3)
        have d1 : ¬ (27 : Int) < (l.length : Int) := by omega
        have d2 : ¬ (l.length : Int) < 1 := by omega
        have b2 : (l == [46]) = false := by simp [h2]
        have b3 : (l == [46, 46]) = false := by simp [h3]
        clear h0
        go_enter Try.func38, Try.ntmps38
        go_wp2_with fail
        go_loop [3] (fun i => ∃ k : Nat, k ≤ l.length ∧ i = .int .i64 k ∧ (∀ j (hj : j < l.length), j < k → oddB l[j] = false)) (fun i => l.length - (Go.RowKit.intOf i).toNat)
        case atStart => exact ⟨0, Nat.zero_le _, rfl, fun j _ h => absurd h (Nat.not_lt_zero _)⟩
        case round =>
          obtain ⟨k, hk, rfl, hno⟩ := hrel
          have Hno := Lib.hid hno
          clear hno
          by_cases hlt : k < l.length
          · obtain ⟨b, hbt⟩ : ∃ b, l[k] = b := ⟨_, rfl⟩
            have Hmem := Lib.hid (show b ∈ l from hbt ▸ List.getElem_mem hlt)
            have hb := b.toNat_lt
            cases ho : oddB b with
            | true =>
              have hA : l.any oddB = true := List.any_eq_true.2 ⟨b, Hmem.out, ho⟩
              have HE := Lib.hid (show nameB l = false by rw [HB.out, hA]; rfl)
              have ho2 := oddB_iff.1 ho
              clear hA ho
              rcases ho2 with e | e
              · have q : ((b.toNat : Int) == 47) = true := by rw [e]; rfl
                clear e
                go_wp2
                go_ret
                exact ⟨by rw [HE.out]; rfl, rfl⟩
              · have q : ((b.toNat : Int) == 47) = false := by rw [e]; rfl
                have q2 : ((b.toNat : Int) == 0) = true := by rw [e]; rfl
                clear e
                go_wp2
                go_ret
                exact ⟨by rw [HE.out]; rfl, rfl⟩
            | false =>
              have ho2 : ¬ (b.toNat = 47 ∨ b.toNat = 0) := fun h => by rw [oddB_iff.2 h] at ho; cases ho
              have q : ((b.toNat : Int) == 47) = false := by simp; omega
              have q2 : ((b.toNat : Int) == 0) = false := by simp; omega
              have Ho := Lib.hid ho
              have Hbt := Lib.hid hbt
              clear ho ho2
              go_wp2
              go_round
              case rel =>
                refine ⟨k + 1, by omega, by go_num, fun j hj h => ?_⟩
                rcases Nat.lt_or_ge j k with h4 | h4
                · exact Hno.out j hj h4
                · obtain rfl : j = k := by omega
                  rw [Hbt.out]; exact Ho.out
              case measure => simp [Go.RowKit.intOf]; omega
          · have hA : l.any oddB = false := by
              rw [List.any_eq_false]
              intro x hx
              obtain ⟨j, hj, rfl⟩ := List.getElem_of_mem hx
              rw [Hno.out j hj (by omega)]; simp
            have HE := Lib.hid (show nameB l = true by rw [HB.out, hA]; rfl)
            clear hA
            have d3 : ¬ (k : Int) < (l.length : Int) := by omega
            go_wp2
            go_ret
            exact ⟨by rw [HE.out]; rfl, rfl⟩
theorem ino_ne {i : Nat} (h : i ≠ 0) : ((i : Int) == 0) = false ∧ ((i : Int) != 0) = true := by
  have : ((i : Int) == 0) = false := by simp; omega
  exact ⟨this, by rw [bne, this]; rfl⟩
set_option maxHeartbeats 1000000 in
theorem may_any (x : En) (w : World) (hs : x.n.length ≤ maxLen) :
    Calls Try.prog 28 #[x.v] w fun e w' => e = .returned (.bool (mayB x)) ∧ Below w.heap.size w w' := by
  obtain ⟨n, i⟩ := x
  have hn := Lib.hid fun W => name_any n W hs
  by_cases h0 : i = 0
  · subst h0
    go_enter Try.func28, Try.ntmps28
    go_wp2
    go_ret
    exact ⟨rfl, (Below.refl _ _).alloc (Nat.le_refl _) _⟩
  · obtain ⟨q1, q2⟩ := ino_ne h0
    have HM := Lib.hid (show mayB ⟨n, i⟩ = nameB n by simp [mayB, h0])
    clear h0
    cases hb : nameB n with
    | true =>
      rw [nameE_yes hb] at hn
      have HE := Lib.hid (HM.out.trans hb)
      clear hb
      go_enter Try.func28, Try.ntmps28
      go_wp2_with fail
      refine (hn.out _).mono ?_
      rintro e w1 ⟨rfl, hb⟩
      go_wp2_with fail
      go_ret
      exact ⟨by rw [HE.out]; rfl, ((Below.refl _ _).alloc (Nat.le_refl _) _).trans (hb.mono (by simp))⟩
    | false =>
      rw [nameE_no hb] at hn
      have HE := Lib.hid (HM.out.trans hb)
      clear hb
      go_enter Try.func28, Try.ntmps28
      go_wp2_with fail
      refine (hn.out _).mono ?_
      rintro e w1 ⟨rfl, hb⟩
      go_wp2_with fail
      go_ret
      exact ⟨by rw [HE.out]; rfl, ((Below.refl _ _).alloc (Nat.le_refl _) _).trans (hb.mono (by simp))⟩
set_option maxHeartbeats 1000000 in
theorem refMay_any (x : En) (w : World) (hs : x.n.length ≤ maxLen) :
    Calls Try.prog 18 #[x.v] w fun e w' => e = .returned (.bool (mayB x)) ∧ Below w.heap.size w w' := by
  obtain ⟨n, i⟩ := x
  have hn := Lib.hid fun W => isName_any n W hs
  by_cases h0 : i = 0
  · subst h0
    go_enter Try.func18, Try.ntmps18
    go_wp2
    go_ret
    exact ⟨rfl, (Below.refl _ _).alloc (Nat.le_refl _) _⟩
  · obtain ⟨q1, q2⟩ := ino_ne h0
    have HM := Lib.hid (show mayB ⟨n, i⟩ = nameB n by simp [mayB, h0])
    clear h0
    generalize nameB n = t at *
    go_enter Try.func18, Try.ntmps18
    go_wp2_with fail
    refine (hn.out _).mono ?_
    rintro e w1 ⟨rfl, rfl⟩
    go_wp2_with fail
    all_goals
      go_ret
      exact ⟨by rw [HM.out]; rfl, (Below.refl _ _).alloc (Nat.le_refl _) _⟩
end Go.Proofs.Ytmidoghjacmdcaa
