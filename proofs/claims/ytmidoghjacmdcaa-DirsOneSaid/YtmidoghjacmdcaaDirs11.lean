/- Layer 10 (dirs), the document's own answers: Trim, Same. -/
import Derived.Test.YtmidoghjacmdcaaDirs9
import Derived.Deep.RegionHeld3
namespace Go.Proofs.Ytmidoghjacmdcaa
open Go.RowKit Go.Lib
set_option linter.unusedVariables false
set_option linter.unusedSimpArgs false
set_option maxRecDepth 10000
theorem free_two : freeL ++ freeL = List.replicate 64 0 := by decide
theorem bare_cut {q : List UInt8} {m : Nat} (hq : q.length = 64 * (m + 1)) (hz : q.drop (64 * m) = freeL ++ freeL) : bareL (q.take (64 * m)) = bareL q := by
  have h : q = q.take (64 * m) ++ List.replicate 64 0 := by
    conv => lhs; rw [← List.take_append_drop (64 * m) q, hz, free_two]
  conv => rhs; rw [h, bareL_pad]
theorem bare_stop {q : List UInt8} {m : Nat} (hq : q.length = 64 * (m + 1)) (hz : q.drop (64 * m) ≠ freeL ++ freeL) : ((bareL q).length + 63) / 64 = m + 1 := by
  obtain ⟨h1, h2⟩ := bareL_back q
  have h3 : 64 * m < (bareL q).length := by
    rcases Nat.lt_or_ge (64 * m) (bareL q).length with h | h
    · exact h
    · refine absurd ?_ hz
      have key : ∀ j (hj : j < q.length), (bareL q).length ≤ j → q[j] = 0 := by
        intro j hj hb
        have h4 : q[j]? = some 0 := by
          rw [← h2, List.getElem?_append_right hb, List.getElem?_replicate, if_pos (by omega)]
        rw [List.getElem?_eq_getElem hj] at h4
        exact Option.some.inj h4
      rw [free_two]
      apply List.ext_getElem
      · simp; omega
      · intro i h4 h5
        rw [List.getElem_drop, List.getElem_replicate]
        exact key _ _ (by omega)
  omega
set_option maxRecDepth 100000 in
set_option maxHeartbeats 4000000 in
theorem refTrim_any (s : List UInt8) (w : World) (hs : s.length ≤ maxLen) :
    Calls Try.prog 14 #[str s] w fun e w' => e = .returned (.tuple #[str (trimT s), .int .i64 (chk s : Nat)]) ∧ Below w.heap.size w w' := by
  have HC := Lib.hid fun W => refCheck_any s W hs
  by_cases h0 : chk s = 0
  · obtain ⟨l1, l2, l3⟩ := ents_len h0
    have H0 := Lib.hid h0
    have HT := Lib.hid (trim_ok h0)
    have HFr := Lib.hid free_any
    have hfl := freeL_length
    have L64 := Lib.hid (show 64 * (s.length / 64) = s.length by omega)
    rw [h0] at HC
    have HBC := Lib.hid fun (q : List UInt8) (m : Nat) (h : q.length = 64 * (m + 1)) (hz : q.drop (64 * m) = freeL ++ freeL) => bare_cut h hz
    have HBS := Lib.hid fun (q : List UInt8) (m : Nat) (h : q.length = 64 * (m + 1)) (hz : q.drop (64 * m) ≠ freeL ++ freeL) => bare_stop h hz
    generalize freeL = F at *
    clear h0 l1 l3
    go_enter Try.func14, Try.ntmps14
    go_wp2_with fail
    refine (HC.out _).mono ?_
    rintro e w1 ⟨rfl, hb1⟩
    have HB1 := Lib.hid hb1
    clear hb1 HC
    go_wp2_with fail
    go_loopw [0] (fun i0 wr => ∃ (q : List UInt8) (m : Nat), i0 = str q ∧ q.length = 64 * m ∧ 64 * m ≤ s.length ∧ q = s.take (64 * m) ∧ bareL q = bareL s ∧ Below w1.heap.size w1 wr) (fun i _ => lenOf i)
    case atStart => exact ⟨s, s.length / 64, rfl, L64.out.symm, by rw [L64.out]; exact Nat.le_refl _, by rw [L64.out, List.take_length], rfl, Below.refl _ _⟩
    case round =>
      obtain ⟨q, m, rfl, hq, hm, ht, hbr, hb⟩ := hrel
      have Hq := Lib.hid hq
      have Ht := Lib.hid ht
      have Hbr := Lib.hid hbr
      have HB := Lib.hid hb
      clear ht hbr hb
      by_cases hm0 : m = 0
      · have hq0 : q = [] := List.eq_nil_of_length_eq_zero (by rw [hq, hm0])
        have hT : trimT s = [] := by
          have : bareL s = [] := by rw [← Hbr.out, hq0]; rfl
          rw [HT.out, this]; rfl
        have H1 := Lib.hid hT
        subst hq0
        clear hm0 hT hq
        clear Ht Hbr Hq
        go_wp2_with fail
        go_quiet (fail)
        go_wp2_with fail
        go_ret2
        exact ⟨by rw [H1.out, H0.out]; rfl, below_drewN (HB1.out.trans (HB.out.mono HB1.out.size)) _⟩
      · obtain ⟨m, rfl⟩ : ∃ m', m = m' + 1 := ⟨m - 1, by omega⟩
        obtain ⟨j, hj⟩ : ∃ j, j = 64 * m := ⟨_, rfl⟩
        have hql : q.length = j + 64 := by omega
        have hqs : q.length ≤ 2304 := by omega
        have e0 : q.isEmpty = false := by
          cases q with
          | nil => simp at hql
          | cons a r => rfl
        have e1 : IntKind.i64.wrap ((q.length : Int) - 64) = (j : Int) := by rw [IntWalk.i64_in _ ⟨by omega, by omega⟩]; omega
        have b1 : (j : Int) ≤ (q.length : Int) := by omega
        have b2 : j ≤ q.length := by omega
        have b3 : F.length + F.length ≤ 64 := by omega
        have Hj := Lib.hid hj
        have Hql := Lib.hid hql
        by_cases hz : q.drop j = F ++ F
        · have q1 : (q.drop j == F ++ F) = true := by rw [hz]; simp
          have Hc := Lib.hid (HBC.out q m hq (hj ▸ hz))
          have hjs : j ≤ s.length := by omega
          clear hm0 hq hj hql hz hm
          go_wp2_with fail
          have HBd := Lib.hid HB.out.drew
          go_region_held3 (fun W => True) (exact trivial) (first | (go_at_call 34; ((with_reducible refine (HFr.out _).mono ?_); rintro e w4 ⟨rfl, hb4⟩; have HBd := Lib.hid (HBd.out.trans (hb4.mono HBd.out.size)); clear hb4)))
          go_wp2_with fail
          go_roundw
          case rel =>
            refine ⟨q.take j, m, rfl, by rw [List.length_take, ← Hj.out]; exact Nat.min_eq_left b2, by rw [← Hj.out]; exact hjs, ?_, ?_, HBd.out⟩
            · rw [Ht.out, List.take_take, ← Hj.out]
              congr 1
              have := Hj.out; omega
            · have := Hc.out
              rw [← Hj.out] at this
              rw [this]; exact Hbr.out
          case measure =>
            have := Hql.out
            simp [lenOf, ByteArray.size]; omega
        · have q1 : (q.drop j == F ++ F) = false := by simp [hz]
          have hs63 := HBS.out q m hq (hj ▸ hz)
          have hT : trimT s = q := by rw [HT.out, ← Hbr.out, hs63]; exact Ht.out.symm
          have H1 := Lib.hid hT
          clear hm0 hq hj hql hz hm hs63 hT
          go_wp2_with fail
          have HBd := Lib.hid HB.out.drew
          go_region_held3 (fun W => True) (exact trivial) (first | (go_at_call 34; ((with_reducible refine (HFr.out _).mono ?_); rintro e w4 ⟨rfl, hb4⟩; have HBd := Lib.hid (HBd.out.trans (hb4.mono HBd.out.size)); clear hb4)))
          go_wp2_with fail
          go_ret2
          exact ⟨by rw [H1.out, H0.out]; rfl, HB1.out.trans (HBd.out.mono HB1.out.size)⟩
  · have q := chk_ne h0
    have HT := Lib.hid (trim_bad h0)
    clear h0
    generalize chk s = z at *
    go_enter Try.func14, Try.ntmps14
    go_wp2_with fail
    refine (HC.out _).mono ?_
    rintro e w1 ⟨rfl, hb1⟩
    have HB1 := Lib.hid hb1
    clear hb1 HC
    go_wp2_with fail
    go_ret2
    exact ⟨by rw [HT.out]; rfl, HB1.out⟩
end Go.Proofs.Ytmidoghjacmdcaa
