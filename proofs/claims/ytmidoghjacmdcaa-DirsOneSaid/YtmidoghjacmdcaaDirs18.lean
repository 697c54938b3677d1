/- Layer 10 (dirs): read, of whatever text; Check. -/
import Derived.Test.YtmidoghjacmdcaaDirs17
namespace Go.Proofs.Ytmidoghjacmdcaa
open Go.RowKit Go.Lib
set_option linter.unusedVariables false
set_option linter.unusedSimpArgs false
set_option maxRecDepth 10000
set_option maxRecDepth 100000 in
set_option maxHeartbeats 2000000 in
theorem read_any (s : List UInt8) (w : World) (hs : s.length ≤ maxLen) :
    Calls Try.prog 27 #[str s] w fun e w' => e = .returned (.tuple #[entsV (pad72 (ents s)), .int .i64 (chk s : Nat)]) ∧ Below w.heap.size w w' := by
  unfold maxLen at hs
  cases hz : sizeB s with
  | true => exact read_ok s w hz
  | false =>
    have hc : chk s = 7 := by unfold chk; rw [formB_size hz]; rfl
    have HE := Lib.hid (show ents s = [] from ents_bad (by rw [hc]; decide))
    have HC := Lib.hid hc
    obtain ⟨hzr, hsz⟩ := zero_of_info entsInfo
    have Hsz := Lib.hid hsz
    clear hsz hc
    have hZ72 : (List.replicate 72 En.free).length = 72 := by simp
    have HZ := Lib.hid (show List.replicate 72 En.free = pad72 [] from rfl)
    generalize List.replicate 72 En.free = Z at *
    obtain ⟨W2, hst, hr2, ho2, hb2, hsz2⟩ := ents_store (ents_alloc w Z hZ72) hZ72
    have HR2 := Lib.hid hr2
    have HB2 := Lib.hid (((Below.refl w.heap.size w).alloc (Nat.le_refl _) (.cells (enC Z).toArray 50)).trans (hb2 w.heap.size (Nat.le_refl _)))
    clear hr2 ho2 hb2 hsz2
    by_cases hm : s.length % 64 = 0
    · have hq : 2304 < s.length := by
        rcases Nat.lt_or_ge 2304 s.length with h | h
        · exact h
        · simp [sizeB, hm, h] at hz
      have q1 : ((s.length : Int) % 64 != 0) = false := by
        have : (s.length : Int) % 64 = 0 := by omega
        rw [this]; rfl
      have q2 : (2304 : Int) < (s.length : Int) := by omega
      clear hm hz
      go_enter Try.func27, Try.ntmps27
      go_wp2_with fail
      go_step3
      go_wp2_with fail
      rw [Exit.noGoto_ret]
      refine bodyPost_ret (v := .tuple #[entsV Z, .int .i64 7]) ?_ rfl ⟨by rw [HE.out, HC.out, HZ.out]; rfl, HB2.out⟩
      exact results_row_tmpD (p := 2) (q := 3) rfl _ _ w.heap.size _ rfl (ents_var HR2.out)
    · have q1 : ((s.length : Int) % 64 != 0) = true := by
        have : ¬ (s.length : Int) % 64 = 0 := by omega
        rw [bne_iff_ne]; exact this
      clear hm hz
      go_enter Try.func27, Try.ntmps27
      go_wp2_with fail
      go_step3
      go_wp2_with fail
      rw [Exit.noGoto_ret]
      refine bodyPost_ret (v := .tuple #[entsV Z, .int .i64 7]) ?_ rfl ⟨by rw [HE.out, HC.out, HZ.out]; rfl, HB2.out⟩
      exact results_row_tmpD (p := 2) (q := 3) rfl _ _ w.heap.size _ rfl (ents_var HR2.out)
/-- The array that a caller of read lays for itself. -/
theorem arr_laid (W : World) (Z L : List En) (hZ : Z.length = 72) (hL : L.length = 72) :
    ∃ W', (entsStore (.pointer (some ⟨W.heap.size, 0, none⟩)) (entsV L)).run Try.prog (W.alloc (.cells (enC Z).toArray 50)) = .ok () W' ∧ EntAt W' W.heap.size L ∧ Below W.heap.size W W' ∧ W'.heap.size = W.heap.size + 1 := by
  obtain ⟨W', h1, h2, h3, h4, h5⟩ := ents_store (ents_alloc W Z hZ) hL
  exact ⟨W', h1, h2, ((Below.refl W.heap.size W).alloc (Nat.le_refl _) _).trans (h4 W.heap.size (Nat.le_refl _)), by rw [h5]; simp⟩
set_option maxHeartbeats 1000000 in
theorem check_any (s : List UInt8) (w : World) (hs : s.length ≤ maxLen) :
    Calls Try.prog 20 #[str s] w fun e w' => e = .returned (.int .i64 (chk s : Nat)) ∧ Below w.heap.size w w' := by
  have HR := Lib.hid fun W => read_any s W hs
  have hL := pad72_length (ents_le s)
  obtain ⟨hzr, hsz⟩ := zero_of_info entsInfo
  have Hsz := Lib.hid hsz
  clear hsz
  have hZ72 : (List.replicate 72 En.free).length = 72 := by simp
  generalize List.replicate 72 En.free = Z at *
  generalize pad72 (ents s) = L at *
  generalize chk s = z at *
  go_enter Try.func20, Try.ntmps20
  go_wp2_with fail
  refine (HR.out _).mono ?_
  rintro e w1 ⟨rfl, hb1⟩
  have HB1 := Lib.hid hb1
  clear hb1 HR
  obtain ⟨w2, hst, ha, hb2, hsz2⟩ := arr_laid w1 Z L hZ72 hL
  have HB2 := Lib.hid (HB1.out.trans (hb2.mono HB1.out.size))
  clear ha hb2 hsz2
  go_wp2_with fail
  go_ret
  exact ⟨rfl, HB2.out⟩
end Go.Proofs.Ytmidoghjacmdcaa
