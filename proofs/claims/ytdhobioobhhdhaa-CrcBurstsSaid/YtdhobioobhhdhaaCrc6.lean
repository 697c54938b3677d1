/- Layer 2 (crc): the chapter's examples; the walks of CrcTells and CrcBack. -/
import Derived.Test.YtdhobioobhhdhaaCrc5
namespace Go.Proofs.Ytdhobioobhhdhaa
open Go.RowKit
set_option linter.unusedVariables false
theorem open_nought (w : World) :
    Calls Try.prog 8 #[.string ⟨#[0, 0, 0, 0]⟩] w fun e w' => e = .returned (.tuple #[str [], .int .i64 0]) ∧ Below w.heap.size w w' := by
  have h := open_ok [] w (by decide)
  have h2 : ([] : List UInt8) ++ sealL [] = [0, 0, 0, 0] := by decide +kernel
  rw [h2] at h
  exact h
theorem open_one (w : World) :
    Calls Try.prog 8 #[.string ⟨#[1, 0, 0, 0]⟩] w fun e w' => e = .returned (.tuple #[str [], .int .i64 7]) ∧ Below w.heap.size w w' :=
  open_bad [] [1, 0, 0, 0] w (by decide) (by decide) (by decide +kernel)
theorem sum_lit (ps : List (List UInt8)) (v : BitVec 32) (w : World) (hv : sumL ps.flatten = v) (hps : ps.length ≤ 1048576) (hlen : ∀ p ∈ ps, p.length ≤ 1048576) (t : TypeId) (cs : Array Value) (hcs : cs = (ps.map str).toArray) (n m : Nat) (hn : n = ps.length) (hm : m = ps.length) :
    Calls Try.prog 12 #[.slice (some ⟨w.heap.size, 0, none⟩) n m] (w.alloc (.cells cs t)) fun e w' => e = .returned (reg v) ∧ Below (w.alloc (.cells cs t)).heap.size (w.alloc (.cells cs t)) w' := by
  subst hv hcs hn hm
  exact sum_any _ ps _ hps hlen (parts_lit w t ps)
set_option maxHeartbeats 800000 in
theorem alive_any (w : World) : Calls Try.prog 7 #[] w fun e w' => e = .returned (.bool true) ∧ Below w.heap.size w w' := by
  go_enter Try.func7, Try.ntmps7
  go_wp2_with fail
  refine (open_nought _).mono ?_
  rintro e w1 ⟨rfl, hb1⟩
  go_wp2_with fail
  refine (open_one _).mono ?_
  rintro e w2 ⟨rfl, hb2⟩
  go_wp2_with fail
  refine (open_short [0] _ (by decide)).mono ?_
  rintro e w3 ⟨rfl, hb3⟩
  go_wp2_with fail
  refine (sum_lit [[49, 50, 51, 52, 53, 54, 55, 56, 57]] 0xcbf43926#32 _ (by decide +kernel) (by decide) (by decide) _ _ rfl _ _ rfl rfl).mono ?_
  rintro e w4 ⟨rfl, hb4⟩
  go_wp2_with fail
  refine (sum_lit [[49, 50, 51, 52], [53, 54, 55, 56, 57]] 0xcbf43926#32 _ (by decide +kernel) (by decide) (by decide) _ _ rfl _ _ rfl rfl).mono ?_
  rintro e w5 ⟨rfl, hb5⟩
  go_wp2_with fail
  refine (sum_any _ [] _ (by decide) (by decide) (parts_nil _ _)).mono ?_
  rintro e w6 ⟨rfl, hb6⟩
  have h0 : sumL ([] : List (List UInt8)).flatten = 0#32 := by decide +kernel
  rw [h0]
  go_wp2_with fail
  go_ret
  exact ⟨rfl, chain (chain (chain (chain (chain hb1 hb2) hb3) (((Below.refl _ _).alloc (Nat.le_refl _) _).trans (hb4.mono (by simp)))) (((Below.refl _ _).alloc (Nat.le_refl _) _).trans (hb5.mono (by simp)))) hb6⟩
/-- What opens of any text, by the code and by the document. -/
theorem open_both (s : List UInt8) (hs : s.length ≤ 1048576) : ∃ (x : List UInt8) (E : Int), (E = 0 ∧ s = x ++ sealL x ∨ E ≠ 0 ∧ x = []) ∧ x.length ≤ s.length ∧
    (∀ w, Calls Try.prog 8 #[str s] w fun e w' => e = .returned (.tuple #[str x, .int .i64 E]) ∧ Below w.heap.size w w') := by
  by_cases h4 : s.length < 4
  · exact ⟨[], 6, .inr ⟨by decide, rfl⟩, by simp, fun w => open_short s w h4⟩
  · have hsp : s = s.take (s.length - 4) ++ s.drop (s.length - 4) := (List.take_append_drop _ _).symm
    have hq : (s.drop (s.length - 4)).length = 4 := by simp; omega
    have ht : (s.take (s.length - 4)).length ≤ 1048576 := by simp; omega
    have htl : (s.take (s.length - 4)).length ≤ s.length := by simp
    generalize s.take (s.length - 4) = t at hsp ht htl
    generalize s.drop (s.length - 4) = q at hsp hq
    subst hsp
    by_cases h : q = sealL t
    · subst h
      exact ⟨t, 0, .inl ⟨rfl, rfl⟩, by simp, fun w => open_ok t w ht⟩
    · exact ⟨[], 7, .inr ⟨by decide, rfl⟩, by simp, fun w => open_bad t q w ht hq h⟩
theorem open_both2 (s : List UInt8) (hs : s.length ≤ 1048576) : ∃ (x : List UInt8) (E : Int),
    (∀ w, Calls Try.prog 8 #[str s] w fun e w' => e = .returned (.tuple #[str x, .int .i64 E]) ∧ Below w.heap.size w w') ∧
    (∀ w, Calls Try.prog 9 #[str s] w fun e w' => e = .returned (.tuple #[str x, .int .i64 E]) ∧ Below w.heap.size w w') := by
  by_cases h4 : s.length < 4
  · exact ⟨[], 6, fun w => open_short s w h4, fun w => refOpen_short s w h4⟩
  · have hsp : s = s.take (s.length - 4) ++ s.drop (s.length - 4) := (List.take_append_drop _ _).symm
    have hq : (s.drop (s.length - 4)).length = 4 := by simp; omega
    have ht : (s.take (s.length - 4)).length ≤ 1048576 := by simp; omega
    generalize s.take (s.length - 4) = t at hsp ht
    generalize s.drop (s.length - 4) = q at hsp hq
    subst hsp
    by_cases h : q = sealL t
    · subst h
      exact ⟨t, 0, fun w => open_ok t w ht, fun w => refOpen_ok t w ht⟩
    · exact ⟨[], 7, fun w => open_bad t q w ht hq h, fun w => refOpen_bad t q w ht hq h⟩
end Go.Proofs.Ytdhobioobhhdhaa
