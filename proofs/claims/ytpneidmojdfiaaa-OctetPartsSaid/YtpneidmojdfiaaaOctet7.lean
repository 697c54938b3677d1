/- Layer 1 (octet): the chapter's examples; each function once more, in one sentence. -/
import Derived.Test.YtpneidmojdfiaaaOctet6
namespace Go.Proofs.Ytpneidmojdfiaaa
open Go.RowKit
set_option linter.unusedVariables false
theorem quot_zero (v n : Nat) (h : v < 256 ^ n) : ((v : Int) / 2 ^ (8 * n) != 0) = false := by
  rw [pow256] at h
  have h1 : v / 2 ^ (8 * n) = 0 := Nat.div_eq_of_lt h
  have h2 : ((v : Int) / 2 ^ (8 * n)) = ((v / 2 ^ (8 * n) : Nat) : Int) := by simp
  rw [h2, h1]; rfl
theorem quot_some (v n : Nat) (h : ¬ v < 256 ^ n) : ((v : Int) / 2 ^ (8 * n) != 0) = true := by
  rw [pow256] at h
  have h1 : 0 < v / 2 ^ (8 * n) := Nat.div_pos (by omega) (Nat.pow_pos (by omega))
  have h2 : ((v : Int) / 2 ^ (8 * n)) = ((v / 2 ^ (8 * n) : Nat) : Int) := by simp
  rw [h2, bne_iff_ne]
  omega
theorem num_yes (u i : Int) (v n : Nat) (w : World) (hu : u = v) (hi : i = n) (hv : v < 18446744073709551616) (hn : n ≤ 8) (h : v < 256 ^ n) :
    Calls Try.prog 8 #[.int .u64 u, .int .i64 i] w fun e w' => e = .returned (.tuple #[str (leB n v), .int .i64 0]) ∧ Below w.heap.size w w' := by
  subst hu hi
  exact num_ok v n w hv hn (quot_zero v n h)
theorem num_no (u i : Int) (v n : Nat) (w : World) (hu : u = v) (hi : i = n) (hv : v < 18446744073709551616) (hn : n ≤ 8) (h : ¬ v < 256 ^ n) :
    Calls Try.prog 8 #[.int .u64 u, .int .i64 i] w fun e w' => e = .returned (.tuple #[str [], .int .i64 2]) ∧ Below w.heap.size w w' := by
  subst hu hi
  exact num_big v n w hv hn (quot_some v n h)
/-- A row that the text itself makes. -/
theorem row_lit (w : World) (t : TypeId) (xs : List Value) : Row (w.alloc (.cells xs.toArray t)) (.slice (some ⟨w.heap.size, 0, none⟩) xs.length xs.length) xs := by
  refine ⟨some ⟨w.heap.size, 0, none⟩, xs.length, rfl, fun j u hj => ⟨_, rfl, ?_⟩⟩
  rw [cell_of_row _ _ j _ t (0, 0) (heap_alloc_new w _)]
  simpa using hj
theorem row_below {w w' : World} {v : Value} {xs : List Value} (h : Row w v xs) (hb : Below w.heap.size w w') : Row w' v xs := by
  obtain ⟨A, c, hv, hc⟩ := h
  refine ⟨A, c, hv, fun j u hj => ?_⟩
  obtain ⟨g, hA, hcell⟩ := hc j u hj
  exact ⟨g, hA, (hb.cell (World.block_lt_of_cell? w _ hcell)).trans hcell⟩
set_option maxHeartbeats 800000 in
theorem alive_any (w : World) : Calls Try.prog 7 #[] w fun e w' => e = .returned (.bool true) ∧ Below w.heap.size w w' := by
  go_enter Try.func7, Try.ntmps7
  go_wp2_with fail
  refine (num_yes _ _ 258 2 _ rfl rfl (by decide) (by decide) (by decide)).mono ?_
  rintro e w1 ⟨rfl, hb1⟩
  go_wp2_with fail
  refine (num_no _ _ 256 1 _ rfl rfl (by decide) (by decide) (by decide)).mono ?_
  rintro e w2 ⟨rfl, hb2⟩
  go_wp2_with fail
  refine (get_ok [2, 1] _ (by decide)).mono ?_
  rintro e w3 ⟨rfl, hb3⟩
  go_wp2_with fail
  refine (get_ok [] _ (by decide)).mono ?_
  rintro e w4 ⟨rfl, hb4⟩
  go_wp2_with fail
  refine (split_ok [97, 98, 99, 100, 101] 2 _ (by decide) (by decide) (by decide)).mono ?_
  rintro e w5 ⟨v, rfl, hown, hb5⟩
  go_wp2_with fail
  refine (pad_ok [97] 2 _ _ rfl (by decide)).mono ?_
  rintro e w6 ⟨rfl, hb6⟩
  have hown6 := own_below hown hb6
  have hr : Row w6 v ([[97, 98], [99, 100], [101]].map str) := row_of_own hown6
  clear hown hown6
  go_wp2_with fail
  refine (same_yes v _ [[97, 98], [99, 100], [101]] _ (row_below hr ((Below.refl _ _).alloc (Nat.le_refl _) _)) (row_lit w6 9 ([[97, 98], [99, 100], [101]].map str)) (by decide)).mono ?_
  rintro e w7 ⟨rfl, hb7⟩
  go_wp2_with fail
  refine (bare_any [97, 0, 98, 0, 0] _ (by decide)).mono ?_
  rintro e w8 ⟨rfl, hb8⟩
  go_wp2_with fail
  go_ret
  exact ⟨rfl, chain (chain (chain (chain (chain (chain (chain hb1 hb2) hb3) hb4) hb5) hb6) (((Below.refl _ _).alloc (Nat.le_refl _) _).trans (hb7.mono (by simp)))) hb8⟩
end Go.Proofs.Ytpneidmojdfiaaa
