/- Layer 7 (inode): what a block lists; the document's answer, and that both are the same. -/
import Derived.Test.YtpipjjngffajlaaInode5
namespace Go.Proofs.Ytpipjjngffajlaa
open Go.RowKit
set_option linter.unusedVariables false
set_option linter.unusedSimpArgs false
set_option maxRecDepth 10000
set_option maxHeartbeats 400000 in
theorem told_short (s : List UInt8) (w : World) (h : s.length < 64) :
    Calls Try.prog 13 #[str s] w fun e w' => e = .returned (.tuple #[.slice none 0 0, .int .i64 6]) ∧ Below w.heap.size w w' := by
  have HS := Lib.hid fun W => sized_short s 64 W (by unfold maxLen; omega) (by omega) h
  go_enter Try.func13, Try.ntmps13
  go_wp2_with fail
  refine (HS.out _).mono ?_
  rintro e w1 ⟨rfl, rfl⟩
  go_wp2
  go_ret2
  exact ⟨rfl, Below.refl _ _⟩
set_option maxHeartbeats 400000 in
theorem told_long (s : List UInt8) (w : World) (hs : s.length ≤ 1000000) (h : 64 < s.length) :
    Calls Try.prog 13 #[str s] w fun e w' => e = .returned (.tuple #[.slice none 0 0, .int .i64 7]) ∧ Below w.heap.size w w' := by
  have HS := Lib.hid fun W => sized_long s 64 W (by unfold maxLen; omega) (by omega) h
  go_enter Try.func13, Try.ntmps13
  go_wp2_with fail
  refine (HS.out _).mono ?_
  rintro e w1 ⟨rfl, rfl⟩
  go_wp2
  go_ret2
  exact ⟨rfl, Below.refl _ _⟩
set_option maxHeartbeats 400000 in
theorem told_ok (s : List UInt8) (w : World) (h : s.length = 64) :
    Calls Try.prog 13 #[str s] w fun e w' => ∃ v, e = .returned (.tuple #[v, .int .i64 0]) ∧ U16s w' v (numsL s) ∧ Below w.heap.size w w' := by
  have HS := Lib.hid fun W => sized_ok s 64 W (by omega) h
  have HN := Lib.hid fun W => numbers_any s 32 W h (by omega) (by omega)
  have hl : (numsL s).length = 32 := by rw [numsL_length, h]
  have HL := Lib.hid hl
  clear hl
  go_enter Try.func13, Try.ntmps13
  go_wp2_with fail
  refine (HS.out _).mono ?_
  rintro e w1 ⟨rfl, rfl⟩
  go_wp2_with fail
  refine (HN.out _).mono ?_
  rintro e w2 ⟨g, rfl, hg, hgw, hb2⟩
  have HG := Lib.hid hg
  clear hg
  go_wp2
  go_ret2
  exact ⟨_, rfl, u16s_row HG.out HL.out (fun j m hj => numCells_at _ j m hj), hb2⟩
set_option maxHeartbeats 400000 in
theorem refTold_short (s : List UInt8) (w : World) (h : s.length < 64) :
    Calls Try.prog 14 #[str s] w fun e w' => e = .returned (.tuple #[.slice none 0 0, .int .i64 6]) ∧ Below w.heap.size w w' := by
  go_enter Try.func14, Try.ntmps14
  go_wp2
  go_ret2
  exact ⟨rfl, Below.refl _ _⟩
set_option maxHeartbeats 400000 in
theorem refTold_long (s : List UInt8) (w : World) (hs : s.length ≤ 1000000) (h : 64 < s.length) :
    Calls Try.prog 14 #[str s] w fun e w' => e = .returned (.tuple #[.slice none 0 0, .int .i64 7]) ∧ Below w.heap.size w w' := by
  go_enter Try.func14, Try.ntmps14
  go_wp2
  go_ret2
  exact ⟨rfl, Below.refl _ _⟩
theorem own_drewN {w : World} {base : Nat} {e : TypeId} {v : Value} {n : Nat} {xs : List Value} (h : w.ownsRow base e 1 v n xs) (m : Nat) : (w.drewN m).ownsRow base e 1 v n xs :=
  own_below h ((below_drewN (Below.refl _ w) m))
set_option maxHeartbeats 1000000 in
theorem refTold_ok (s : List UInt8) (w : World) (h : s.length = 64) :
    Calls Try.prog 14 #[str s] w fun e w' => ∃ v, e = .returned (.tuple #[v, .int .i64 0]) ∧ U16s w' v (numsL s) ∧ Below w.heap.size w w' := by
  go_enter Try.func14, Try.ntmps14
  go_wp2_with fail
  go_loopw [4, 5] (fun v i wr => ∃ k : Nat, k ≤ 32 ∧ i = .int .i64 k ∧ wr.ownsRow w.heap.size 22 1 v k ((List.range k).map fun j => w16 (num2 s j)) ∧ Below w.heap.size w wr) (fun _ i _ => 32 - (nOf i).toNat)
  case atStart => exact ⟨0, Nat.zero_le _, rfl, World.ownsRow_nil _ _ _ _, Below.refl _ _⟩
  case round =>
    obtain ⟨k, hk, rfl, hown, hb⟩ := hrel
    by_cases hlt2 : k < 32
    · have HA := Lib.hid fun W => at_any s k (2 * (k : Int)) (by omega) W (by omega) (by omega)
      have hsnoc : ((List.range k).map fun j => w16 (num2 s j)) ++ [w16 (num2 s k)] = (List.range (k + 1)).map fun j => w16 (num2 s j) := by
        rw [List.range_succ, List.map_append]; rfl
      have Hsnoc := Lib.hid hsnoc
      clear hsnoc
      go_wp2_with fail
      refine (HA.out _).mono ?_
      rintro e w1 ⟨rfl, q, rfl⟩
      have hown1 := own_drewN hown q
      have hbw1 := below_drewN hb q
      go_wp2_with (at_builtin; refine wpList_append_one rfl _ _ _ rfl 22 _ 2 Try.underlying27 uint16Info rfl _ _ _ rfl hown1 (w16 (num2 s k)) _ _ rfl rfl rfl (by simp only [maxLen]; omega) (by omega) hbw1 ?_; intro v' w2 hown2 hbw2)
      go_roundw
      case rel => exact ⟨k + 1, by omega, by go_num, by rw [← Hsnoc.out]; exact hown2, hbw2⟩
      case measure => simp [nOf]; omega
    · have : k = 32 := by omega
      subst this
      go_wp2
      go_ret2
      refine ⟨_, rfl, ?_, hb⟩
      obtain ⟨A, c, hv, hc⟩ := row_of_own hown
      have e : numsL s = (List.range 32).map (num2 s) := by unfold numsL; rw [h]
      refine ⟨A, c, by rw [hv, e]; simp, fun j n hj => ?_⟩
      rw [e] at hj
      obtain ⟨g, hA, hcell⟩ := hc j (w16 n) (by
        rw [List.getElem?_map, Option.map_eq_some_iff] at hj
        obtain ⟨j', hj', rfl⟩ := hj
        rw [List.getElem?_map, hj']
        rfl)
      refine ⟨⟨g, 0, none⟩, hA, ?_⟩
      have e2 : (⟨g, 0, none⟩ : Addr).add j = ⟨g, j, none⟩ := by unfold Addr.add; split <;> simp_all
      rw [e2]; exact hcell
set_option maxHeartbeats 1000000 in
theorem same_any (l : List Nat) (v1 v2 : Value) (w : World) (h1 : U16s w v1 l) (h2 : U16s w v2 l) (hl : l.length ≤ 100000) :
    Calls Try.prog 15 #[v1, v2] w fun e w' => e = .returned (.bool true) ∧ Below w.heap.size w w' := by
  obtain ⟨A1, c1, rfl, hc1⟩ := h1
  obtain ⟨A2, c2, rfl, hc2⟩ := h2
  have H1 := Lib.hid hc1
  have H2 := Lib.hid hc2
  clear hc1 hc2
  go_enter Try.func15, Try.ntmps15
  go_wp2_with fail
  go_loopw [5] (fun i wr => ∃ k : Nat, k ≤ l.length ∧ i = .int .i64 k ∧ Below w.heap.size w wr) (fun i _ => l.length - (nOf i).toNat)
  case atStart => exact ⟨0, Nat.zero_le _, rfl, Below.refl _ _⟩
  case round =>
    obtain ⟨k, hk, rfl, hb⟩ := hrel
    by_cases hlt2 : k < l.length
    · obtain ⟨b, hbe⟩ : ∃ b, b = l[k] := ⟨_, rfl⟩
      obtain ⟨a1, rfl, hx1⟩ := H1.out k b (by rw [hbe]; simp [hlt2])
      obtain ⟨a2, rfl, hx2⟩ := H2.out k b (by rw [hbe]; simp [hlt2])
      have hy1 : wr.cell? (a1.add k) = some (w16 b) := (hb.cell (World.block_lt_of_cell? w _ hx1)).trans hx1
      have hy2 : wr.cell? (a2.add k) = some (w16 b) := (hb.cell (World.block_lt_of_cell? w _ hx2)).trans hx2
      clear hx1 hx2 hbe
      go_wp2_with fail
      go_quiet (fail)
      go_wp2
      go_roundw
      case rel => exact ⟨k + 1, by omega, by go_num, below_drewN hb _⟩
      case measure => simp [nOf]; omega
    · have : k = l.length := by omega
      subst this
      go_wp2
      go_ret
      exact ⟨rfl, hb⟩
end Go.Proofs.Ytpipjjngffajlaa
