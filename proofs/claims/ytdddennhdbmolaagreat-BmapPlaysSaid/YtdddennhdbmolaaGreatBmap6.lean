/- Layer 9 (bmap): what an indirect block is cut to. -/
import Derived.Test.YtdddennhdbmolaaGreatBmap5
namespace Go.Proofs.YtdddennhdbmolaaGreat
open Go.RowKit Go.Lib
set_option linter.unusedVariables false
set_option linter.unusedSimpArgs false
set_option maxRecDepth 10000
theorem box_lis2 (w : World) (i b j : Int) (l Z : List Nat) (hl : l.length = 32) (hZ : Z.length = 32) (q : Nat) (hq : q ≤ 32) (o : Nat) (ho1 : q < 32 → o = q) (c : Nat) (ty : TypeId) :
    ∃ W2 W3, (lisLoad (.pointer (some ⟨w.heap.size + 1, 0, none⟩))).run Tryz.prog ((w.alloc (.cells #[.int .i64 i, .int .i64 b, .int .i64 j] 23)).alloc (.cells (numV l).toArray 71)) = .ok (lisV l) ((w.alloc (.cells #[.int .i64 i, .int .i64 b, .int .i64 j] 23)).alloc (.cells (numV l).toArray 71)) ∧
      (lisStore (.pointer (some ⟨w.heap.size + 1 + 1, 0, none⟩)) (lisV l)).run Tryz.prog (((w.alloc (.cells #[.int .i64 i, .int .i64 b, .int .i64 j] 23)).alloc (.cells (numV l).toArray 71)).alloc (.cells (numV Z).toArray 71)) = .ok () W2 ∧
      (Builtin.clear_ #[37] ty #[.slice (some ⟨w.heap.size + 1 + 1, o, none⟩) (32 - q) c]).run Tryz.prog W2 = .ok (.tuple #[]) W3 ∧
      LisAt W3 (w.heap.size + 1 + 1) (keepL l q) ∧ LisAt W3 (w.heap.size + 1) l ∧ GeoAt W3 w.heap.size i b j ∧ Below w.heap.size w W3 := by
  obtain ⟨h1, h2⟩ := box_lis w i b j l hl
  have h0 := (heap_two w (.cells #[.int .i64 i, .int .i64 b, .int .i64 j] 23) (.cells (numV l).toArray 71)).1
  have hsz : ((w.alloc (.cells #[.int .i64 i, .int .i64 b, .int .i64 j] 23)).alloc (.cells (numV l).toArray 71)).heap.size = w.heap.size + 1 + 1 := by simp
  generalize ((w.alloc (.cells #[.int .i64 i, .int .i64 b, .int .i64 j] 23)).alloc (.cells (numV l).toArray 71)) = V at *
  have h3 := lis_alloc V Z hZ
  have hV : Below V.heap.size V (V.alloc (.cells (numV Z).toArray 71)) := (Below.refl _ _).alloc (Nat.le_refl _) _
  rw [hsz] at h3
  obtain ⟨W2, hs, hr, ho, hb⟩ := lis_store h3 hl
  obtain ⟨W3, hc, hr3, ho3, hb3⟩ := lis_clear hr q hq o ho1 c ty
  refine ⟨W2, W3, lis_load h1, hs, hc, hr3, ⟨?_, hl⟩, ?_, ?_⟩
  · rw [ho3 _ (by omega), ho _ (by omega), heap_alloc_old _ _ (by omega)]; exact h1.1
  · unfold GeoAt
    rw [ho3 _ (by omega), ho _ (by omega), heap_alloc_old _ _ (by omega)]; exact h0
  · exact ((h2.trans (hV.mono h2.size)).trans (hb _ (by omega))).trans (hb3 _ (by omega))
set_option maxHeartbeats 1000000 in
theorem shorten_same (t : Value) (i b j : Int) (k : Nat) (l : List Nat) (hl : l.length = 32) (q : Nat) (hq : q ≤ 32) (p : Int) (hp : p = (q : Int) + 4) (he : keepL l q = l) (w : World) :
    Calls Tryz.prog 30 #[t, geoV i b j, w16 k, lisV l, .int .i64 p] w fun e w' => e = .returned (.int .i64 0) ∧ Below w.heap.size w w' := by
  obtain ⟨hz, hsz⟩ := zero_of_info lisInfo2
  have Hsz := Lib.hid hsz
  clear hsz
  have hZ32 : (List.replicate 32 0).length = 32 := rfl
  generalize List.replicate 32 0 = Z at *
  obtain ⟨o, ho1, hsl⟩ := slice_lis (w.heap.size + 1 + 1) q hq
  obtain ⟨W2, W3, h1, h2, h3, h4, h5, -, h7⟩ := box_lis2 w i b j l Z hl hZ32 q hq o ho1 (32 - q) 0
  rw [he] at h4
  have h8 := lis_load h4
  have h9 := lis_load h5
  have heq := fun W => eq_lis l l hl hl W
  rw [decide_eq_true rfl] at heq
  have HB := Lib.hid h7
  have hpq : p - 4 = (q : Int) := by omega
  clear h4 h5 h7 hp ho1
  go_enter Tryz.func30, Tryz.ntmps30
  go_wp2_with fail
  go_ret
  exact ⟨rfl, HB.out⟩
theorem keepL_lt {l : List Nat} (h : ∀ x ∈ l, x < 65536) (q : Nat) : ∀ x ∈ keepL l q, x < 65536 := by
  intro x hx
  unfold keepL at hx
  rcases List.mem_append.1 hx with hx | hx
  · exact h x (List.mem_of_mem_take hx)
  · rw [List.eq_of_mem_replicate hx]; decide
set_option maxHeartbeats 1000000 in
theorem shorten_write (t : Value) (G : Gm) (hG : G.ok) (k : Nat) (hk1 : 1 ≤ k) (hk2 : k ≤ G.b) (l : List Nat) (hl : l.length = 32) (hlt : ∀ x ∈ l, x < 65536) (q : Nat) (hq : q ≤ 32) (p : Int) (hp : p = (q : Int) + 4) (he : keepL l q ≠ l) (r : Int) (Q : World → Prop) (w : World)
    (hW : ∀ V, Below w.heap.size w V → Calls Tryz.prog 41 #[t, .int .i64 ((secB G k : Nat) : Int), str (tellL (keepL l q))] V fun e w' => e = .returned (.int .i64 r) ∧ Q w') :
    Calls Tryz.prog 30 #[t, gv G, w16 k, lisV l, .int .i64 p] w fun e w' => e = .returned (.int .i64 r) ∧ Q w' := by
  obtain ⟨hz, hsz⟩ := zero_of_info lisInfo2
  have Hsz := Lib.hid hsz
  clear hsz
  have hZ32 : (List.replicate 32 0).length = 32 := rfl
  generalize List.replicate 32 0 = Z at *
  obtain ⟨o, ho1, hsl⟩ := slice_lis (w.heap.size + 1 + 1) q hq
  obtain ⟨W2, W3, h1, h2, h3, h4, h5, h6, h7⟩ := box_lis2 w G.i G.b G.j l Z hl hZ32 q hq o ho1 (32 - q) 0
  have hkl := keepL_length hl hq
  have hkt := keepL_lt hlt q
  have h8 := lis_load h4
  have h9 := lis_load h5
  have heq := fun W => eq_lis (keepL l q) l hkl hl W
  rw [decide_eq_false he] at heq
  have HWr := Lib.hid (bwrite_any t G hG k hk1 hk2 (keepL l q) hkl hkt r Q W3 fun V hV => hW V (h7.trans (hV.mono h7.size)))
  have c0 : W3.cell? ⟨w.heap.size, 0, none⟩ = some (.int .i64 G.i) := cell_of_row W3 _ 0 _ _ (0, 0) h6
  have c1 : W3.cell? ⟨w.heap.size, 1, none⟩ = some (.int .i64 G.b) := cell_of_row W3 _ 1 _ _ (0, 0) h6
  have c2 : W3.cell? ⟨w.heap.size, 2, none⟩ = some (.int .i64 G.j) := cell_of_row W3 _ 2 _ _ (0, 0) h6
  have hpq : p - 4 = (q : Int) := by omega
  clear h4 h5 h6 h7 hp ho1 hW hkt hlt he
  generalize keepL l q = m at *
  go_enter Tryz.func30, Tryz.ntmps30
  go_wp2_with fail
  refine HWr.out.mono ?_
  rintro e w4 ⟨rfl, hQ⟩
  have HQ := Lib.hid hQ
  clear hQ
  go_wp2_with fail
  go_ret
  exact ⟨rfl, HQ.out⟩
end Go.Proofs.YtdddennhdbmolaaGreat
