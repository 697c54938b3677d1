/- Layer 9 (bmap): Get. Written by tools/genbmap11.py. -/
import Derived.Test.YtdddennhdbmolaaGreatBmap10
namespace Go.Proofs.YtdddennhdbmolaaGreat
open Go.RowKit Go.Maps Go.Lib
set_option linter.unusedVariables false
set_option linter.unusedSimpArgs false
set_option maxRecDepth 10000
/-- The boxes of a geometry and an inode. -/
theorem box_gi (w : World) (i b j : Int) (x : Im) :
    GeoAt ((w.alloc (.cells #[.int .i64 i, .int .i64 b, .int .i64 j] 23)).alloc (.cells #[.int .u8 x.k, w16 x.n, .int .u32 x.z, w16 x.d0, w16 x.d1, w16 x.d2, w16 x.d3, w16 x.i] 28)) w.heap.size i b j ∧ InoAt ((w.alloc (.cells #[.int .i64 i, .int .i64 b, .int .i64 j] 23)).alloc (.cells #[.int .u8 x.k, w16 x.n, .int .u32 x.z, w16 x.d0, w16 x.d1, w16 x.d2, w16 x.d3, w16 x.i] 28)) (w.heap.size + 1) x ∧ Below w.heap.size w ((w.alloc (.cells #[.int .i64 i, .int .i64 b, .int .i64 j] 23)).alloc (.cells #[.int .u8 x.k, w16 x.n, .int .u32 x.z, w16 x.d0, w16 x.d1, w16 x.d2, w16 x.d3, w16 x.i] 28)) :=
  ⟨(heap_two w _ _).1, (heap_two w _ _).2, ((Below.refl _ w).alloc (Nat.le_refl _) _).alloc (by simp) _⟩
/-- Both boxes, by their cells. -/
structure Boxes (W : World) (g h : Nat) (i b j : Int) (x : Im) : Prop where
  g0 : W.cell? ⟨g, 0, none⟩ = some (.int .i64 i)
  g1 : W.cell? ⟨g, 1, none⟩ = some (.int .i64 b)
  g2 : W.cell? ⟨g, 2, none⟩ = some (.int .i64 j)
  x0 : W.cell? ⟨h, 0, none⟩ = some (.int .u8 x.k)
  x1 : W.cell? ⟨h, 1, none⟩ = some (w16 x.n)
  x2 : W.cell? ⟨h, 2, none⟩ = some (.int .u32 x.z)
  x3 : W.cell? ⟨h, 3, none⟩ = some (w16 x.d0)
  x4 : W.cell? ⟨h, 4, none⟩ = some (w16 x.d1)
  x5 : W.cell? ⟨h, 5, none⟩ = some (w16 x.d2)
  x6 : W.cell? ⟨h, 6, none⟩ = some (w16 x.d3)
  x7 : W.cell? ⟨h, 7, none⟩ = some (w16 x.i)
theorem Boxes.of {W : World} {g h : Nat} {i b j : Int} {x : Im} (hg : GeoAt W g i b j) (hx : InoAt W h x) : Boxes W g h i b j x :=
  ⟨cell_of_row W g 0 _ _ _ hg, cell_of_row W g 1 _ _ _ hg, cell_of_row W g 2 _ _ _ hg, cell_of_row W h 0 _ _ _ hx, cell_of_row W h 1 _ _ _ hx, cell_of_row W h 2 _ _ _ hx, cell_of_row W h 3 _ _ _ hx, cell_of_row W h 4 _ _ _ hx, cell_of_row W h 5 _ _ _ hx, cell_of_row W h 6 _ _ _ hx, cell_of_row W h 7 _ _ _ hx⟩
theorem u16s_nil (W : World) : U16s W (.slice none 0 0) [] := ⟨none, 0, rfl, fun j n h => by simp at h⟩
/-- A new array that a list is stored into. -/
theorem lis_new (W : World) (l : List Nat) (hl : l.length = 32) : ∃ Z W', (∀ w, (zeroValue 71).run Tryz.prog w = .ok (.agg (numV Z).toArray) w) ∧ (lisStore (.pointer (some ⟨W.heap.size, 0, none⟩)) (lisV l)).run Tryz.prog (W.alloc (.cells (numV Z).toArray 71)) = .ok () W' ∧ LisAt W' W.heap.size l ∧ Below W.heap.size W W' := by
  obtain ⟨hz, -⟩ := zero_of_info lisInfo2
  obtain ⟨W', h1, h2, -, h3⟩ := lis_store (lis_alloc W (List.replicate 32 0) rfl) hl
  exact ⟨_, W', hz, h1, h2, ((Below.refl _ W).alloc (Nat.le_refl _) _).trans (h3 _ (Nat.le_refl _))⟩
set_option maxHeartbeats 1000000 in
theorem get_no (t : Option Addr) (i b j : Int) (x : Im) (p : Int) (r : Int) (hr : r ≠ 0) (w : World) (hN : ∀ V, Calls Tryz.prog 25 #[.pointer t, geoV i b j, x.v, .bool (decide (0 ≤ p ∧ p < 36)), .slice none 0 0] V fun e w' => e = .returned (.int .i64 r) ∧ Below V.heap.size V w') :
    Calls Tryz.prog 16 #[.pointer t, geoV i b j, x.v, .int .i64 p] w fun e w' => e = .returned (.tuple #[.int .u16 0, .int .i64 r]) ∧ Below w.heap.size w w' := by
  obtain ⟨hG, hX, hB⟩ := box_gi w i b j x
  generalize hW : ((w.alloc (.cells #[.int .i64 i, .int .i64 b, .int .i64 j] 23)).alloc (.cells #[.int .u8 x.k, w16 x.n, .int .u32 x.z, w16 x.d0, w16 x.d1, w16 x.d2, w16 x.d3, w16 x.i] 28)) = W0 at *
  obtain ⟨g0, g1, g2, x0, x1, x2, x3, x4, x5, x6, x7⟩ := Boxes.of hG hX
  have HG := Lib.hid hG
  have HX := Lib.hid hX
  have HB := Lib.hid hB
  have HI := Lib.hid fun V => isPage_any p V
  have HN := Lib.hid hN
  generalize decide (0 ≤ p ∧ p < 36) = m at HI HN
  have HW := Lib.hid hW
  clear hW hG hX hB hN
  have hne : (r != 0) = true := by simpa using hr
  clear hr
  go_enter Tryz.func16, Tryz.ntmps16
  go_wp2_with fail
  rw [HW.out]
  clear HW
  go_region_held3 (fun W' => W'.cell? ⟨w.heap.size, 0, none⟩ = some (.int .i64 i) ∧ W'.cell? ⟨w.heap.size, 1, none⟩ = some (.int .i64 b) ∧ W'.cell? ⟨w.heap.size, 2, none⟩ = some (.int .i64 j) ∧ W'.cell? ⟨w.heap.size + 1, 0, none⟩ = some (.int .u8 x.k) ∧ W'.cell? ⟨w.heap.size + 1, 1, none⟩ = some (w16 x.n) ∧ W'.cell? ⟨w.heap.size + 1, 2, none⟩ = some (.int .u32 x.z) ∧ W'.cell? ⟨w.heap.size + 1, 3, none⟩ = some (w16 x.d0) ∧ W'.cell? ⟨w.heap.size + 1, 4, none⟩ = some (w16 x.d1) ∧ W'.cell? ⟨w.heap.size + 1, 5, none⟩ = some (w16 x.d2) ∧ W'.cell? ⟨w.heap.size + 1, 6, none⟩ = some (w16 x.d3) ∧ W'.cell? ⟨w.heap.size + 1, 7, none⟩ = some (w16 x.i))
    (first | exact ⟨g0, g1, g2, x0, x1, x2, x3, x4, x5, x6, x7⟩ | go_keep)
    (first | (go_at_call 26; ((with_reducible refine (HI.out _).mono ?_); rintro e w1 ⟨rfl, rfl⟩))
           | (go_at_call 25; ((with_reducible refine (HN.out _).mono ?_); rintro e w1 ⟨rfl, hb⟩; have HB1 := Lib.hid (below_of_drew hb); have HG1 := Lib.hid (HG.out.below HB1.out); have HX1 := Lib.hid (HX.out.below HB1.out HX.out.lt); obtain ⟨g0, g1, g2, x0, x1, x2, x3, x4, x5, x6, x7⟩ := Boxes.of HG1.out HX1.out; clear hb)))
  go_wp2_with fail
  go_ret2
  exact ⟨rfl, HB.out.trans (HB1.out.mono HB.out.size)⟩
set_option maxHeartbeats 1000000 in
theorem get_dir (t : Option Addr) (i b j : Int) (x : Im) (p : Nat) (hp : p < 4) (w : World) (hN : ∀ V, Calls Tryz.prog 25 #[.pointer t, geoV i b j, x.v, .bool (decide (0 ≤ (p : Int) ∧ (p : Int) < 36)), .slice none 0 0] V fun e w' => e = .returned (.int .i64 0) ∧ Below V.heap.size V w') :
    Calls Tryz.prog 16 #[.pointer t, geoV i b j, x.v, .int .i64 (p : Int)] w fun e w' => e = .returned (.tuple #[w16 (x.dir.getD p 0), .int .i64 0]) ∧ Below w.heap.size w w' := by
  obtain ⟨hG, hX, hB⟩ := box_gi w i b j x
  generalize hW : ((w.alloc (.cells #[.int .i64 i, .int .i64 b, .int .i64 j] 23)).alloc (.cells #[.int .u8 x.k, w16 x.n, .int .u32 x.z, w16 x.d0, w16 x.d1, w16 x.d2, w16 x.d3, w16 x.i] 28)) = W0 at *
  obtain ⟨g0, g1, g2, x0, x1, x2, x3, x4, x5, x6, x7⟩ := Boxes.of hG hX
  have HG := Lib.hid hG
  have HX := Lib.hid hX
  have HB := Lib.hid hB
  have HI := Lib.hid fun V => isPage_any (p : Int) V
  have HN := Lib.hid hN
  generalize decide (0 ≤ (p : Int) ∧ (p : Int) < 36) = m at HI HN
  have HW := Lib.hid hW
  clear hW hG hX hB hN
  go_enter Tryz.func16, Tryz.ntmps16
  go_wp2_with fail
  rw [HW.out]
  clear HW
  go_region_held3 (fun W' => W'.cell? ⟨w.heap.size, 0, none⟩ = some (.int .i64 i) ∧ W'.cell? ⟨w.heap.size, 1, none⟩ = some (.int .i64 b) ∧ W'.cell? ⟨w.heap.size, 2, none⟩ = some (.int .i64 j) ∧ W'.cell? ⟨w.heap.size + 1, 0, none⟩ = some (.int .u8 x.k) ∧ W'.cell? ⟨w.heap.size + 1, 1, none⟩ = some (w16 x.n) ∧ W'.cell? ⟨w.heap.size + 1, 2, none⟩ = some (.int .u32 x.z) ∧ W'.cell? ⟨w.heap.size + 1, 3, none⟩ = some (w16 x.d0) ∧ W'.cell? ⟨w.heap.size + 1, 4, none⟩ = some (w16 x.d1) ∧ W'.cell? ⟨w.heap.size + 1, 5, none⟩ = some (w16 x.d2) ∧ W'.cell? ⟨w.heap.size + 1, 6, none⟩ = some (w16 x.d3) ∧ W'.cell? ⟨w.heap.size + 1, 7, none⟩ = some (w16 x.i))
    (first | exact ⟨g0, g1, g2, x0, x1, x2, x3, x4, x5, x6, x7⟩ | go_keep)
    (first | (go_at_call 26; ((with_reducible refine (HI.out _).mono ?_); rintro e w1 ⟨rfl, rfl⟩))
           | (go_at_call 25; ((with_reducible refine (HN.out _).mono ?_); rintro e w1 ⟨rfl, hb⟩; have HB1 := Lib.hid (below_of_drew hb); have HG1 := Lib.hid (HG.out.below HB1.out); have HX1 := Lib.hid (HX.out.below HB1.out HX.out.lt); obtain ⟨g0, g1, g2, x0, x1, x2, x3, x4, x5, x6, x7⟩ := Boxes.of HG1.out HX1.out; clear hb)))
  obtain ⟨n, hn⟩ : ∃ n, n = x.dir.getD p 0 := ⟨_, rfl⟩
  have hcell : w1.cell? ⟨w.heap.size + 1, 3 + p, none⟩ = some (w16 n) := by
    rw [hn]
    match p, hp with
    | 0, _ => exact x3
    | 1, _ => exact x4
    | 2, _ => exact x5
    | 3, _ => exact x6
  have HNn := Lib.hid hn
  have hpi : (p : Int) < 4 := by omega
  clear hn
  go_wp2_with fail
  go_ret2
  exact ⟨by rw [← HNn.out]; rfl, HB.out.trans (HB1.out.mono HB.out.size)⟩
set_option maxHeartbeats 1000000 in
theorem get_ind (t : Option Addr) (i b j : Int) (x : Im) (q : Nat) (hq : q < 32) (p : Int) (hp : p = (q : Int) + 4) (l : List Nat) (hl : l.length = 32) (w : World) (hN : ∀ V, Calls Tryz.prog 25 #[.pointer t, geoV i b j, x.v, .bool (decide (0 ≤ p ∧ p < 36)), .slice none 0 0] V fun e w' => e = .returned (.int .i64 0) ∧ Below V.heap.size V w')
    (hR : ∀ V, Below w.heap.size w V → Calls Tryz.prog 27 #[.pointer t, geoV i b j, w16 x.i] V fun e w' => e = .returned (.tuple #[lisV l, .int .i64 0]) ∧ Below V.heap.size V w') :
    Calls Tryz.prog 16 #[.pointer t, geoV i b j, x.v, .int .i64 p] w fun e w' => e = .returned (.tuple #[w16 (l.getD q 0), .int .i64 0]) ∧ Below w.heap.size w w' := by
  obtain ⟨hG, hX, hB⟩ := box_gi w i b j x
  generalize hW : ((w.alloc (.cells #[.int .i64 i, .int .i64 b, .int .i64 j] 23)).alloc (.cells #[.int .u8 x.k, w16 x.n, .int .u32 x.z, w16 x.d0, w16 x.d1, w16 x.d2, w16 x.d3, w16 x.i] 28)) = W0 at *
  obtain ⟨g0, g1, g2, x0, x1, x2, x3, x4, x5, x6, x7⟩ := Boxes.of hG hX
  have HG := Lib.hid hG
  have HX := Lib.hid hX
  have HB := Lib.hid hB
  have HI := Lib.hid fun V => isPage_any p V
  have HN := Lib.hid hN
  generalize decide (0 ≤ p ∧ p < 36) = m at HI HN
  have HW := Lib.hid hW
  clear hW hG hX hB hN
  have hsub : p - 4 = (q : Int) := by omega
  have hp4 : ¬ p < 4 := by omega
  have HR := Lib.hid hR
  clear hR hp
  go_enter Tryz.func16, Tryz.ntmps16
  go_wp2_with fail
  rw [HW.out]
  clear HW
  go_region_held3 (fun W' => W'.cell? ⟨w.heap.size, 0, none⟩ = some (.int .i64 i) ∧ W'.cell? ⟨w.heap.size, 1, none⟩ = some (.int .i64 b) ∧ W'.cell? ⟨w.heap.size, 2, none⟩ = some (.int .i64 j) ∧ W'.cell? ⟨w.heap.size + 1, 0, none⟩ = some (.int .u8 x.k) ∧ W'.cell? ⟨w.heap.size + 1, 1, none⟩ = some (w16 x.n) ∧ W'.cell? ⟨w.heap.size + 1, 2, none⟩ = some (.int .u32 x.z) ∧ W'.cell? ⟨w.heap.size + 1, 3, none⟩ = some (w16 x.d0) ∧ W'.cell? ⟨w.heap.size + 1, 4, none⟩ = some (w16 x.d1) ∧ W'.cell? ⟨w.heap.size + 1, 5, none⟩ = some (w16 x.d2) ∧ W'.cell? ⟨w.heap.size + 1, 6, none⟩ = some (w16 x.d3) ∧ W'.cell? ⟨w.heap.size + 1, 7, none⟩ = some (w16 x.i))
    (first | exact ⟨g0, g1, g2, x0, x1, x2, x3, x4, x5, x6, x7⟩ | go_keep)
    (first | (go_at_call 26; ((with_reducible refine (HI.out _).mono ?_); rintro e w1 ⟨rfl, rfl⟩))
           | (go_at_call 25; ((with_reducible refine (HN.out _).mono ?_); rintro e w1 ⟨rfl, hb⟩; have HB1 := Lib.hid (below_of_drew hb); have HG1 := Lib.hid (HG.out.below HB1.out); have HX1 := Lib.hid (HX.out.below HB1.out HX.out.lt); obtain ⟨g0, g1, g2, x0, x1, x2, x3, x4, x5, x6, x7⟩ := Boxes.of HG1.out HX1.out; clear hb)))
  have HW1 := Lib.hid (HB.out.trans (HB1.out.mono HB.out.size))
  go_wp2_with fail
  refine (HR.out _ HW1.out).mono ?_
  rintro e w2 ⟨rfl, hb⟩
  obtain ⟨Z, w3, hz, hs, hL, hb3⟩ := lis_new w2 l hl
  have hcell := hL.cell (j := q) (n := l.getD q 0) (by rw [List.getD_eq_getElem?_getD, List.getElem?_eq_getElem (by omega)]; rfl)
  have HB3 := Lib.hid ((HW1.out.trans (hb.mono HW1.out.size)).trans (hb3.mono (Nat.le_trans HW1.out.size hb.size)))
  have hq0 : (0 : Int) ≤ (q : Int) := by omega
  have hq32 : (q : Int) < 32 := by omega
  obtain ⟨n, hn⟩ : ∃ n, n = l.getD q 0 := ⟨_, rfl⟩
  rw [← hn] at hcell
  have HNn := Lib.hid hn
  clear hb hb3 hL hn
  go_wp2_with fail
  go_ret2
  exact ⟨by rw [← HNn.out]; rfl, HB3.out⟩
end Go.Proofs.YtdddennhdbmolaaGreat
