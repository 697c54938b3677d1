/- Layer 9 (bmap): what the statements make: a transaction on a device of a geometry. -/
import Derived.Test.YtdddennhdbmolaaGreatBmapR8
namespace Go.Proofs.YtdddennhdbmolaaGreat
open Go.RowKit Go.Maps Go.Lib
set_option linter.unusedVariables false
set_option linter.unusedSimpArgs false
set_option maxRecDepth 10000
/-- The chapter's geometry. -/
def smallG : Gm := ⟨8, 16, 40⟩
theorem smallG_ok : smallG.ok := by decide
abbrev smallV : Value := .agg #[.int .i64 8, .int .i64 16, .int .i64 40]
set_option maxHeartbeats 400000 in
theorem small_any (w : World) : Calls Tryz.prog 15 #[] w fun e w' => e = .returned smallV ∧ Below w.heap.size w w' := by
  go_enter Tryz.func15, Tryz.ntmps15
  go_wp2
  refine bodyPost_ret (v := smallV) ?_ rfl ⟨rfl, (Below.refl _ _).alloc (Nat.le_refl _) _⟩
  exact results_cell_row rfl _ _ w.heap.size 23 _ (0, 0) _ rfl (heap_alloc_new _ _) Tryz.underlying23 rfl (by kernel_rfl)
def twoI : Im := ⟨1, 0, 128, 7, 9, 0, 0, 0⟩
theorem two_fits : twoI.fits := by simp [Im.fits, twoI]
set_option maxHeartbeats 400000 in
theorem two9_any (w : World) : Calls Tryz.prog 23 #[] w fun e w' => e = .returned twoI.v ∧ Below w.heap.size w w' := by
  go_enter Tryz.func23, Tryz.ntmps23
  go_wp2
  refine bodyPost_ret (v := twoI.v) ?_ rfl ⟨rfl, (Below.refl _ _).alloc (Nat.le_refl _) _⟩
  exact results_cell_row rfl _ _ w.heap.size 28 _ (0, 0) _ rfl (heap_alloc_new _ _) Tryz.underlying28 rfl (by kernel_rfl)
theorem geo_cells {W : World} {p : Nat} {i b j : Int} (h : GeoAt W p i b j) : W.cell? ⟨p, 0, none⟩ = some (.int .i64 i) ∧ W.cell? ⟨p, 1, none⟩ = some (.int .i64 b) ∧ W.cell? ⟨p, 2, none⟩ = some (.int .i64 j) :=
  ⟨cell_of_row W p 0 _ _ _ h, cell_of_row W p 1 _ _ _ h, cell_of_row W p 2 _ _ _ h⟩
theorem geo_new (W : World) (i b j : Int) : GeoAt (W.alloc (.cells #[.int .i64 i, .int .i64 b, .int .i64 j] 23)) W.heap.size i b j := heap_alloc_new W _
theorem Gm.made {G : Gm} (h : G.ok) : 8 ≤ G.all ∧ G.all ≤ 4096 ∧ 1 + G.j ≤ G.all ∧ 4 ≤ G.j ∧ G.j ≤ 256 := by
  unfold Gm.ok at h
  unfold Gm.all
  simp only [Gm.off, Gm.cnt]
  omega
section
variable {w W : World} {rs : List Res}
theorem sys_new9 (h : Sys w W rs) (n : Nat) (h8 : 8 ≤ n) (hn : n ≤ 4096) : Calls Tryz.prog 32 #[.int .i64 (n : Int)] W fun e w' => ∃ b, e = .returned (.tuple #[devp b, .int .i64 0]) ∧ Sys w w' (rs ++ [devR b (dev0 n)]) ∧ Below W.heap.size W w' := by
  refine (new_any n h8 hn W).mono ?_
  rintro e w' ⟨rfl, rfl⟩
  exact ⟨_, rfl, h.push (newW_below n W) (T := newS W) (new_in n h8 hn W) (newS_from W), newW_below n W⟩
/-- A device, a journal and a transaction. -/
def madeR (b jb tb : Nat) (G : Gm) : List Res := [devR b (dev0 G.all), jourR jb b 1 G.j 0, txR tb b jb G.all []]
set_option maxHeartbeats 1000000 in
theorem sys_made9 (h : Sys w W rs) (G : Gm) (hG : G.ok) : Calls Tryz.prog 14 #[gv G] W fun e w' => ∃ b jb tb, e = .returned (.tuple #[devp tb, devp b]) ∧ Sys w w' (rs ++ madeR b jb tb G) := by
  obtain ⟨h8, h4k, hj1, h4, h256⟩ := Gm.made hG
  have HS := Lib.hid fun V => sectors_ok G V hG
  have hP := fun V => part_ok G 1 1 rfl V hG (by decide)
  have e1 : G.off 1 = 1 := rfl
  have e2 : G.cnt 1 = G.j := rfl
  unfold partV at hP
  rw [e1, e2] at hP
  have HP := Lib.hid hP
  have h0 := h.below ((Below.refl W.heap.size W).alloc (Nat.le_refl _) (.cells #[.int .i64 (G.i : Int), .int .i64 (G.b : Int), .int .i64 (G.j : Int)] 23))
  have hg := geo_new W G.i G.b G.j
  obtain ⟨N, hN⟩ : ∃ N, N = G.all := ⟨_, rfl⟩
  unfold madeR
  rw [← hN] at HS h8 h4k hj1 ⊢
  clear hP e1 e2 h hN
  generalize hW : (W.alloc (.cells #[.int .i64 (G.i : Int), .int .i64 (G.b : Int), .int .i64 (G.j : Int)] 23)) = W0 at *
  obtain ⟨g0, g1, g2⟩ := geo_cells hg
  have HW := Lib.hid hW
  have HG := Lib.hid hg
  have H0 := Lib.hid h0
  have HN := Lib.hid (⟨h8, h4k, hj1, h4, h256⟩ : 8 ≤ N ∧ N ≤ 4096 ∧ 1 + G.j ≤ N ∧ 4 ≤ G.j ∧ G.j ≤ 256)
  clear hW hg h0 h8 h4k hj1 h4 h256
  go_enter Tryz.func14, Tryz.ntmps14
  go_wp2_with fail
  rw [HW.out]
  clear HW
  go_wp2_with fail
  refine (HS.out _).mono ?_
  rintro e w1 ⟨rfl, hb⟩
  have H1 := Lib.hid (H0.out.below hb)
  have HG1 := Lib.hid (HG.out.below hb)
  obtain ⟨g0, g1, g2⟩ := geo_cells HG1.out
  clear hb H0
  go_wp2_with fail
  refine (HP.out _).mono ?_
  rintro e w2 ⟨rfl, hb⟩
  have H2 := Lib.hid (H1.out.below hb)
  clear hb H1 HG HG1 g0 g1 g2
  have hb2 : Below w2.heap.size w2 (w2.alloc (.cells #[.int .i64 1, .int .i64 (G.j : Int)] 78)) := (Below.refl _ _).alloc (Nat.le_refl _) _
  have hsp : (w2.alloc (.cells #[.int .i64 1, .int .i64 (G.j : Int)] 78)).heap[w2.heap.size]? = some (.cells #[.int .i64 1, .int .i64 (G.j : Int)] 78 (0, 0)) := heap_alloc_new _ _
  have h3 := sys_new9 (H2.out.below hb2) N HN.out.1 HN.out.2.1
  have H3 := Lib.hid h3
  have HSP := Lib.hid hsp
  clear h3 hb2 hsp H2
  go_wp2_with fail
  refine H3.out.mono ?_
  rintro e w4 ⟨b, rfl, h4, hb⟩
  have H4 := Lib.hid h4
  have hsp := (hb.block _ (Array.getElem?_eq_some_iff.1 HSP.out).1).trans HSP.out
  have s0 := cell_of_row w4 _ 0 _ _ _ hsp
  have s1 := cell_of_row w4 _ 1 _ _ _ hsp
  clear h4 hb H3 HSP hsp
  have h5 := sys_open (i := rs.length) (b := b) (M := dev0 N) H4.out (by simp) 1 G.j HN.out.2.2.2.1 HN.out.2.2.2.2 (show 1 + G.j ≤ N from HN.out.2.2.1) rfl (Nat.zero_le _) (by have : (dev0 N).cur 1 = List.replicate 64 0 := rfl; rw [this, hd_zero])
  have H5 := Lib.hid h5
  clear h5 H4
  go_wp2_with fail
  refine H5.out.mono ?_
  rintro e w5 ⟨jb, rfl, h6⟩
  have H6 := Lib.hid (sys_begin h6 b jb N HN.out.2.1)
  clear h6 H5
  go_wp2_with fail
  refine H6.out.mono ?_
  rintro e w6 ⟨tb, rfl, h7⟩
  have H7 := Lib.hid h7
  clear h7 H6
  go_wp2_with fail
  go_ret2
  refine ⟨b, jb, tb, rfl, ?_⟩
  have := H7.out
  rw [List.append_assoc, List.append_assoc] at this
  exact this
set_option maxHeartbeats 1000000 in
theorem made9_bad {i b j : Int} (hm : ¬ mayI i b j) (W : World) : Calls Tryz.prog 14 #[geoV i b j] W fun e w' => e = .returned (.tuple #[.pointer none, .pointer none]) ∧ Below W.heap.size W w' := by
  have HS := Lib.hid fun V => sectors_bad i b j V hm
  have HP := Lib.hid fun V => part_bad i b j 1 V (.inl hm)
  have HN := Lib.hid fun V => new_no 0 V (.inl (by decide))
  have h0 := ((Below.refl W.heap.size W).alloc (Nat.le_refl _) (.cells #[.int .i64 i, .int .i64 b, .int .i64 j] 23))
  have hg := geo_new W i b j
  clear hm
  generalize hW : (W.alloc (.cells #[.int .i64 i, .int .i64 b, .int .i64 j] 23)) = W0 at *
  obtain ⟨g0, g1, g2⟩ := geo_cells hg
  have HW := Lib.hid hW
  have HG := Lib.hid hg
  have H0 := Lib.hid h0
  clear hW hg h0
  go_enter Tryz.func14, Tryz.ntmps14
  go_wp2_with fail
  rw [HW.out]
  clear HW
  go_wp2_with fail
  refine (HS.out _).mono ?_
  rintro e w1 ⟨rfl, hb⟩
  have H1 := Lib.hid (H0.out.trans (hb.mono H0.out.size))
  have HG1 := Lib.hid (HG.out.below hb)
  obtain ⟨g0, g1, g2⟩ := geo_cells HG1.out
  clear hb H0
  go_wp2_with fail
  refine (HP.out _).mono ?_
  rintro e w2 ⟨rfl, hb⟩
  have H2 := Lib.hid (H1.out.trans (hb.mono H1.out.size))
  clear hb H1 HG HG1 g0 g1 g2
  go_wp2_with fail
  refine (HN.out _).mono ?_
  rintro e w3 ⟨rfl, rfl⟩
  have H3 := Lib.hid (H2.out.alloc H2.out.size (.cells #[.int .i64 0, .int .i64 0] 78))
  clear H2
  go_wp2_with fail
  go_ret2
  exact ⟨rfl, H3.out⟩
end
end Go.Proofs.YtdddennhdbmolaaGreat
