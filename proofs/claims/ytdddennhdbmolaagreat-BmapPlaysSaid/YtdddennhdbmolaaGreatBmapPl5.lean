/- Layer 9 (bmap): a step's turn, of both sides. Written by tools/genbmapdoes.py. -/
import Derived.Test.YtdddennhdbmolaaGreatBmapPl1
namespace Go.Proofs.YtdddennhdbmolaaGreat
open Go.RowKit Go.Maps Go.Lib
set_option linter.unusedVariables false
set_option linter.unusedSimpArgs false
set_option maxRecDepth 10000
attribute [local go_sem ↓] ino_store_fold
/-- A step's outcome. -/
def Did (w w' : World) (b jb tb rb : Nat) (v : Value) (G : Gm) (qs : List Res) (e : Ending) : Prop := ∃ (y : Im) (L' : PutL), e = .returned (.tuple #[y.v, .bool true]) ∧ y.fits ∧ Pl w w' b jb tb rb v G L' L' qs
theorem eq_same (y : Im) (V : World) : (Op.equalIn 10000 28 y.v y.v).run Tryz.prog V = .ok true V := by
  have := eq_im y y V
  rwa [decide_eq_true rfl] at this
section
variable {w W : World} {b jb tb rb : Nat} {v : Value} {G : Gm} {L L' : PutL} {qs : List Res}
/-- A box that is made, and stored into. -/
theorem Pl.box (h : Pl w W b jb tb rb v G L L' qs) (y : Im) : ∃ W', (inoStore (.pointer (some ⟨W.heap.size, 0, none⟩)) y.v).run Tryz.prog (W.alloc (.cells #[.int .u8 0, .int .u16 0, .int .u32 0, .int .u16 0, .int .u16 0, .int .u16 0, .int .u16 0, .int .u16 0] 28)) = .ok () W' ∧ Pl w W' b jb tb rb v G L L' (inoR W.heap.size y :: qs) ∧ Below W.heap.size W W' := by
  obtain ⟨W', h1, h2, h3⟩ := (h.fino Im.nought).put (i := 0) rfl y
  have hb := (Below.refl W.heap.size W).alloc (Nat.le_refl _) (.cells #[.int .u8 0, .int .u16 0, .int .u32 0, .int .u16 0, .int .u16 0, .int .u16 0, .int .u16 0, .int .u16 0] 28)
  refine ⟨W', h1, h2, h3.os.trans hb.os, h3.tape.trans hb.tape, h3.output.trans hb.output, Nat.le_trans hb.size h3.size, fun k hk => (h3.block k ?_ ?_).trans (hb.block k hk)⟩
  · exact Nat.lt_of_lt_of_le hk hb.size
  · omega
theorem ctF_length (h : Pl w W b jb tb rb v G L L qs) (x : Im) (p : Int) : (ctF G (dev0 G.all).cur L x p (ctE G.all (capL 40) G (dev0 G.all).cur L x p)).length ≤ 100000 := by
  by_cases hok : fitB G x 0 ∧ cutP p
  · have hl : (lisL G (dev0 G.all).cur L x.i).length = 32 := h.tx.lis rfl hok.1.2.2.2.2.2
    unfold ctF
    split
    · have h1 := freeL_length p (prL x (lisL G (dev0 G.all).cur L x.i)) (prL x (lisL G (dev0 G.all).cur L x.i)).length
      rw [List.take_length] at h1
      have h2 := prL_length x _ hl
      omega
    · simp
  · have hE : ctE G.all (capL 40) G (dev0 G.all).cur L x p = 2 := by unfold ctE; rw [if_neg hok]
    rw [hE]
    unfold ctF
    rw [if_neg (by decide)]
    simp
set_option maxHeartbeats 4000000 in
set_option maxRecDepth 100000 in
theorem does9_get (h : Pl w W b jb tb rb v G L L qs) (hG : G.ok) (x : Im) (hxf : x.fits) (pg : Int) (bn : Nat) (hbn : bn < 65536) (l : List Nat) (sv : Value) :
    Calls Tryz.prog 19 #[devp tb, devp rb, gv G, x.v, stepV9 ⟨0, pg, bn, l⟩ sv] W fun e w' => Did w w' b jb tb rb v G qs e := by
  obtain ⟨g, q, m, o, a, c, e0, e1, e2, e3, e4, e5, h0⟩ := h.start x ⟨0, pg, bn, l⟩ sv
  have R1 := Lib.hid fun V (h : Pl w V b jb tb rb v G L L (dsR g q m o a c G x ⟨0, pg, bn, l⟩ sv .nought .nought .nought qs)) => pl_get h hG x hxf pg
  have R2 := Lib.hid fun V (h : Pl w V b jb tb rb v G L L (dsR g q m o a c G x ⟨0, pg, bn, l⟩ sv .nought .nought .nought qs)) => pl_rget h hG x hxf pg
  generalize gtV G (dev0 G.all).cur L x pg = u at *
  generalize gtE G x pg = E at *
  generalize hW : doesW W G x ⟨0, pg, bn, l⟩ sv = W0 at *
  unfold doesW at hW
  simp only at hW
  have HW := Lib.hid hW
  have H0 := Lib.hid h0
  have E0 := Lib.hid e0
  have E1 := Lib.hid e1
  have E2 := Lib.hid e2
  have E3 := Lib.hid e3
  have E4 := Lib.hid e4
  have E5 := Lib.hid e5
  clear hW e0 e1 e2 e3 e4 e5 h0 h
  obtain ⟨g0, g1, g2⟩ := geo_cells (H0.out.sys.mem (i := 10) rfl)
  obtain ⟨x0, x1, x2, x3, x4, x5, x6, x7⟩ := ino_cells (H0.out.sys.mem (i := 9) rfl)
  obtain ⟨s0, s1, s2, s3⟩ : stepAt9 _ m _ _ := H0.out.sys.mem (i := 8) rfl
  go_enter Tryz.func19, Tryz.ntmps19
  go_wp2_with fail
  rw [HW.out, ← E0.out, ← E1.out, ← E2.out, ← E3.out, ← E4.out, ← E5.out]
  clear HW E0 E1 E2 E3 E4 E5
  refine (R1.out _ H0.out).mono ?_
  rintro e w1 ⟨rfl, h1⟩
  have H1 := Lib.hid h1
  clear g0 g1 g2 x0 x1 x2 x3 x4 x5 x6 x7 s0 s1 s2 s3 H0 h1
  obtain ⟨g0, g1, g2⟩ := geo_cells (H1.out.sys.mem (i := 10) rfl)
  obtain ⟨x0, x1, x2, x3, x4, x5, x6, x7⟩ := ino_cells (H1.out.sys.mem (i := 9) rfl)
  obtain ⟨s0, s1, s2, s3⟩ : stepAt9 _ m _ _ := H1.out.sys.mem (i := 8) rfl
  go_wp2_with fail
  refine (R2.out _ H1.out).mono ?_
  rintro e w2 ⟨rfl, h2⟩
  have H2 := Lib.hid h2
  clear g0 g1 g2 x0 x1 x2 x3 x4 x5 x6 x7 s0 s1 s2 s3 H1 h2
  obtain ⟨g0, g1, g2⟩ := geo_cells (H2.out.sys.mem (i := 10) rfl)
  obtain ⟨x0, x1, x2, x3, x4, x5, x6, x7⟩ := ino_cells (H2.out.sys.mem (i := 9) rfl)
  obtain ⟨s0, s1, s2, s3⟩ : stepAt9 _ m _ _ := H2.out.sys.mem (i := 8) rfl
  obtain ⟨w3, hs, h3, -⟩ := H2.out.put (i := 2) rfl x
  have H3 := Lib.hid (show Pl w w3 b jb tb rb v G L L (dsR g q m o a c G x ⟨0, pg, bn, l⟩ sv x .nought .nought qs) from h3)
  clear h3
  go_wp2_with fail
  refine bodyPost_ret (v := .tuple #[x.v, .bool true]) ?_ rfl ⟨x, L, rfl, hxf, (H3.out).done⟩
  exact results_row_tmp (p := 10) (q := 11) rfl _ _ o _ rfl (ino_var ((H3.out).sys.mem (i := 7) rfl))
set_option maxHeartbeats 4000000 in
set_option maxRecDepth 100000 in
theorem does9_set (h : Pl w W b jb tb rb v G L L qs) (hG : G.ok) (x : Im) (hxf : x.fits) (pg : Int) (bn : Nat) (hbn : bn < 65536) (l : List Nat) (sv : Value) :
    Calls Tryz.prog 19 #[devp tb, devp rb, gv G, x.v, stepV9 ⟨1, pg, bn, l⟩ sv] W fun e w' => Did w w' b jb tb rb v G qs e := by
  obtain ⟨g, q, m, o, a, c, e0, e1, e2, e3, e4, e5, h0⟩ := h.start x ⟨1, pg, bn, l⟩ sv
  obtain ⟨L', hL'⟩ : ∃ L', L' = stL G.all (capL 40) G (dev0 G.all).cur L x pg bn := ⟨_, rfl⟩
  have R1 := fun V (h : Pl w V b jb tb rb v G L L (dsR g q m o a c G x ⟨1, pg, bn, l⟩ sv .nought .nought .nought qs)) => pl_set h hG x hxf pg bn hbn
  rw [← hL'] at R1
  have R2 := fun V xa (h : Pl w V b jb tb rb v G L L' (dsR g q m o a c G x ⟨1, pg, bn, l⟩ sv .nought xa .nought qs)) => pl_rset hL' h hG hxf hbn
  have hyf := fun e => stX_fits hxf pg hbn e
  generalize stE G.all (capL 40) G (dev0 G.all).cur L x pg bn = E at *
  obtain ⟨y, hy⟩ : ∃ y, y = stX x pg bn E := ⟨_, rfl⟩
  rw [← hy] at R1 R2
  have hyf := hyf E
  rw [← hy] at hyf
  clear hL' hy
  have R1 := Lib.hid R1
  have R2 := Lib.hid R2
  generalize hW : doesW W G x ⟨1, pg, bn, l⟩ sv = W0 at *
  unfold doesW at hW
  simp only at hW
  have HW := Lib.hid hW
  have H0 := Lib.hid h0
  have E0 := Lib.hid e0
  have E1 := Lib.hid e1
  have E2 := Lib.hid e2
  have E3 := Lib.hid e3
  have E4 := Lib.hid e4
  have E5 := Lib.hid e5
  clear hW e0 e1 e2 e3 e4 e5 h0 h
  obtain ⟨g0, g1, g2⟩ := geo_cells (H0.out.sys.mem (i := 10) rfl)
  obtain ⟨x0, x1, x2, x3, x4, x5, x6, x7⟩ := ino_cells (H0.out.sys.mem (i := 9) rfl)
  obtain ⟨s0, s1, s2, s3⟩ : stepAt9 _ m _ _ := H0.out.sys.mem (i := 8) rfl
  go_enter Tryz.func19, Tryz.ntmps19
  go_wp2_with fail
  rw [HW.out, ← E0.out, ← E1.out, ← E2.out, ← E3.out, ← E4.out, ← E5.out]
  clear HW E0 E1 E2 E3 E4 E5
  refine (R1.out _ H0.out).mono ?_
  rintro e w1 ⟨rfl, h1⟩
  obtain ⟨w2, hs, h2, -⟩ := h1.put (i := 1) rfl y
  have H2 := Lib.hid (show Pl w w2 b jb tb rb v G L L' (dsR g q m o a c G x ⟨1, pg, bn, l⟩ sv .nought y .nought qs) from h2)
  clear g0 g1 g2 x0 x1 x2 x3 x4 x5 x6 x7 s0 s1 s2 s3 H0 h1 h2
  obtain ⟨g0, g1, g2⟩ := geo_cells (H2.out.sys.mem (i := 10) rfl)
  obtain ⟨x0, x1, x2, x3, x4, x5, x6, x7⟩ := ino_cells (H2.out.sys.mem (i := 9) rfl)
  obtain ⟨s0, s1, s2, s3⟩ : stepAt9 _ m _ _ := H2.out.sys.mem (i := 8) rfl
  go_wp2_with fail
  clear hs
  refine (R2.out _ _ H2.out).mono ?_
  rintro e w3 ⟨rfl, h3⟩
  obtain ⟨w4, hs, h4, -⟩ := h3.put (i := 0) rfl y
  have H4 := Lib.hid (show Pl w w4 b jb tb rb v G L' L' (dsR g q m o a c G x ⟨1, pg, bn, l⟩ sv .nought y y qs) from h4)
  clear g0 g1 g2 x0 x1 x2 x3 x4 x5 x6 x7 s0 s1 s2 s3 H2 h3 h4
  obtain ⟨g0, g1, g2⟩ := geo_cells (H4.out.sys.mem (i := 10) rfl)
  obtain ⟨x0, x1, x2, x3, x4, x5, x6, x7⟩ := ino_cells (H4.out.sys.mem (i := 9) rfl)
  obtain ⟨s0, s1, s2, s3⟩ : stepAt9 _ m _ _ := H4.out.sys.mem (i := 8) rfl
  obtain ⟨a0, a1, a2, a3, a4, a5, a6, a7⟩ := ino_cells (H4.out.sys.mem (i := 6) rfl)
  obtain ⟨c0, c1, c2, c3, c4, c5, c6, c7⟩ := ino_cells (H4.out.sys.mem (i := 5) rfl)
  have hEq := eq_same y
  by_cases hz : E = 0
  · subst hz
    obtain ⟨w9, hs, h9, -⟩ := H4.out.put (i := 2) rfl y
    have H9 := Lib.hid (show Pl w w9 b jb tb rb v G L' L' (dsR g q m o a c G x ⟨1, pg, bn, l⟩ sv y y y qs) from h9)
    clear h9
    go_wp2_with fail
    refine bodyPost_ret (v := .tuple #[y.v, .bool true]) ?_ rfl ⟨y, L', rfl, hyf, (H9.out).done⟩
    exact results_row_tmp (p := 10) (q := 11) rfl _ _ o _ rfl (ino_var ((H9.out).sys.mem (i := 7) rfl))
  · have hne : (E != 0) = true := by simpa using hz
    obtain ⟨w9, hs, h9, -⟩ := H4.out.put (i := 2) rfl x
    have H9 := Lib.hid (show Pl w w9 b jb tb rb v G L' L' (dsR g q m o a c G x ⟨1, pg, bn, l⟩ sv x y y qs) from h9)
    clear h9
    go_wp2_with fail
    refine bodyPost_ret (v := .tuple #[x.v, .bool true]) ?_ rfl ⟨x, L', rfl, hxf, (H9.out).done⟩
    exact results_row_tmp (p := 10) (q := 11) rfl _ _ o _ rfl (ino_var ((H9.out).sys.mem (i := 7) rfl))
set_option maxHeartbeats 4000000 in
set_option maxRecDepth 100000 in
theorem does9_beg (h : Pl w W b jb tb rb v G L L qs) (hG : G.ok) (x : Im) (hxf : x.fits) (pg : Int) (bn : Nat) (hbn : bn < 65536) (l : List Nat) (sv : Value) :
    Calls Tryz.prog 19 #[devp tb, devp rb, gv G, x.v, stepV9 ⟨2, pg, bn, l⟩ sv] W fun e w' => Did w w' b jb tb rb v G qs e := by
  obtain ⟨g, q, m, o, a, c, e0, e1, e2, e3, e4, e5, h0⟩ := h.start x ⟨2, pg, bn, l⟩ sv
  obtain ⟨L', hL'⟩ : ∃ L', L' = bgL G.all (capL 40) G L x bn := ⟨_, rfl⟩
  have R1 := fun V (h : Pl w V b jb tb rb v G L L (dsR g q m o a c G x ⟨2, pg, bn, l⟩ sv .nought .nought .nought qs)) => pl_beg h hG x hxf bn hbn
  rw [← hL'] at R1
  have R2 := fun V xa (h : Pl w V b jb tb rb v G L L' (dsR g q m o a c G x ⟨2, pg, bn, l⟩ sv .nought xa .nought qs)) => pl_rbeg hL' h hG hxf hbn
  have hyf := fun e => bgX_fits hxf hbn e
  generalize bgE G.all (capL 40) G L x bn = E at *
  obtain ⟨y, hy⟩ : ∃ y, y = bgX x bn E := ⟨_, rfl⟩
  rw [← hy] at R1 R2
  have hyf := hyf E
  rw [← hy] at hyf
  clear hL' hy
  have R1 := Lib.hid R1
  have R2 := Lib.hid R2
  generalize hW : doesW W G x ⟨2, pg, bn, l⟩ sv = W0 at *
  unfold doesW at hW
  simp only at hW
  have HW := Lib.hid hW
  have H0 := Lib.hid h0
  have E0 := Lib.hid e0
  have E1 := Lib.hid e1
  have E2 := Lib.hid e2
  have E3 := Lib.hid e3
  have E4 := Lib.hid e4
  have E5 := Lib.hid e5
  clear hW e0 e1 e2 e3 e4 e5 h0 h
  obtain ⟨g0, g1, g2⟩ := geo_cells (H0.out.sys.mem (i := 10) rfl)
  obtain ⟨x0, x1, x2, x3, x4, x5, x6, x7⟩ := ino_cells (H0.out.sys.mem (i := 9) rfl)
  obtain ⟨s0, s1, s2, s3⟩ : stepAt9 _ m _ _ := H0.out.sys.mem (i := 8) rfl
  go_enter Tryz.func19, Tryz.ntmps19
  go_wp2_with fail
  rw [HW.out, ← E0.out, ← E1.out, ← E2.out, ← E3.out, ← E4.out, ← E5.out]
  clear HW E0 E1 E2 E3 E4 E5
  refine (R1.out _ H0.out).mono ?_
  rintro e w1 ⟨rfl, h1⟩
  obtain ⟨w2, hs, h2, -⟩ := h1.put (i := 1) rfl y
  have H2 := Lib.hid (show Pl w w2 b jb tb rb v G L L' (dsR g q m o a c G x ⟨2, pg, bn, l⟩ sv .nought y .nought qs) from h2)
  clear g0 g1 g2 x0 x1 x2 x3 x4 x5 x6 x7 s0 s1 s2 s3 H0 h1 h2
  obtain ⟨g0, g1, g2⟩ := geo_cells (H2.out.sys.mem (i := 10) rfl)
  obtain ⟨x0, x1, x2, x3, x4, x5, x6, x7⟩ := ino_cells (H2.out.sys.mem (i := 9) rfl)
  obtain ⟨s0, s1, s2, s3⟩ : stepAt9 _ m _ _ := H2.out.sys.mem (i := 8) rfl
  go_wp2_with fail
  clear hs
  refine (R2.out _ _ H2.out).mono ?_
  rintro e w3 ⟨rfl, h3⟩
  obtain ⟨w4, hs, h4, -⟩ := h3.put (i := 0) rfl y
  have H4 := Lib.hid (show Pl w w4 b jb tb rb v G L' L' (dsR g q m o a c G x ⟨2, pg, bn, l⟩ sv .nought y y qs) from h4)
  clear g0 g1 g2 x0 x1 x2 x3 x4 x5 x6 x7 s0 s1 s2 s3 H2 h3 h4
  obtain ⟨g0, g1, g2⟩ := geo_cells (H4.out.sys.mem (i := 10) rfl)
  obtain ⟨x0, x1, x2, x3, x4, x5, x6, x7⟩ := ino_cells (H4.out.sys.mem (i := 9) rfl)
  obtain ⟨s0, s1, s2, s3⟩ : stepAt9 _ m _ _ := H4.out.sys.mem (i := 8) rfl
  obtain ⟨a0, a1, a2, a3, a4, a5, a6, a7⟩ := ino_cells (H4.out.sys.mem (i := 6) rfl)
  obtain ⟨c0, c1, c2, c3, c4, c5, c6, c7⟩ := ino_cells (H4.out.sys.mem (i := 5) rfl)
  have hEq := eq_same y
  by_cases hz : E = 0
  · subst hz
    obtain ⟨w9, hs, h9, -⟩ := H4.out.put (i := 2) rfl y
    have H9 := Lib.hid (show Pl w w9 b jb tb rb v G L' L' (dsR g q m o a c G x ⟨2, pg, bn, l⟩ sv y y y qs) from h9)
    clear h9
    go_wp2_with fail
    refine bodyPost_ret (v := .tuple #[y.v, .bool true]) ?_ rfl ⟨y, L', rfl, hyf, (H9.out).done⟩
    exact results_row_tmp (p := 10) (q := 11) rfl _ _ o _ rfl (ino_var ((H9.out).sys.mem (i := 7) rfl))
  · have hne : (E != 0) = true := by simpa using hz
    obtain ⟨w9, hs, h9, -⟩ := H4.out.put (i := 2) rfl x
    have H9 := Lib.hid (show Pl w w9 b jb tb rb v G L' L' (dsR g q m o a c G x ⟨2, pg, bn, l⟩ sv x y y qs) from h9)
    clear h9
    go_wp2_with fail
    refine bodyPost_ret (v := .tuple #[x.v, .bool true]) ?_ rfl ⟨x, L', rfl, hxf, (H9.out).done⟩
    exact results_row_tmp (p := 10) (q := 11) rfl _ _ o _ rfl (ino_var ((H9.out).sys.mem (i := 7) rfl))
set_option maxHeartbeats 4000000 in
set_option maxRecDepth 100000 in
theorem does9_cut (h : Pl w W b jb tb rb v G L L qs) (hG : G.ok) (x : Im) (hxf : x.fits) (pg : Int) (bn : Nat) (hbn : bn < 65536) (l : List Nat) (sv : Value) :
    Calls Tryz.prog 19 #[devp tb, devp rb, gv G, x.v, stepV9 ⟨4, pg, bn, l⟩ sv] W fun e w' => Did w w' b jb tb rb v G qs e := by
  obtain ⟨g, q, m, o, a, c, e0, e1, e2, e3, e4, e5, h0⟩ := h.start x ⟨4, pg, bn, l⟩ sv
  have hFl := ctF_length h x pg
  obtain ⟨L', hL'⟩ : ∃ L', L' = ctL G.all (capL 40) G (dev0 G.all).cur L x pg := ⟨_, rfl⟩
  have R1 := fun V (h : Pl w V b jb tb rb v G L L (dsR g q m o a c G x ⟨4, pg, bn, l⟩ sv .nought .nought .nought qs)) => pl_cut h hG x hxf pg
  rw [← hL'] at R1
  have R2 := fun V s fl d yy (h : Pl w V b jb tb rb v G L L' (inoR d yy :: dsR g q m o a c G x ⟨4, pg, bn, l⟩ sv .nought .nought .nought qs)) hs hfr => pl_rcut (s := s) (fl := fl) hL' h hG hxf hs hfr
  have hyf := fun e => ctX_fits hxf pg e
  generalize ctE G.all (capL 40) G (dev0 G.all).cur L x pg = E at *
  generalize ctF G (dev0 G.all).cur L x pg E = F at *
  obtain ⟨y, hy⟩ : ∃ y, y = ctX x pg E := ⟨_, rfl⟩
  rw [← hy] at R1 R2
  have hyf := hyf E
  rw [← hy] at hyf
  clear hL' hy
  have R1 := Lib.hid R1
  have R2 := Lib.hid R2
  generalize hW : doesW W G x ⟨4, pg, bn, l⟩ sv = W0 at *
  unfold doesW at hW
  simp only at hW
  have HW := Lib.hid hW
  have H0 := Lib.hid h0
  have E0 := Lib.hid e0
  have E1 := Lib.hid e1
  have E2 := Lib.hid e2
  have E3 := Lib.hid e3
  have E4 := Lib.hid e4
  have E5 := Lib.hid e5
  clear hW e0 e1 e2 e3 e4 e5 h0 h
  obtain ⟨g0, g1, g2⟩ := geo_cells (H0.out.sys.mem (i := 10) rfl)
  obtain ⟨x0, x1, x2, x3, x4, x5, x6, x7⟩ := ino_cells (H0.out.sys.mem (i := 9) rfl)
  obtain ⟨s0, s1, s2, s3⟩ : stepAt9 _ m _ _ := H0.out.sys.mem (i := 8) rfl
  go_enter Tryz.func19, Tryz.ntmps19
  go_wp2_with fail
  rw [HW.out, ← E0.out, ← E1.out, ← E2.out, ← E3.out, ← E4.out, ← E5.out]
  clear HW E0 E1 E2 E3 E4 E5
  refine (R1.out _ H0.out).mono ?_
  rintro e w1 ⟨r1, rfl, hu1, hf1, h1⟩
  obtain ⟨w2, hs, h2, hb2⟩ := h1.box y
  have H2 := Lib.hid h2
  have HU2 := Lib.hid (hu1.below9 hb2)
  have HF2 := Lib.hid hf1
  clear g0 g1 g2 x0 x1 x2 x3 x4 x5 x6 x7 s0 s1 s2 s3 H0 h1 h2 hu1 hf1 hb2
  obtain ⟨g0, g1, g2⟩ := geo_cells (H2.out.sys.mem (i := 11) rfl)
  obtain ⟨x0, x1, x2, x3, x4, x5, x6, x7⟩ := ino_cells (H2.out.sys.mem (i := 10) rfl)
  obtain ⟨s0, s1, s2, s3⟩ : stepAt9 _ m _ _ := H2.out.sys.mem (i := 9) rfl
  go_wp2_with fail
  clear hs
  refine (R2.out _ _ _ _ _ H2.out HU2.out HF2.out).mono ?_
  rintro e w3 ⟨r2, rfl, hu3, hv3, h3⟩
  obtain ⟨w4, hs, h4, hb4⟩ := h3.box y
  have H4 := Lib.hid h4
  have HU4 := Lib.hid (hu3.below9 hb4)
  have HV4 := Lib.hid (hv3.below9 hb4)
  clear g0 g1 g2 x0 x1 x2 x3 x4 x5 x6 x7 s0 s1 s2 s3 H2 HU2 HF2 h3 h4 hu3 hv3 hb4
  obtain ⟨g0, g1, g2⟩ := geo_cells (H4.out.sys.mem (i := 12) rfl)
  obtain ⟨x0, x1, x2, x3, x4, x5, x6, x7⟩ := ino_cells (H4.out.sys.mem (i := 11) rfl)
  obtain ⟨s0, s1, s2, s3⟩ : stepAt9 _ m _ _ := H4.out.sys.mem (i := 10) rfl
  have HS4 := Lib.hid (sameNums_any F r1 r2 w4 HV4.out HU4.out hFl)
  go_wp2_with fail
  clear hs
  refine HS4.out.mono ?_
  rintro e w5 ⟨rfl, hb5⟩
  have H5 := Lib.hid (H4.out.below hb5)
  clear g0 g1 g2 x0 x1 x2 x3 x4 x5 x6 x7 s0 s1 s2 s3 H4 HS4 HU4 HV4 hb5
  obtain ⟨g0, g1, g2⟩ := geo_cells (H5.out.sys.mem (i := 12) rfl)
  obtain ⟨x0, x1, x2, x3, x4, x5, x6, x7⟩ := ino_cells (H5.out.sys.mem (i := 11) rfl)
  obtain ⟨s0, s1, s2, s3⟩ : stepAt9 _ m _ _ := H5.out.sys.mem (i := 10) rfl
  obtain ⟨y0, y1, y2, y3, y4, y5, y6, y7⟩ := ino_cells (H5.out.sys.mem (i := 6) rfl)
  obtain ⟨w6, hs, h6, -⟩ := H5.out.put (i := 3) rfl y
  have H6 := Lib.hid h6
  obtain ⟨z0, z1, z2, z3, z4, z5, z6, z7⟩ := ino_cells (H6.out.sys.mem (i := 5) rfl)
  obtain ⟨w7, hs7, h7, -⟩ := H6.out.put (i := 2) rfl y
  have H7 := Lib.hid (show Pl w w7 b jb tb rb v G L' L' (dsR g q m o a c G x ⟨4, pg, bn, l⟩ sv .nought y y qs) from h7.drop.drop)
  clear h6 h7
  clear g0 g1 g2 x0 x1 x2 x3 x4 x5 x6 x7 s0 s1 s2 s3
  obtain ⟨g0, g1, g2⟩ := geo_cells (H7.out.sys.mem (i := 10) rfl)
  obtain ⟨x0, x1, x2, x3, x4, x5, x6, x7⟩ := ino_cells (H7.out.sys.mem (i := 9) rfl)
  obtain ⟨s0, s1, s2, s3⟩ : stepAt9 _ m _ _ := H7.out.sys.mem (i := 8) rfl
  obtain ⟨a0, a1, a2, a3, a4, a5, a6, a7⟩ := ino_cells (H7.out.sys.mem (i := 6) rfl)
  obtain ⟨c0, c1, c2, c3, c4, c5, c6, c7⟩ := ino_cells (H7.out.sys.mem (i := 5) rfl)
  have hEq := eq_same y
  by_cases hz : E = 0
  · subst hz
    obtain ⟨w9, hs, h9, -⟩ := H7.out.put (i := 2) rfl y
    have H9 := Lib.hid (show Pl w w9 b jb tb rb v G L' L' (dsR g q m o a c G x ⟨4, pg, bn, l⟩ sv y y y qs) from h9)
    clear h9
    go_wp2_with fail
    refine bodyPost_ret (v := .tuple #[y.v, .bool true]) ?_ rfl ⟨y, L', rfl, hyf, (H9.out).done⟩
    exact results_row_tmp (p := 10) (q := 11) rfl _ _ o _ rfl (ino_var ((H9.out).sys.mem (i := 7) rfl))
  · have hne : (E != 0) = true := by simpa using hz
    obtain ⟨w9, hs, h9, -⟩ := H7.out.put (i := 2) rfl x
    have H9 := Lib.hid (show Pl w w9 b jb tb rb v G L' L' (dsR g q m o a c G x ⟨4, pg, bn, l⟩ sv x y y qs) from h9)
    clear h9
    go_wp2_with fail
    refine bodyPost_ret (v := .tuple #[x.v, .bool true]) ?_ rfl ⟨x, L', rfl, hxf, (H9.out).done⟩
    exact results_row_tmp (p := 10) (q := 11) rfl _ _ o _ rfl (ino_var ((H9.out).sys.mem (i := 7) rfl))
set_option maxHeartbeats 4000000 in
set_option maxRecDepth 100000 in
theorem does9_all (h : Pl w W b jb tb rb v G L L qs) (hG : G.ok) (x : Im) (hxf : x.fits) (pg : Int) (bn : Nat) (hbn : bn < 65536) (l : List Nat) (sv : Value) :
    Calls Tryz.prog 19 #[devp tb, devp rb, gv G, x.v, stepV9 ⟨3, pg, bn, l⟩ sv] W fun e w' => Did w w' b jb tb rb v G qs e := by
  obtain ⟨g, q, m, o, a, c, e0, e1, e2, e3, e4, e5, h0⟩ := h.start x ⟨3, pg, bn, l⟩ sv
  have hFl := ctF_length h x 0
  have R1 := fun V (h : Pl w V b jb tb rb v G L L (dsR g q m o a c G x ⟨3, pg, bn, l⟩ sv .nought .nought .nought qs)) => pl_all h hG x hxf
  have R2 := fun V s fl (h : Pl w V b jb tb rb v G L L (dsR g q m o a c G x ⟨3, pg, bn, l⟩ sv .nought .nought .nought qs)) hs => pl_rall (s := s) (fl := fl) h hG x hxf hs
  generalize ctE G.all (capL 40) G (dev0 G.all).cur L x 0 = E at *
  generalize ctF G (dev0 G.all).cur L x 0 E = F at *
  have R1 := Lib.hid R1
  have R2 := Lib.hid R2
  generalize hW : doesW W G x ⟨3, pg, bn, l⟩ sv = W0 at *
  unfold doesW at hW
  simp only at hW
  have HW := Lib.hid hW
  have H0 := Lib.hid h0
  have E0 := Lib.hid e0
  have E1 := Lib.hid e1
  have E2 := Lib.hid e2
  have E3 := Lib.hid e3
  have E4 := Lib.hid e4
  have E5 := Lib.hid e5
  clear hW e0 e1 e2 e3 e4 e5 h0 h
  obtain ⟨g0, g1, g2⟩ := geo_cells (H0.out.sys.mem (i := 10) rfl)
  obtain ⟨x0, x1, x2, x3, x4, x5, x6, x7⟩ := ino_cells (H0.out.sys.mem (i := 9) rfl)
  obtain ⟨s0, s1, s2, s3⟩ : stepAt9 _ m _ _ := H0.out.sys.mem (i := 8) rfl
  go_enter Tryz.func19, Tryz.ntmps19
  go_wp2_with fail
  rw [HW.out, ← E0.out, ← E1.out, ← E2.out, ← E3.out, ← E4.out, ← E5.out]
  clear HW E0 E1 E2 E3 E4 E5
  refine (R1.out _ H0.out).mono ?_
  rintro e w1 ⟨r1, rfl, hu1, h1⟩
  have H1 := Lib.hid h1
  have HU1 := Lib.hid hu1
  clear g0 g1 g2 x0 x1 x2 x3 x4 x5 x6 x7 s0 s1 s2 s3 H0 h1 hu1
  obtain ⟨g0, g1, g2⟩ := geo_cells (H1.out.sys.mem (i := 10) rfl)
  obtain ⟨x0, x1, x2, x3, x4, x5, x6, x7⟩ := ino_cells (H1.out.sys.mem (i := 9) rfl)
  obtain ⟨s0, s1, s2, s3⟩ : stepAt9 _ m _ _ := H1.out.sys.mem (i := 8) rfl
  go_wp2_with fail
  refine (R2.out _ _ _ H1.out HU1.out).mono ?_
  rintro e w2 ⟨r2, rfl, hu2, hv2, h2⟩
  have hb0 := (Below.refl w2.heap.size w2).drew
  have HC := Lib.hid (h2.below hb0)
  have HS := Lib.hid (sameNums_any F r1 r2 w2.drew (hv2.below9 hb0) (hu2.below9 hb0) hFl)
  have KK := Lib.hid fun V xo (h : Pl w V b jb tb rb v G L L (dsR g q m o a c G x ⟨3, pg, bn, l⟩ sv xo .nought .nought qs)) => ino_cells (h.sys.mem (i := 9) rfl)
  clear g0 g1 g2 x0 x1 x2 x3 x4 x5 x6 x7 s0 s1 s2 s3 H1 HU1 h2 hu2 hv2 hb0
  obtain ⟨g0, g1, g2⟩ := geo_cells (HC.out.sys.mem (i := 10) rfl)
  obtain ⟨x0, x1, x2, x3, x4, x5, x6, x7⟩ := ino_cells (HC.out.sys.mem (i := 9) rfl)
  obtain ⟨s0, s1, s2, s3⟩ : stepAt9 _ m _ _ := HC.out.sys.mem (i := 8) rfl
  go_wp2_with fail
  go_region_held3 (fun W' => W'.cell? ⟨q, 0, none⟩ = some (.int .u8 x.k) ∧ W'.cell? ⟨q, 1, none⟩ = some (w16 x.n) ∧ W'.cell? ⟨q, 2, none⟩ = some (.int .u32 x.z) ∧ W'.cell? ⟨q, 3, none⟩ = some (w16 x.d0) ∧ W'.cell? ⟨q, 4, none⟩ = some (w16 x.d1) ∧ W'.cell? ⟨q, 5, none⟩ = some (w16 x.d2) ∧ W'.cell? ⟨q, 6, none⟩ = some (w16 x.d3) ∧ W'.cell? ⟨q, 7, none⟩ = some (w16 x.i))
    (first | with_reducible exact ⟨x0, x1, x2, x3, x4, x5, x6, x7⟩ | with_reducible exact KK.out _ _ HC.out | with_reducible exact KK.out _ _ H6.out)
    (first | (go_at_call 24; ((with_reducible refine HS.out.mono ?_); rintro e w5 ⟨rfl, hb⟩; have HC := Lib.hid (HC.out.below hb); obtain ⟨x0, x1, x2, x3, x4, x5, x6, x7⟩ := KK.out _ _ HC.out; obtain ⟨w6, hs, h6, -⟩ := HC.out.put (i := 2) rfl x; have H6 := Lib.hid (show Pl w w6 b jb tb rb v G L L (dsR g q m o a c G x ⟨3, pg, bn, l⟩ sv x .nought .nought qs) from h6); clear hb h6)))
  all_goals
    go_wp2_with fail
    refine bodyPost_ret (v := .tuple #[x.v, .bool true]) ?_ rfl ⟨x, L, rfl, hxf, (H6.out).done⟩
    exact results_row_tmp (p := 10) (q := 11) rfl _ _ o _ rfl (ino_var ((H6.out).sys.mem (i := 7) rfl))
set_option maxHeartbeats 4000000 in
set_option maxRecDepth 100000 in
theorem does9_wr (h : Pl w W b jb tb rb v G L L qs) (hG : G.ok) (x : Im) (hxf : x.fits) (pg : Int) (bn : Nat) (hbn : bn < 65536) (l : List Nat) (sv : Value) (dv : Int) (hd0 : dv ≠ 0) (hd1 : dv ≠ 1) (hd2 : dv ≠ 2) (hd3 : dv ≠ 3) (hd4 : dv ≠ 4) (hsv : U16s w sv l) (hlt : ∀ y ∈ l, y < 65536) (hll : l.length ≤ 140737488351232) :
    Calls Tryz.prog 19 #[devp tb, devp rb, gv G, x.v, stepV9 ⟨dv, pg, bn, l⟩ sv] W fun e w' => Did w w' b jb tb rb v G qs e := by
  obtain ⟨g, q, m, o, a, c, e0, e1, e2, e3, e4, e5, h0⟩ := h.start x ⟨dv, pg, bn, l⟩ sv
  have q0 : (dv == 0) = false := by simpa using hd0
  have q1 : (dv == 1) = false := by simpa using hd1
  have q2 : (dv == 2) = false := by simpa using hd2
  have q3 : (dv == 3) = false := by simpa using hd3
  have q4 : (dv == 4) = false := by simpa using hd4
  clear hd0 hd1 hd2 hd3 hd4
  have HT := Lib.hid fun V (hV : Below w.heap.size w V) => told9_any l sv V (hsv.below9 hV) hlt hll
  have hsl := toldS_length l
  clear hsv hlt hll
  generalize toldS l = T at *
  obtain ⟨K, F, hB⟩ : ∃ (K : Int) (F : Int), (F = 0 ∨ F = 2) ∧ ∀ V, Calls Tryz.prog 40 #[gv G, w16 bn] V fun e w' => e = .returned (.tuple #[.int .i64 K, .int .i64 F]) ∧ Below V.heap.size V w' := by
    by_cases hk : 1 ≤ bn ∧ bn ≤ G.b
    · exact ⟨_, _, .inl rfl, fun V => block_ok G (bn - 1) (bn : Int) (by omega) V hG (by omega)⟩
    · exact ⟨_, _, .inr rfl, fun V => block_bad G.i G.b G.j (bn : Int) V (.inr (by omega)) (by omega) (by omega)⟩
  obtain ⟨hF, hB⟩ := hB
  have HB := Lib.hid hB
  clear hB
  obtain ⟨L', hL'⟩ : ∃ L', L' = wrL G.all (capL 40) L K T := ⟨_, rfl⟩
  have R1 := fun V (h : Pl w V b jb tb rb v G L L (dsR g q m o a c G x ⟨dv, pg, bn, l⟩ sv .nought .nought .nought qs)) => pl_write h K T (by omega)
  rw [← hL'] at R1
  have R2 := fun V (h : Pl w V b jb tb rb v G L L' (dsR g q m o a c G x ⟨dv, pg, bn, l⟩ sv .nought .nought .nought qs)) => pl_rwrite hL' h (by omega)
  generalize wrE G.all (capL 40) L K T = E at *
  have R1 := Lib.hid R1
  have R2 := Lib.hid R2
  clear hL' hsl
  generalize hW : doesW W G x ⟨dv, pg, bn, l⟩ sv = W0 at *
  unfold doesW at hW
  simp only at hW
  have HW := Lib.hid hW
  have H0 := Lib.hid h0
  have E0 := Lib.hid e0
  have E1 := Lib.hid e1
  have E2 := Lib.hid e2
  have E3 := Lib.hid e3
  have E4 := Lib.hid e4
  have E5 := Lib.hid e5
  clear hW e0 e1 e2 e3 e4 e5 h0 h
  obtain ⟨g0, g1, g2⟩ := geo_cells (H0.out.sys.mem (i := 10) rfl)
  obtain ⟨x0, x1, x2, x3, x4, x5, x6, x7⟩ := ino_cells (H0.out.sys.mem (i := 9) rfl)
  obtain ⟨s0, s1, s2, s3⟩ : stepAt9 _ m _ _ := H0.out.sys.mem (i := 8) rfl
  go_enter Tryz.func19, Tryz.ntmps19
  go_wp2_with fail
  rw [HW.out, ← E0.out, ← E1.out, ← E2.out, ← E3.out, ← E4.out, ← E5.out]
  clear HW E0 E1 E2 E3 E4 E5
  refine (HB.out _).mono ?_
  rintro e w1 ⟨rfl, hb⟩
  have H1 := Lib.hid (H0.out.below hb)
  clear g0 g1 g2 x0 x1 x2 x3 x4 x5 x6 x7 s0 s1 s2 s3 H0 hb
  obtain ⟨g0, g1, g2⟩ := geo_cells (H1.out.sys.mem (i := 10) rfl)
  obtain ⟨x0, x1, x2, x3, x4, x5, x6, x7⟩ := ino_cells (H1.out.sys.mem (i := 9) rfl)
  obtain ⟨s0, s1, s2, s3⟩ : stepAt9 _ m _ _ := H1.out.sys.mem (i := 8) rfl
  rcases hF with rfl | rfl
  · have hb0 := (Below.refl w1.heap.size w1).drew
    have HC := Lib.hid (H1.out.below hb0)
    clear g0 g1 g2 x0 x1 x2 x3 x4 x5 x6 x7 s0 s1 s2 s3 H1 hb0
    obtain ⟨g0, g1, g2⟩ := geo_cells (HC.out.sys.mem (i := 10) rfl)
    obtain ⟨x0, x1, x2, x3, x4, x5, x6, x7⟩ := ino_cells (HC.out.sys.mem (i := 9) rfl)
    obtain ⟨s0, s1, s2, s3⟩ : stepAt9 _ m _ _ := HC.out.sys.mem (i := 8) rfl
    have KK := Lib.hid fun V L1 L2 xo (h : Pl w V b jb tb rb v G L1 L2 (dsR g q m o a c G x ⟨dv, pg, bn, l⟩ sv xo .nought .nought qs)) => (show V.cell? ⟨m, 3, none⟩ = some sv ∧ V.cell? ⟨q, 0, none⟩ = some (.int .u8 x.k) ∧ V.cell? ⟨q, 1, none⟩ = some (w16 x.n) ∧ V.cell? ⟨q, 2, none⟩ = some (.int .u32 x.z) ∧ V.cell? ⟨q, 3, none⟩ = some (w16 x.d0) ∧ V.cell? ⟨q, 4, none⟩ = some (w16 x.d1) ∧ V.cell? ⟨q, 5, none⟩ = some (w16 x.d2) ∧ V.cell? ⟨q, 6, none⟩ = some (w16 x.d3) ∧ V.cell? ⟨q, 7, none⟩ = some (w16 x.i) from ⟨(show stepAt9 V m _ sv from h.sys.mem (i := 8) rfl).2.2.2, ino_cells (h.sys.mem (i := 9) rfl)⟩)
    go_wp2_with fail
    go_region_held3 (fun W' => W'.cell? ⟨m, 3, none⟩ = some sv ∧ W'.cell? ⟨q, 0, none⟩ = some (.int .u8 x.k) ∧ W'.cell? ⟨q, 1, none⟩ = some (w16 x.n) ∧ W'.cell? ⟨q, 2, none⟩ = some (.int .u32 x.z) ∧ W'.cell? ⟨q, 3, none⟩ = some (w16 x.d0) ∧ W'.cell? ⟨q, 4, none⟩ = some (w16 x.d1) ∧ W'.cell? ⟨q, 5, none⟩ = some (w16 x.d2) ∧ W'.cell? ⟨q, 6, none⟩ = some (w16 x.d3) ∧ W'.cell? ⟨q, 7, none⟩ = some (w16 x.i))
      (first | with_reducible exact ⟨s3, x0, x1, x2, x3, x4, x5, x6, x7⟩ | with_reducible exact KK.out _ _ _ _ HC.out | with_reducible exact KK.out _ _ _ _ H6.out)
      (first | (go_at_call 42; ((with_reducible refine (HT.out _ HC.out.all).mono ?_); rintro e w4 ⟨rfl, hb⟩; have HC := Lib.hid (HC.out.below hb); obtain ⟨s3, x0, x1, x2, x3, x4, x5, x6, x7⟩ := KK.out _ _ _ _ HC.out; clear hb))
             | (go_at_call 41; ((with_reducible refine (R1.out _ HC.out).mono ?_); rintro e w4 ⟨rfl, hb⟩; have HC := Lib.hid hb; obtain ⟨s3, x0, x1, x2, x3, x4, x5, x6, x7⟩ := KK.out _ _ _ _ HC.out; clear hb))
             | (go_at_call 43; ((with_reducible refine (R2.out _ HC.out).mono ?_); rintro e w4 ⟨rfl, hb⟩; have HC := Lib.hid hb; obtain ⟨s3, x0, x1, x2, x3, x4, x5, x6, x7⟩ := KK.out _ _ _ _ HC.out; obtain ⟨w6, hs, h6, -⟩ := HC.out.put (i := 2) rfl x; have H6 := Lib.hid (show Pl w w6 b jb tb rb v G L' L' (dsR g q m o a c G x ⟨dv, pg, bn, l⟩ sv x .nought .nought qs) from h6); clear hb h6)))
    all_goals
      go_wp2_with fail
      refine bodyPost_ret (v := .tuple #[x.v, .bool true]) ?_ rfl ⟨x, L', rfl, hxf, (H6.out).done⟩
      exact results_row_tmp (p := 10) (q := 11) rfl _ _ o _ rfl (ino_var ((H6.out).sys.mem (i := 7) rfl))
  · obtain ⟨w6, hs, h6, -⟩ := H1.out.put (i := 2) rfl x
    have H6 := Lib.hid (show Pl w w6 b jb tb rb v G L L (dsR g q m o a c G x ⟨dv, pg, bn, l⟩ sv x .nought .nought qs) from h6)
    clear h6
    go_wp2_with fail
    refine bodyPost_ret (v := .tuple #[x.v, .bool true]) ?_ rfl ⟨x, L, rfl, hxf, (H6.out).done⟩
    exact results_row_tmp (p := 10) (q := 11) rfl _ _ o _ rfl (ino_var ((H6.out).sys.mem (i := 7) rfl))
end
end Go.Proofs.YtdddennhdbmolaaGreat
