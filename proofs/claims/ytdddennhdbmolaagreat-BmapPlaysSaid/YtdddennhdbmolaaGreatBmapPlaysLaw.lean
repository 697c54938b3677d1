/- Layer 9 (bmap): BmapPlays. Written by tools/genbmapplays.py. -/
import Derived.Test.YtdddennhdbmolaaGreatBmapPl5
import Derived.Deep.CutRange
namespace Go.Proofs.YtdddennhdbmolaaGreat
open Go.RowKit Go.Maps Go.Lib
set_option linter.unusedVariables false
set_option linter.unusedSimpArgs false
set_option maxRecDepth 10000
theorem bsteps_below {w W : World} {v : Value} {l : List BSt} (h : BSteps w v l) (hb : Below w.heap.size w W) : BSteps W v l := by
  obtain ⟨A, c, rfl, hc⟩ := h
  refine ⟨A, c, rfl, fun i x hi => ?_⟩
  obtain ⟨a, sv, rfl, x0, x1, x2, x3, x4⟩ := hc i x hi
  exact ⟨a, sv, rfl, (hb.cell (World.block_lt_of_cell? w _ x0)).trans x0, (hb.cell (World.block_lt_of_cell? w _ x1)).trans x1, (hb.cell (World.block_lt_of_cell? w _ x2)).trans x2, (hb.cell (World.block_lt_of_cell? w _ x3)).trans x3, x4.below9 hb⟩
theorem does9_any {w W : World} {b jb tb rb : Nat} {v : Value} {G : Gm} {L : PutL} {qs : List Res} (h : Pl w W b jb tb rb v G L L qs) (hG : G.ok) (x : Im) (hxf : x.fits) (s : BSt) (sv : Value) (hf : fineB s) (hsv : U16s w sv s.l) :
    Calls Tryz.prog 19 #[devp tb, devp rb, gv G, x.v, stepV9 s sv] W fun e w' => Did w w' b jb tb rb v G qs e := by
  obtain ⟨dv, pg, bn, l⟩ := s
  obtain ⟨hbn, hlt, hll⟩ := hf
  by_cases h0 : dv = 0
  · subst h0; exact does9_get h hG x hxf pg bn hbn l sv
  by_cases h1 : dv = 1
  · subst h1; exact does9_set h hG x hxf pg bn hbn l sv
  by_cases h2 : dv = 2
  · subst h2; exact does9_beg h hG x hxf pg bn hbn l sv
  by_cases h3 : dv = 3
  · subst h3; exact does9_all h hG x hxf pg bn hbn l sv
  by_cases h4 : dv = 4
  · subst h4; exact does9_cut h hG x hxf pg bn hbn l sv
  exact does9_wr h hG x hxf pg bn hbn l sv dv h0 h1 h2 h3 h4 hsv hlt hll
/-- Both sides, as they begin. -/
theorem Pl.begin9 {w W : World} {g q b jb tb rb : Nat} {i j k : Int} {x : Im} {v : Value} {G : Gm} (hG : G.ok) (hj : G.j = 40) (h : Sys w W ([geoR g i j k, inoR q x] ++ madeR b jb tb G ++ [txtR v (secs G.all (dev0 G.all).cur)] ++ [refR rb v [] 37])) : Pl w W b jb tb rb v G [] [] [geoR g i j k, inoR q x] := by
  have hs : Sys w W (plR b jb tb rb G.all v [] [] [geoR g i j k, inoR q x]) := by
    refine h.pick9 [2, 3, 4, 5, 6, 0, 1] (by decide) _ rfl fun n hn => ?_
    have e37 : capL 40 = 37 := by decide
    unfold madeR
    rw [hj]
    match n, hn with
    | 0, _ => rfl
    | 1, _ => rfl
    | 2, _ => rfl
    | 3, _ => rfl
    | 4, _ => rfl
    | 5, _ => rfl
    | 6, _ => rfl
  exact ⟨⟨hs, rfl, rfl, rfl, by decide, by decide, by decide, rfl, Nat.zero_le _, by decide, by decide, WrOk.nil _ _⟩, ⟨hs, rfl, rfl, by decide, (Gm.made hG).2.1, by decide, WrOk.nil _ _, fun n hn => List.length_replicate⟩, by decide, by decide, by decide, by decide⟩
set_option maxHeartbeats 40000000 in
set_option maxRecDepth 100000 in
theorem plays9_any (w : World) (i b0 j : Int) (x : Im) (hxf : x.fits) (v : Value) (l : List BSt) (hv : BSteps w v l) (hs : ∀ x ∈ l, fineB x) (hn : l.length ≤ maxLen) :
    Calls Tryz.prog 3 #[geoV i b0 j, x.v, v] w fun e w' => e = .returned (.bool true) ∧ Below w.heap.size w w' := by
  have h0 := ((Sys.start w).geo i b0 j).ino x
  have e0 : (w.alloc (.cells #[.int .i64 i, .int .i64 b0, .int .i64 j] 23)).heap.size = w.heap.size + 1 := by simp
  rw [e0] at h0
  clear e0
  generalize hW : ((w.alloc (.cells #[.int .i64 i, .int .i64 b0, .int .i64 j] 23)).alloc (.cells #[.int .u8 x.k, w16 x.n, .int .u32 x.z, w16 x.d0, w16 x.d1, w16 x.d2, w16 x.d3, w16 x.i] 28)) = W0 at *
  obtain ⟨g, hg⟩ : ∃ g, g = w.heap.size := ⟨_, rfl⟩
  rw [← hg] at h0
  obtain ⟨q, hq⟩ : ∃ q, q = g + 1 := ⟨_, rfl⟩
  rw [← hq] at h0
  have h00 : Sys w W0 [geoR g i b0 j, inoR q x] := h0
  clear h0
  have h0 := h00
  clear h00
  have HLong := Lib.hid (long9_any v l W0 (bsteps_below hv h0.all) hs hn)
  obtain ⟨A, cp, rfl, hc⟩ := hv
  have HC := Lib.hid hc
  have HS := Lib.hid hs
  have HAl := Lib.hid (fun V => alive9_any V)
  have H0 := Lib.hid h0
  have HW := Lib.hid hW
  have HGe := Lib.hid hg
  have HQe := Lib.hid hq
  clear hc hs h0 hW hg hq
  unfold maxLen at hn
  obtain ⟨g0, g1, g2⟩ := geo_cells (H0.out.mem (i := 0) rfl)
  have hmay : ∃ pm : Bool, (pm = true ↔ mayI i b0 j) ∧ ∀ V, Calls Tryz.prog 8 #[geoV i b0 j] V fun e w' => e = .returned (.bool pm) ∧ Below V.heap.size V w' := by
    by_cases hm : mayI i b0 j
    · exact ⟨true, by simp [hm], fun V => may_ok i b0 j V hm⟩
    · exact ⟨false, by simp [hm], fun V => may_bad i b0 j V hm⟩
  obtain ⟨pm, hpm, hM⟩ := hmay
  have HM := Lib.hid hM
  have HPm := Lib.hid hpm
  clear hM hpm
  go_enter Tryz.func3, Tryz.ntmps3
  go_upto_region 1 with fail
  rw [HW.out, ← HGe.out, ← HQe.out]
  clear HW HGe HQe
  go_cut [46] from 27 to 46 (fun s wx => Sys w wx [geoR g i b0 j, inoR q x] ∧ ∃ r : Bool, s = .bool r ∧ (r = false → pm = true → b0 ≤ 60 ∧ j = 40))
  case first =>
    go_wp2_with fail
    refine HLong.out.mono ?_
    rintro e w1 ⟨⟨r, rfl, hr⟩, rfl⟩
    clear HLong hr
    cases r
    case true =>
      go_wp2_with fail
      go_meet
      exact ⟨H0.out, _, rfl, fun h => by cases h⟩
    by_cases hb60 : 60 < b0
    · have d1 : decide (60 < b0) = true := decide_eq_true hb60
      cases pm
      case false =>
        by_cases hj40 : j = 40
        · have d2 : (j != 40) = false := by simpa using hj40
          clear hb60 hj40
          go_wp2_with fail
          refine (HM.out _).mono ?_
          rintro e w2 ⟨rfl, hb⟩
          have H2 := Lib.hid (H0.out.below hb)
          obtain ⟨g0, g1, g2⟩ := geo_cells (H2.out.mem (i := 0) rfl)
          clear hb
          go_wp2_with fail
          go_meet
          exact ⟨H2.out, _, rfl, fun _ h => by cases h⟩
        · have d2 : (j != 40) = true := by simpa using hj40
          clear hb60 hj40
          go_wp2_with fail
          refine (HM.out _).mono ?_
          rintro e w2 ⟨rfl, hb⟩
          have H2 := Lib.hid (H0.out.below hb)
          obtain ⟨g0, g1, g2⟩ := geo_cells (H2.out.mem (i := 0) rfl)
          clear hb
          go_wp2_with fail
          refine (HM.out _).mono ?_
          rintro e w3 ⟨rfl, hb⟩
          have H3 := Lib.hid (H2.out.below hb)
          clear hb
          go_wp2_with fail
          go_meet
          exact ⟨H3.out, _, rfl, fun _ h => by cases h⟩
      case true =>
        clear hb60
        go_wp2_with fail
        refine (HM.out _).mono ?_
        rintro e w2 ⟨rfl, hb⟩
        have H2 := Lib.hid (H0.out.below hb)
        clear hb
        go_wp2_with fail
        go_meet
        exact ⟨H2.out, _, rfl, fun h => by cases h⟩
    · have d1 : decide (60 < b0) = false := decide_eq_false hb60
      by_cases hj40 : j = 40
      · have d2 : (j != 40) = false := by simpa using hj40
        have HE := Lib.hid (⟨by omega, hj40⟩ : b0 ≤ 60 ∧ j = 40)
        clear hb60 hj40
        go_wp2_with fail
        go_meet
        exact ⟨H0.out, _, rfl, fun _ _ => HE.out⟩
      · have d2 : (j != 40) = true := by simpa using hj40
        clear hb60 hj40
        go_wp2_with fail
        refine (HM.out _).mono ?_
        rintro e w2 ⟨rfl, hb⟩
        have H2 := Lib.hid (H0.out.below hb)
        clear hb
        go_wp2_with fail
        go_meet
        exact ⟨H2.out, _, rfl, fun h1 h2 => by rw [h1] at h2; cases h2⟩
  case rest =>
    obtain ⟨hS, r, rfl, hr⟩ := hcut
    have H1 := Lib.hid hS
    clear hS H0 g0 g1 g2
    cases r
    case true =>
      go_wp2_with fail
      refine (HAl.out _).mono ?_
      rintro e w9 ⟨rfl, hb⟩
      have HB := Lib.hid (H1.out.all.trans (hb.mono H1.out.all.size))
      clear hb
      go_wp2_with fail
      go_ret
      exact ⟨rfl, HB.out⟩
    have HR := Lib.hid (hr rfl)
    clear hr
    obtain ⟨g0, g1, g2⟩ := geo_cells (H1.out.mem (i := 0) rfl)
    obtain ⟨i0, i1, i2, i3, i4, i5, i6, i7⟩ := ino_cells (H1.out.mem (i := 1) rfl)
    have N1 := Lib.hid fun V => set_no none i b0 j x 0 0 1 (by decide) V fun V g _ => bref_nil _ _ _ _ _ _ _
    have N2 := Lib.hid fun V => begin_no none i b0 j x 1 1 (by decide) V fun V g _ => bref_nil _ _ _ _ _ _ _
    have N4 := Lib.hid fun V => cut_no none i b0 j x 0 1 (by decide) V fun V => bref_nil _ _ _ _ _ _ _
    have N3 := Lib.hid fun V => all_of none i b0 j x Im.nought [] 1 V fun V' _ => (cut_no none i b0 j x 0 1 (by decide) V' fun V => bref_nil _ _ _ _ _ _ _).mono fun e w' hx => ⟨_, hx.1, u16s_nil _, hx.2⟩
    go_wp2_with fail
    refine (N1.out _).mono ?_
    rintro e w2 ⟨rfl, hb⟩
    have H2 := Lib.hid (show Sys w _ [geoR g i b0 j, inoR q x, inoR w2.heap.size Im.nought] from (H1.out.below hb).ino Im.nought)
    clear g0 g1 g2 i0 i1 i2 i3 i4 i5 i6 i7
    obtain ⟨g0, g1, g2⟩ := geo_cells (H2.out.mem (i := 0) rfl)
    obtain ⟨i0, i1, i2, i3, i4, i5, i6, i7⟩ := ino_cells (H2.out.mem (i := 1) rfl)
    clear hb H1
    go_wp2_with fail
    refine (N2.out _).mono ?_
    rintro e w3 ⟨rfl, hb⟩
    have H3 := Lib.hid (show Sys w _ [geoR g i b0 j, inoR q x, inoR w3.heap.size Im.nought] from ((H2.out.below hb).take 2).ino Im.nought)
    clear g0 g1 g2 i0 i1 i2 i3 i4 i5 i6 i7
    obtain ⟨g0, g1, g2⟩ := geo_cells (H3.out.mem (i := 0) rfl)
    obtain ⟨i0, i1, i2, i3, i4, i5, i6, i7⟩ := ino_cells (H3.out.mem (i := 1) rfl)
    clear hb H2
    go_wp2_with fail
    refine (N3.out _).mono ?_
    rintro e w4 ⟨nv, rfl, -, hb⟩
    have H4 := Lib.hid (show Sys w w4 [geoR g i b0 j, inoR q x] from (H3.out.below hb).take 2)
    clear g0 g1 g2 i0 i1 i2 i3 i4 i5 i6 i7
    obtain ⟨g0, g1, g2⟩ := geo_cells (H4.out.mem (i := 0) rfl)
    obtain ⟨i0, i1, i2, i3, i4, i5, i6, i7⟩ := ino_cells (H4.out.mem (i := 1) rfl)
    clear hb H3
    go_wp2_with fail
    refine (N4.out _).mono ?_
    rintro e w5 ⟨rfl, hb⟩
    have H5 := Lib.hid (show Sys w _ [geoR g i b0 j, inoR q x] from ((H4.out.below hb).ino Im.nought).take 2)
    clear g0 g1 g2 i0 i1 i2 i3 i4 i5 i6 i7
    obtain ⟨g0, g1, g2⟩ := geo_cells (H5.out.mem (i := 0) rfl)
    clear hb H4 N1 N2 N3 N4
    go_wp2_with fail
    cases pm
    case false =>
      have hm : ¬ mayI i b0 j := fun h => by have := HPm.out.2 h; cases this
      have HX := Lib.hid fun V tb => get_no (some ⟨tb, 0, none⟩) i b0 j x 0 2 (by decide) V fun V' => ref_bad hm tb x hxf _ V'
      have HSm := Lib.hid fun V => small_any V
      refine (made9_bad hm _).mono ?_
      rintro e w6 ⟨rfl, hb⟩
      have H6 := Lib.hid (show Sys w w6 [geoR g i b0 j, inoR q x] from H5.out.below hb)
      obtain ⟨g0, g1, g2⟩ := geo_cells (H6.out.mem (i := 0) rfl)
      clear hb H5
      go_wp2_with fail
      refine (HM.out _).mono ?_
      rintro e w7 ⟨rfl, hb⟩
      have H7 := Lib.hid (H6.out.below hb)
      clear hb H6 g0 g1 g2
      go_wp2_with fail
      refine (HSm.out _).mono ?_
      rintro e w8 ⟨rfl, hb⟩
      have H8 := Lib.hid (show Sys w _ [geoR g i b0 j, inoR q x, geoR w8.heap.size 8 16 40] from (H7.out.below hb).geo 8 16 40)
      obtain ⟨s0, s1, s2⟩ := geo_cells (H8.out.mem (i := 2) rfl)
      have HMd := Lib.hid (sys_made9 H8.out smallG smallG_ok)
      clear hb H7
      go_wp2_with fail
      refine HMd.out.mono ?_
      rintro e w9 ⟨b, jb, tb, rfl, h9⟩
      have H9 := Lib.hid (h9.take 2)
      obtain ⟨g0, g1, g2⟩ := geo_cells (H9.out.mem (i := 0) rfl)
      obtain ⟨i0, i1, i2, i3, i4, i5, i6, i7⟩ := ino_cells (H9.out.mem (i := 1) rfl)
      clear h9 H8 HMd s0 s1 s2
      go_wp2_with fail
      refine (HX.out _ _).mono ?_
      rintro e w10 ⟨rfl, hb⟩
      have H10 := Lib.hid (H9.out.below hb)
      clear hb H9 g0 g1 g2 i0 i1 i2 i3 i4 i5 i6 i7
      go_wp2_with fail
      refine (HAl.out _).mono ?_
      rintro e w9 ⟨rfl, hb⟩
      have HB := Lib.hid (H10.out.all.trans (hb.mono H10.out.all.size))
      clear hb
      go_wp2_with fail
      go_ret
      exact ⟨rfl, HB.out⟩
    case true =>
      obtain ⟨G, hG, rfl, rfl, rfl⟩ := mayI_gm (HPm.out.1 rfl)
      have HG40 := Lib.hid (show G.j = 40 by have := (HR.out rfl).2; omega)
      have HSec := Lib.hid fun V => sectors_ok G V hG
      have HG := Lib.hid hG
      refine (sys_made9 H5.out G hG).mono ?_
      rintro e w6 ⟨b, jb, tb, rfl, h6⟩
      have H6 := Lib.hid h6
      obtain ⟨g0, g1, g2⟩ := geo_cells (H6.out.mem (i := 0) rfl)
      clear h6 H5
      go_wp2_with fail
      refine (HM.out _).mono ?_
      rintro e w7 ⟨rfl, hb⟩
      have H7 := Lib.hid (H6.out.below hb)
      obtain ⟨g0, g1, g2⟩ := geo_cells (H7.out.mem (i := 0) rfl)
      clear hb H6
      go_wp2_with fail
      refine (HSec.out _).mono ?_
      rintro e w8 ⟨rfl, hb⟩
      have H8 := Lib.hid (H7.out.below hb)
      clear hb H7 g0 g1 g2
      go_wp2_with fail
      refine (blank9_any H8.out G.all (Gm.made hG).2.1).mono ?_
      rintro e w9 ⟨rb, vt, rfl, h9⟩
      have H9 := Lib.hid (Pl.begin9 hG HG40.out h9)
      clear h9 H8 hG HG40 HM HSec HPm HR
      go_wp2_with fail
      go_loopw [24] (fun i wr => ∃ (k : Nat) (x : Im) (L : PutL), k ≤ l.length ∧ i = .int .i64 k ∧ x.fits ∧ Pl w wr b jb tb rb vt G L L [geoR g G.i G.b G.j, inoR q x]) (fun i _ => l.length - (Go.RowKit.intOf i).toNat)
      case atStart => exact ⟨0, x, [], Nat.zero_le _, rfl, hxf, H9.out⟩
      case round =>
        clear H9 hxf
        obtain ⟨k, x, L, hk, rfl, hxf, hF⟩ := hrel
        have HF := Lib.hid hF
        clear hF
        by_cases hlt : k < l.length
        · obtain ⟨aa, sv, rfl, x0, x1, x2, x3, x4⟩ := HC.out k _ (List.getElem?_eq_getElem hlt)
          have hfine := HS.out l[k] (List.getElem_mem _)
          unfold behind at x1 x2 x3
          generalize l[k] = s at *
          have hkI : (k : Int) < (l.length : Int) := by omega
          have kk : ∀ V L qs, Pl w V b jb tb rb vt G L L (geoR g G.i G.b G.j :: inoR q x :: qs) → V.cell? ⟨g, 0, none⟩ = some (.int .i64 (G.i : Int)) ∧ V.cell? ⟨g, 1, none⟩ = some (.int .i64 (G.b : Int)) ∧ V.cell? ⟨g, 2, none⟩ = some (.int .i64 (G.j : Int)) ∧ V.cell? ⟨q, 0, none⟩ = some (.int .u8 x.k) ∧ V.cell? ⟨q, 1, none⟩ = some (w16 x.n) ∧ V.cell? ⟨q, 2, none⟩ = some (.int .u32 x.z) ∧ V.cell? ⟨q, 3, none⟩ = some (w16 x.d0) ∧ V.cell? ⟨q, 4, none⟩ = some (w16 x.d1) ∧ V.cell? ⟨q, 5, none⟩ = some (w16 x.d2) ∧ V.cell? ⟨q, 6, none⟩ = some (w16 x.d3) ∧ V.cell? ⟨q, 7, none⟩ = some (w16 x.i) ∧ V.cell? (aa.add (k * 4)) = some (.int .i64 s.do_) ∧ V.cell? ⟨(aa.add (k * 4)).block, (aa.add (k * 4)).off + 1, none⟩ = some (.int .i64 s.page) ∧ V.cell? ⟨(aa.add (k * 4)).block, (aa.add (k * 4)).off + 2, none⟩ = some (w16 s.b) ∧ V.cell? ⟨(aa.add (k * 4)).block, (aa.add (k * 4)).off + 3, none⟩ = some (sv) := fun V L qs h => by
            obtain ⟨g0, g1, g2⟩ := geo_cells (h.sys.mem (i := 5) rfl)
            obtain ⟨i0, i1, i2, i3, i4, i5, i6, i7⟩ := ino_cells (h.sys.mem (i := 6) rfl)
            exact ⟨g0, g1, g2, i0, i1, i2, i3, i4, i5, i6, i7, (h.sys.all.cell (World.block_lt_of_cell? w _ x0)).trans x0, (h.sys.all.cell (World.block_lt_of_cell? w _ x1)).trans x1, (h.sys.all.cell (World.block_lt_of_cell? w _ x2)).trans x2, (h.sys.all.cell (World.block_lt_of_cell? w _ x3)).trans x3⟩
          have kd : ∀ V L qs, Pl w V b jb tb rb vt G L L (geoR g G.i G.b G.j :: inoR q x :: qs) → V.drew.cell? ⟨g, 0, none⟩ = some (.int .i64 (G.i : Int)) ∧ V.drew.cell? ⟨g, 1, none⟩ = some (.int .i64 (G.b : Int)) ∧ V.drew.cell? ⟨g, 2, none⟩ = some (.int .i64 (G.j : Int)) ∧ V.drew.cell? ⟨q, 0, none⟩ = some (.int .u8 x.k) ∧ V.drew.cell? ⟨q, 1, none⟩ = some (w16 x.n) ∧ V.drew.cell? ⟨q, 2, none⟩ = some (.int .u32 x.z) ∧ V.drew.cell? ⟨q, 3, none⟩ = some (w16 x.d0) ∧ V.drew.cell? ⟨q, 4, none⟩ = some (w16 x.d1) ∧ V.drew.cell? ⟨q, 5, none⟩ = some (w16 x.d2) ∧ V.drew.cell? ⟨q, 6, none⟩ = some (w16 x.d3) ∧ V.drew.cell? ⟨q, 7, none⟩ = some (w16 x.i) ∧ V.drew.cell? (aa.add (k * 4)) = some (.int .i64 s.do_) ∧ V.drew.cell? ⟨(aa.add (k * 4)).block, (aa.add (k * 4)).off + 1, none⟩ = some (.int .i64 s.page) ∧ V.drew.cell? ⟨(aa.add (k * 4)).block, (aa.add (k * 4)).off + 2, none⟩ = some (w16 s.b) ∧ V.drew.cell? ⟨(aa.add (k * 4)).block, (aa.add (k * 4)).off + 3, none⟩ = some (sv) := fun V L qs h => kk _ L qs (h.below ((Below.refl _ _).drew))
          have kl : ∀ V L qs o, Pl w V b jb tb rb vt G L L (geoR g G.i G.b G.j :: inoR q x :: qs) → (V.alloc o).cell? ⟨g, 0, none⟩ = some (.int .i64 (G.i : Int)) ∧ (V.alloc o).cell? ⟨g, 1, none⟩ = some (.int .i64 (G.b : Int)) ∧ (V.alloc o).cell? ⟨g, 2, none⟩ = some (.int .i64 (G.j : Int)) ∧ (V.alloc o).cell? ⟨q, 0, none⟩ = some (.int .u8 x.k) ∧ (V.alloc o).cell? ⟨q, 1, none⟩ = some (w16 x.n) ∧ (V.alloc o).cell? ⟨q, 2, none⟩ = some (.int .u32 x.z) ∧ (V.alloc o).cell? ⟨q, 3, none⟩ = some (w16 x.d0) ∧ (V.alloc o).cell? ⟨q, 4, none⟩ = some (w16 x.d1) ∧ (V.alloc o).cell? ⟨q, 5, none⟩ = some (w16 x.d2) ∧ (V.alloc o).cell? ⟨q, 6, none⟩ = some (w16 x.d3) ∧ (V.alloc o).cell? ⟨q, 7, none⟩ = some (w16 x.i) ∧ (V.alloc o).cell? (aa.add (k * 4)) = some (.int .i64 s.do_) ∧ (V.alloc o).cell? ⟨(aa.add (k * 4)).block, (aa.add (k * 4)).off + 1, none⟩ = some (.int .i64 s.page) ∧ (V.alloc o).cell? ⟨(aa.add (k * 4)).block, (aa.add (k * 4)).off + 2, none⟩ = some (w16 s.b) ∧ (V.alloc o).cell? ⟨(aa.add (k * 4)).block, (aa.add (k * 4)).off + 3, none⟩ = some (sv) := fun V L qs o h => kk _ L qs (h.below ((Below.refl _ _).alloc (Nat.le_refl _) o))
          have km : ∀ V L qs o, Pl w V b jb tb rb vt G L L (geoR g G.i G.b G.j :: inoR q x :: qs) → (V.alloc o).drew.cell? ⟨g, 0, none⟩ = some (.int .i64 (G.i : Int)) ∧ (V.alloc o).drew.cell? ⟨g, 1, none⟩ = some (.int .i64 (G.b : Int)) ∧ (V.alloc o).drew.cell? ⟨g, 2, none⟩ = some (.int .i64 (G.j : Int)) ∧ (V.alloc o).drew.cell? ⟨q, 0, none⟩ = some (.int .u8 x.k) ∧ (V.alloc o).drew.cell? ⟨q, 1, none⟩ = some (w16 x.n) ∧ (V.alloc o).drew.cell? ⟨q, 2, none⟩ = some (.int .u32 x.z) ∧ (V.alloc o).drew.cell? ⟨q, 3, none⟩ = some (w16 x.d0) ∧ (V.alloc o).drew.cell? ⟨q, 4, none⟩ = some (w16 x.d1) ∧ (V.alloc o).drew.cell? ⟨q, 5, none⟩ = some (w16 x.d2) ∧ (V.alloc o).drew.cell? ⟨q, 6, none⟩ = some (w16 x.d3) ∧ (V.alloc o).drew.cell? ⟨q, 7, none⟩ = some (w16 x.i) ∧ (V.alloc o).drew.cell? (aa.add (k * 4)) = some (.int .i64 s.do_) ∧ (V.alloc o).drew.cell? ⟨(aa.add (k * 4)).block, (aa.add (k * 4)).off + 1, none⟩ = some (.int .i64 s.page) ∧ (V.alloc o).drew.cell? ⟨(aa.add (k * 4)).block, (aa.add (k * 4)).off + 2, none⟩ = some (w16 s.b) ∧ (V.alloc o).drew.cell? ⟨(aa.add (k * 4)).block, (aa.add (k * 4)).off + 3, none⟩ = some (sv) := fun V L qs o h => kk _ L qs (h.below (((Below.refl _ _).alloc (Nat.le_refl _) o).drew))
          have kf : ∀ V L (p : Nat) (z y : Im), Pl w V b jb tb rb vt G L L (geoR g G.i G.b G.j :: inoR q x :: [inoR p z]) → Pl w ((((((((V.setCell ⟨p, 0, none⟩ (.int .u8 y.k)).setCell ⟨p, 1, none⟩ (w16 y.n)).setCell ⟨p, 2, none⟩ (.int .u32 y.z)).setCell ⟨p, 3, none⟩ (w16 y.d0)).setCell ⟨p, 4, none⟩ (w16 y.d1)).setCell ⟨p, 5, none⟩ (w16 y.d2)).setCell ⟨p, 6, none⟩ (w16 y.d3)).setCell ⟨p, 7, none⟩ (w16 y.i)) b jb tb rb vt G L L (geoR g G.i G.b G.j :: inoR q x :: [inoR p y]) := fun V L p z y h => h.setIno (i := 2) rfl y
          have kt : ∀ V L (p : Nat) (z y : Im), Pl w V b jb tb rb vt G L L (geoR g G.i G.b G.j :: inoR q x :: [inoR p z]) → ((((((((V.setCell ⟨p, 0, none⟩ (.int .u8 y.k)).setCell ⟨p, 1, none⟩ (w16 y.n)).setCell ⟨p, 2, none⟩ (.int .u32 y.z)).setCell ⟨p, 3, none⟩ (w16 y.d0)).setCell ⟨p, 4, none⟩ (w16 y.d1)).setCell ⟨p, 5, none⟩ (w16 y.d2)).setCell ⟨p, 6, none⟩ (w16 y.d3)).setCell ⟨p, 7, none⟩ (w16 y.i)).cell? ⟨g, 0, none⟩ = some (.int .i64 (G.i : Int)) ∧ ((((((((V.setCell ⟨p, 0, none⟩ (.int .u8 y.k)).setCell ⟨p, 1, none⟩ (w16 y.n)).setCell ⟨p, 2, none⟩ (.int .u32 y.z)).setCell ⟨p, 3, none⟩ (w16 y.d0)).setCell ⟨p, 4, none⟩ (w16 y.d1)).setCell ⟨p, 5, none⟩ (w16 y.d2)).setCell ⟨p, 6, none⟩ (w16 y.d3)).setCell ⟨p, 7, none⟩ (w16 y.i)).cell? ⟨g, 1, none⟩ = some (.int .i64 (G.b : Int)) ∧ ((((((((V.setCell ⟨p, 0, none⟩ (.int .u8 y.k)).setCell ⟨p, 1, none⟩ (w16 y.n)).setCell ⟨p, 2, none⟩ (.int .u32 y.z)).setCell ⟨p, 3, none⟩ (w16 y.d0)).setCell ⟨p, 4, none⟩ (w16 y.d1)).setCell ⟨p, 5, none⟩ (w16 y.d2)).setCell ⟨p, 6, none⟩ (w16 y.d3)).setCell ⟨p, 7, none⟩ (w16 y.i)).cell? ⟨g, 2, none⟩ = some (.int .i64 (G.j : Int)) ∧ ((((((((V.setCell ⟨p, 0, none⟩ (.int .u8 y.k)).setCell ⟨p, 1, none⟩ (w16 y.n)).setCell ⟨p, 2, none⟩ (.int .u32 y.z)).setCell ⟨p, 3, none⟩ (w16 y.d0)).setCell ⟨p, 4, none⟩ (w16 y.d1)).setCell ⟨p, 5, none⟩ (w16 y.d2)).setCell ⟨p, 6, none⟩ (w16 y.d3)).setCell ⟨p, 7, none⟩ (w16 y.i)).cell? ⟨q, 0, none⟩ = some (.int .u8 x.k) ∧ ((((((((V.setCell ⟨p, 0, none⟩ (.int .u8 y.k)).setCell ⟨p, 1, none⟩ (w16 y.n)).setCell ⟨p, 2, none⟩ (.int .u32 y.z)).setCell ⟨p, 3, none⟩ (w16 y.d0)).setCell ⟨p, 4, none⟩ (w16 y.d1)).setCell ⟨p, 5, none⟩ (w16 y.d2)).setCell ⟨p, 6, none⟩ (w16 y.d3)).setCell ⟨p, 7, none⟩ (w16 y.i)).cell? ⟨q, 1, none⟩ = some (w16 x.n) ∧ ((((((((V.setCell ⟨p, 0, none⟩ (.int .u8 y.k)).setCell ⟨p, 1, none⟩ (w16 y.n)).setCell ⟨p, 2, none⟩ (.int .u32 y.z)).setCell ⟨p, 3, none⟩ (w16 y.d0)).setCell ⟨p, 4, none⟩ (w16 y.d1)).setCell ⟨p, 5, none⟩ (w16 y.d2)).setCell ⟨p, 6, none⟩ (w16 y.d3)).setCell ⟨p, 7, none⟩ (w16 y.i)).cell? ⟨q, 2, none⟩ = some (.int .u32 x.z) ∧ ((((((((V.setCell ⟨p, 0, none⟩ (.int .u8 y.k)).setCell ⟨p, 1, none⟩ (w16 y.n)).setCell ⟨p, 2, none⟩ (.int .u32 y.z)).setCell ⟨p, 3, none⟩ (w16 y.d0)).setCell ⟨p, 4, none⟩ (w16 y.d1)).setCell ⟨p, 5, none⟩ (w16 y.d2)).setCell ⟨p, 6, none⟩ (w16 y.d3)).setCell ⟨p, 7, none⟩ (w16 y.i)).cell? ⟨q, 3, none⟩ = some (w16 x.d0) ∧ ((((((((V.setCell ⟨p, 0, none⟩ (.int .u8 y.k)).setCell ⟨p, 1, none⟩ (w16 y.n)).setCell ⟨p, 2, none⟩ (.int .u32 y.z)).setCell ⟨p, 3, none⟩ (w16 y.d0)).setCell ⟨p, 4, none⟩ (w16 y.d1)).setCell ⟨p, 5, none⟩ (w16 y.d2)).setCell ⟨p, 6, none⟩ (w16 y.d3)).setCell ⟨p, 7, none⟩ (w16 y.i)).cell? ⟨q, 4, none⟩ = some (w16 x.d1) ∧ ((((((((V.setCell ⟨p, 0, none⟩ (.int .u8 y.k)).setCell ⟨p, 1, none⟩ (w16 y.n)).setCell ⟨p, 2, none⟩ (.int .u32 y.z)).setCell ⟨p, 3, none⟩ (w16 y.d0)).setCell ⟨p, 4, none⟩ (w16 y.d1)).setCell ⟨p, 5, none⟩ (w16 y.d2)).setCell ⟨p, 6, none⟩ (w16 y.d3)).setCell ⟨p, 7, none⟩ (w16 y.i)).cell? ⟨q, 5, none⟩ = some (w16 x.d2) ∧ ((((((((V.setCell ⟨p, 0, none⟩ (.int .u8 y.k)).setCell ⟨p, 1, none⟩ (w16 y.n)).setCell ⟨p, 2, none⟩ (.int .u32 y.z)).setCell ⟨p, 3, none⟩ (w16 y.d0)).setCell ⟨p, 4, none⟩ (w16 y.d1)).setCell ⟨p, 5, none⟩ (w16 y.d2)).setCell ⟨p, 6, none⟩ (w16 y.d3)).setCell ⟨p, 7, none⟩ (w16 y.i)).cell? ⟨q, 6, none⟩ = some (w16 x.d3) ∧ ((((((((V.setCell ⟨p, 0, none⟩ (.int .u8 y.k)).setCell ⟨p, 1, none⟩ (w16 y.n)).setCell ⟨p, 2, none⟩ (.int .u32 y.z)).setCell ⟨p, 3, none⟩ (w16 y.d0)).setCell ⟨p, 4, none⟩ (w16 y.d1)).setCell ⟨p, 5, none⟩ (w16 y.d2)).setCell ⟨p, 6, none⟩ (w16 y.d3)).setCell ⟨p, 7, none⟩ (w16 y.i)).cell? ⟨q, 7, none⟩ = some (w16 x.i) ∧ ((((((((V.setCell ⟨p, 0, none⟩ (.int .u8 y.k)).setCell ⟨p, 1, none⟩ (w16 y.n)).setCell ⟨p, 2, none⟩ (.int .u32 y.z)).setCell ⟨p, 3, none⟩ (w16 y.d0)).setCell ⟨p, 4, none⟩ (w16 y.d1)).setCell ⟨p, 5, none⟩ (w16 y.d2)).setCell ⟨p, 6, none⟩ (w16 y.d3)).setCell ⟨p, 7, none⟩ (w16 y.i)).cell? (aa.add (k * 4)) = some (.int .i64 s.do_) ∧ ((((((((V.setCell ⟨p, 0, none⟩ (.int .u8 y.k)).setCell ⟨p, 1, none⟩ (w16 y.n)).setCell ⟨p, 2, none⟩ (.int .u32 y.z)).setCell ⟨p, 3, none⟩ (w16 y.d0)).setCell ⟨p, 4, none⟩ (w16 y.d1)).setCell ⟨p, 5, none⟩ (w16 y.d2)).setCell ⟨p, 6, none⟩ (w16 y.d3)).setCell ⟨p, 7, none⟩ (w16 y.i)).cell? ⟨(aa.add (k * 4)).block, (aa.add (k * 4)).off + 1, none⟩ = some (.int .i64 s.page) ∧ ((((((((V.setCell ⟨p, 0, none⟩ (.int .u8 y.k)).setCell ⟨p, 1, none⟩ (w16 y.n)).setCell ⟨p, 2, none⟩ (.int .u32 y.z)).setCell ⟨p, 3, none⟩ (w16 y.d0)).setCell ⟨p, 4, none⟩ (w16 y.d1)).setCell ⟨p, 5, none⟩ (w16 y.d2)).setCell ⟨p, 6, none⟩ (w16 y.d3)).setCell ⟨p, 7, none⟩ (w16 y.i)).cell? ⟨(aa.add (k * 4)).block, (aa.add (k * 4)).off + 2, none⟩ = some (w16 s.b) ∧ ((((((((V.setCell ⟨p, 0, none⟩ (.int .u8 y.k)).setCell ⟨p, 1, none⟩ (w16 y.n)).setCell ⟨p, 2, none⟩ (.int .u32 y.z)).setCell ⟨p, 3, none⟩ (w16 y.d0)).setCell ⟨p, 4, none⟩ (w16 y.d1)).setCell ⟨p, 5, none⟩ (w16 y.d2)).setCell ⟨p, 6, none⟩ (w16 y.d3)).setCell ⟨p, 7, none⟩ (w16 y.i)).cell? ⟨(aa.add (k * 4)).block, (aa.add (k * 4)).off + 3, none⟩ = some (sv) := fun V L p z y h => kk _ L _ (kf _ _ _ _ _ h)
          have ky : ∀ V (p : Nat) (z : Im), ∀ {L}, Pl w V b jb tb rb vt G L L (geoR g G.i G.b G.j :: inoR q x :: [inoR p z]) → InoAt V p z := fun V p z L h => h.sys.mem (i := 7) rfl
          have ka : ∀ V, Pl w V b jb tb rb vt G L L (geoR g G.i G.b G.j :: inoR q x :: []) → Pl w (V.alloc (.cells #[.int .u8 0, .int .u16 0, .int .u32 0, .int .u16 0, .int .u16 0, .int .u16 0, .int .u16 0, .int .u16 0] 28)) b jb tb rb vt G L L (geoR g G.i G.b G.j :: inoR q x :: [inoR V.heap.size Im.nought]) := fun V h => h.ino Im.nought
          have kb : ∀ V qs, Pl w V b jb tb rb vt G L L (geoR g G.i G.b G.j :: inoR q x :: qs) → Pl w V.drew b jb tb rb vt G L L (geoR g G.i G.b G.j :: inoR q x :: qs) := fun V qs h => h.below ((Below.refl _ _).drew)
          have kad : ∀ V, Pl w V b jb tb rb vt G L L (geoR g G.i G.b G.j :: inoR q x :: []) → Pl w (V.alloc (.cells #[.int .u8 0, .int .u16 0, .int .u32 0, .int .u16 0, .int .u16 0, .int .u16 0, .int .u16 0, .int .u16 0] 28)).drew b jb tb rb vt G L L (geoR g G.i G.b G.j :: inoR q x :: [inoR V.heap.size Im.nought]) := fun V h => (ka V h).below ((Below.refl _ _).drew)
          have kn : ∀ V L (y : Im), Pl w V b jb tb rb vt G L L (geoR g G.i G.b G.j :: inoR q x :: []) → Pl w (V.alloc (.cells #[.int .u8 y.k, w16 y.n, .int .u32 y.z, w16 y.d0, w16 y.d1, w16 y.d2, w16 y.d3, w16 y.i] 28)) b jb tb rb vt G L L (geoR g G.i G.b G.j :: inoR q x :: [inoR V.heap.size y]) := fun V L y h => h.ino y
          have ks : ∀ V qs, Pl w V b jb tb rb vt G L L (geoR g G.i G.b G.j :: inoR q x :: qs) → Calls Tryz.prog 19 #[devp tb, devp rb, gv G, x.v, stepV9 s sv] V fun e w' => Did w w' b jb tb rb vt G (geoR g G.i G.b G.j :: inoR q x :: qs) e := fun V qs h => does9_any h HG.out x hxf s sv hfine x4
          obtain ⟨g0, g1, g2, i0, i1, i2, i3, i4, i5, i6, i7, y0, y1, y2, y3⟩ := kk _ _ _ HF.out
          have KK := Lib.hid kk
          have KD := Lib.hid kd
          have KL := Lib.hid kl
          have KM := Lib.hid km
          have KF := Lib.hid kf
          have KT := Lib.hid kt
          have KY := Lib.hid ky
          have KA := Lib.hid ka
          have KB := Lib.hid kb
          have KAD := Lib.hid kad
          have KN := Lib.hid kn
          have KS := Lib.hid ks
          have HXF := Lib.hid hxf
          clear kk kd kl km kf kt ky ka kb kad kn ks x0 x1 x2 x3 x4 hfine hxf
          go_upto_region 21 with fail
          go_cut [25, 26] from 122 to 171 (fun s1 s2 wx => ∃ (p : Nat) (x' : Im) (L' : PutL), s1 = .pointer (some ⟨p, 0, none⟩) ∧ s2 = .bool true ∧ x'.fits ∧ Pl w wx b jb tb rb vt G L' L' (geoR g G.i G.b G.j :: inoR q x :: [inoR p x']))
          case first =>
            go_region_held3 (fun W' => W'.cell? ⟨g, 0, none⟩ = some (.int .i64 (G.i : Int)) ∧ W'.cell? ⟨g, 1, none⟩ = some (.int .i64 (G.b : Int)) ∧ W'.cell? ⟨g, 2, none⟩ = some (.int .i64 (G.j : Int)) ∧ W'.cell? ⟨q, 0, none⟩ = some (.int .u8 x.k) ∧ W'.cell? ⟨q, 1, none⟩ = some (w16 x.n) ∧ W'.cell? ⟨q, 2, none⟩ = some (.int .u32 x.z) ∧ W'.cell? ⟨q, 3, none⟩ = some (w16 x.d0) ∧ W'.cell? ⟨q, 4, none⟩ = some (w16 x.d1) ∧ W'.cell? ⟨q, 5, none⟩ = some (w16 x.d2) ∧ W'.cell? ⟨q, 6, none⟩ = some (w16 x.d3) ∧ W'.cell? ⟨q, 7, none⟩ = some (w16 x.i) ∧ W'.cell? (aa.add (k * 4)) = some (.int .i64 s.do_) ∧ W'.cell? ⟨(aa.add (k * 4)).block, (aa.add (k * 4)).off + 1, none⟩ = some (.int .i64 s.page) ∧ W'.cell? ⟨(aa.add (k * 4)).block, (aa.add (k * 4)).off + 2, none⟩ = some (w16 s.b) ∧ W'.cell? ⟨(aa.add (k * 4)).block, (aa.add (k * 4)).off + 3, none⟩ = some (sv))
              (first | with_reducible exact ⟨g0, g1, g2, i0, i1, i2, i3, i4, i5, i6, i7, y0, y1, y2, y3⟩ | with_reducible exact KK.out _ _ _ HF.out | with_reducible exact KD.out _ _ _ HF.out | with_reducible exact KL.out _ _ _ _ HF.out | with_reducible exact KM.out _ _ _ _ HF.out | with_reducible exact KT.out _ _ _ _ _ HF.out)
              (first | (go_at_call 19; ((with_reducible refine (KS.out _ _ (by first | with_reducible exact HF.out | with_reducible exact KA.out _ HF.out | with_reducible exact KB.out _ _ HF.out | with_reducible exact KAD.out _ HF.out)).mono ?_); rintro e w4 ⟨x', L', rfl, hxf', hF⟩; have HF := Lib.hid hF; have HX' := Lib.hid hxf'; obtain ⟨g0, g1, g2, i0, i1, i2, i3, i4, i5, i6, i7, y0, y1, y2, y3⟩ := KK.out _ _ _ HF.out; (try (obtain ⟨z0, z1, z2, z3, z4, z5, z6, z7⟩ := ino_cells (KY.out _ _ _ HF.out); have fz := ino_frozen (KY.out _ _ _ HF.out))); clear hF hxf')))
            all_goals (go_wp2_with fail; go_meet)
            all_goals refine ⟨_, _, L', rfl, rfl, HX'.out, ?_⟩
            all_goals first | with_reducible exact KF.out _ _ _ _ _ HF.out | with_reducible exact KN.out _ _ _ HF.out
          case rest =>
            obtain ⟨p, x', L', rfl, rfl, hxf', hF'⟩ := hcut
            have HF' := Lib.hid hF'
            have HX' := Lib.hid hxf'
            obtain ⟨g0, g1, g2, i0, i1, i2, i3, i4, i5, i6, i7, y0, y1, y2, y3⟩ := KK.out _ _ _ hF'
            clear hF' hxf' HF KD KL KM KF KT KY KA KB KAD KN KS g0 g1 g2 y0 y2 y3
            have HJ := Lib.hid fun V (h : Pl w V b jb tb rb vt G L' L' (geoR g G.i G.b G.j :: inoR q x :: [inoR p x'])) => KK.out V _ _ h
            go_upto_region 22 with fail
            go_cut [170] from 122 to 171 (fun s1 wx => s1 = .bool false ∧ Pl w wx b jb tb rb vt G L' L' (geoR g G.i G.b G.j :: inoR q x :: [inoR p x']))
            case first =>
              have HN := Lib.hid fun V => needs_any x s.page V
              have hb0 := (Below.refl wc.heap.size wc).drew
              have HD := Lib.hid (HF'.out.below hb0)
              have KJ := Lib.hid fun V (h : Pl w V b jb tb rb vt G L' L' (geoR g G.i G.b G.j :: inoR q x :: [inoR p x'])) => (show (V.cell? ⟨q, 0, none⟩ = some (.int .u8 x.k) ∧ V.cell? ⟨q, 1, none⟩ = some (w16 x.n) ∧ V.cell? ⟨q, 2, none⟩ = some (.int .u32 x.z) ∧ V.cell? ⟨q, 3, none⟩ = some (w16 x.d0) ∧ V.cell? ⟨q, 4, none⟩ = some (w16 x.d1) ∧ V.cell? ⟨q, 5, none⟩ = some (w16 x.d2) ∧ V.cell? ⟨q, 6, none⟩ = some (w16 x.d3) ∧ V.cell? ⟨q, 7, none⟩ = some (w16 x.i)) ∧ V.cell? ⟨(aa.add (k * 4)).block, (aa.add (k * 4)).off + 1, none⟩ = some (.int .i64 s.page) from (by obtain ⟨g0, g1, g2, i0, i1, i2, i3, i4, i5, i6, i7, y0, y1, y2, y3⟩ := HJ.out V h; exact ⟨⟨i0, i1, i2, i3, i4, i5, i6, i7⟩, y1⟩))
              clear i0 i1 i2 i3 i4 i5 i6 i7 y1 hb0
              obtain ⟨⟨j0, j1, j2, j3, j4, j5, j6, j7⟩, y1⟩ := KJ.out _ HD.out
              generalize s.page = pg at *
              by_cases h4 : 4 ≤ pg
              · have d4 : decide (4 ≤ pg) = true := decide_eq_true h4
                by_cases h36 : pg < 36
                · have d36 : decide (pg < 36) = true := decide_eq_true h36
                  by_cases hi : x.i = 0
                  · have hN : decide (4 ≤ pg ∧ pg < 36 ∧ x.i = 0) = true := decide_eq_true ⟨h4, h36, hi⟩
                    rw [hN] at HN
                    have di : ((x.i : Int) == 0) = true := by rw [hi]; rfl
                    clear hN hi
                    refine wp_region_held_drew (S := fun W' => W'.cell? ⟨q, 0, none⟩ = some (.int .u8 x.k) ∧ W'.cell? ⟨q, 1, none⟩ = some (w16 x.n) ∧ W'.cell? ⟨q, 2, none⟩ = some (.int .u32 x.z) ∧ W'.cell? ⟨q, 3, none⟩ = some (w16 x.d0) ∧ W'.cell? ⟨q, 4, none⟩ = some (w16 x.d1) ∧ W'.cell? ⟨q, 5, none⟩ = some (w16 x.d2) ∧ W'.cell? ⟨q, 6, none⟩ = some (w16 x.d3) ∧ W'.cell? ⟨q, 7, none⟩ = some (w16 x.i) ∧ W'.cell? ⟨(aa.add (k * 4)).block, (aa.add (k * 4)).off + 1, none⟩ = some (.int .i64 pg)) (by kernel_rfl) (by with_reducible exact ⟨j0, j1, j2, j3, j4, j5, j6, j7, y1⟩) (fun hHeld => ?_)
                    refine wpAnyH_take (i := 0) (oi := _) (v := ?_) rfl (by kernel_rfl) (by kernel_rfl) (by kernel_rfl) (fun _ _ _ h => h) (Or.inl ⟨by rfl, ?_⟩) (by assumption) ?_
                    rotate_left
                    · intro w hSw
                      try dsimp only at hSw
                      go_simp
                      try with_reducible rfl
                    (try simp only [Act.put, List.setIfInBounds_toArray, List.set_cons_zero, List.set_cons_succ, List.getElem_toArray, List.getElem_cons_zero, List.getElem_cons_succ])
                    refine wpAnyH_take (i := 1) (oi := _) (v := ?_) rfl (by kernel_rfl) (by kernel_rfl) (by kernel_rfl) (fun _ _ _ h => h) (Or.inl ⟨by rfl, ?_⟩) (by assumption) ?_
                    rotate_left
                    · intro w hSw
                      try dsimp only at hSw
                      go_simp
                      try with_reducible rfl
                    (try simp only [Act.put, List.setIfInBounds_toArray, List.set_cons_zero, List.set_cons_succ, List.getElem_toArray, List.getElem_cons_zero, List.getElem_cons_succ])
                    refine wpAnyH_take (i := 2) (oi := _) (v := ?_) rfl (by kernel_rfl) (by kernel_rfl) (by kernel_rfl) (fun _ _ _ h => h) (Or.inl ⟨by rfl, ?_⟩) (by assumption) ?_
                    rotate_left
                    · intro w hSw
                      try dsimp only at hSw
                      go_simp
                      try with_reducible rfl
                    (try simp only [Act.put, List.setIfInBounds_toArray, List.set_cons_zero, List.set_cons_succ, List.getElem_toArray, List.getElem_cons_zero, List.getElem_cons_succ])
                    refine wpAnyH_take (i := 3) (oi := _) (v := ?_) rfl (by kernel_rfl) (by kernel_rfl) (by kernel_rfl) (fun _ _ _ h => h) (Or.inl ⟨by rfl, ?_⟩) (by assumption) ?_
                    rotate_left
                    · intro w hSw
                      try dsimp only at hSw
                      go_simp
                      try with_reducible rfl
                    (try simp only [Act.put, List.setIfInBounds_toArray, List.set_cons_zero, List.set_cons_succ, List.getElem_toArray, List.getElem_cons_zero, List.getElem_cons_succ])
                    refine wpAnyH_take (i := 4) (oi := _) (v := ?_) rfl (by kernel_rfl) (by kernel_rfl) (by kernel_rfl) (fun _ _ _ h => h) (Or.inl ⟨by rfl, ?_⟩) (by assumption) ?_
                    rotate_left
                    · intro w hSw
                      try dsimp only at hSw
                      go_simp
                      try with_reducible rfl
                    (try simp only [Act.put, List.setIfInBounds_toArray, List.set_cons_zero, List.set_cons_succ, List.getElem_toArray, List.getElem_cons_zero, List.getElem_cons_succ])
                    refine wpAnyH_take (i := 5) (oi := _) (v := ?_) rfl (by kernel_rfl) (by kernel_rfl) (by kernel_rfl) (fun _ _ _ h => h) (Or.inl ⟨by rfl, ?_⟩) (by assumption) ?_
                    rotate_left
                    · intro w hSw
                      try dsimp only at hSw
                      go_simp
                      try with_reducible rfl
                    (try simp only [Act.put, List.setIfInBounds_toArray, List.set_cons_zero, List.set_cons_succ, List.getElem_toArray, List.getElem_cons_zero, List.getElem_cons_succ])
                    refine wpAnyH_take (i := 6) (oi := _) (v := ?_) rfl (by kernel_rfl) (by kernel_rfl) (by kernel_rfl) (fun _ _ _ h => h) (Or.inl ⟨by rfl, ?_⟩) (by assumption) ?_
                    rotate_left
                    · intro w hSw
                      try dsimp only at hSw
                      go_simp
                      try with_reducible rfl
                    (try simp only [Act.put, List.setIfInBounds_toArray, List.set_cons_zero, List.set_cons_succ, List.getElem_toArray, List.getElem_cons_zero, List.getElem_cons_succ])
                    refine wpAnyH_take (i := 7) (oi := _) (v := ?_) rfl (by kernel_rfl) (by kernel_rfl) (by kernel_rfl) (fun _ _ _ h => h) (Or.inl ⟨by rfl, ?_⟩) (by assumption) ?_
                    rotate_left
                    · intro w hSw
                      try dsimp only at hSw
                      go_simp
                      try with_reducible rfl
                    (try simp only [Act.put, List.setIfInBounds_toArray, List.set_cons_zero, List.set_cons_succ, List.getElem_toArray, List.getElem_cons_zero, List.getElem_cons_succ])
                    refine wpAnyH_take (i := 8) (oi := _) (v := ?_) rfl (by kernel_rfl) (by kernel_rfl) (by kernel_rfl) (fun _ _ _ h => h) (Or.inl ⟨by rfl, ?_⟩) (by assumption) ?_
                    rotate_left
                    · intro w hSw
                      try dsimp only at hSw
                      go_simp
                      try with_reducible rfl
                    (try simp only [Act.put, List.setIfInBounds_toArray, List.set_cons_zero, List.set_cons_succ, List.getElem_toArray, List.getElem_cons_zero, List.getElem_cons_succ])
                    refine wpAnyH_take (i := 10) (oi := _) (v := ?_) rfl (by kernel_rfl) (by kernel_rfl) (by kernel_rfl) (fun _ _ _ h => h) (Or.inl ⟨by rfl, ?_⟩) (by assumption) ?_
                    rotate_left
                    · intro w hSw
                      try dsimp only at hSw
                      go_simp
                      try with_reducible rfl
                    (try simp only [Act.put, List.setIfInBounds_toArray, List.set_cons_zero, List.set_cons_succ, List.getElem_toArray, List.getElem_cons_zero, List.getElem_cons_succ])
                    refine wpAnyH_take (i := 11) (oi := _) (v := ?_) rfl (by kernel_rfl) (by kernel_rfl) (by kernel_rfl) (fun _ _ _ h => h) (Or.inl ⟨by rfl, ?_⟩) (by assumption) ?_
                    rotate_left
                    · intro w hSw
                      try dsimp only at hSw
                      go_simp
                      try with_reducible rfl
                    (try simp only [Act.put, List.setIfInBounds_toArray, List.set_cons_zero, List.set_cons_succ, List.getElem_toArray, List.getElem_cons_zero, List.getElem_cons_succ])
                    refine wpAnyH_take (i := 12) (oi := _) (v := ?_) rfl (by kernel_rfl) (by kernel_rfl) (by kernel_rfl) (fun _ _ _ h => h) (Or.inl ⟨by rfl, ?_⟩) (by assumption) ?_
                    rotate_left
                    · intro w hSw
                      try dsimp only at hSw
                      go_simp
                      try with_reducible rfl
                    (try simp only [Act.put, List.setIfInBounds_toArray, List.set_cons_zero, List.set_cons_succ, List.getElem_toArray, List.getElem_cons_zero, List.getElem_cons_succ])
                    refine wpAnyH_take (i := 13) (oi := _) (v := ?_) rfl (by kernel_rfl) (by kernel_rfl) (by kernel_rfl) (fun _ _ _ h => h) (Or.inl ⟨by rfl, ?_⟩) (by assumption) ?_
                    rotate_left
                    · intro w hSw
                      try dsimp only at hSw
                      go_simp
                      try with_reducible rfl
                    (try simp only [Act.put, List.setIfInBounds_toArray, List.set_cons_zero, List.set_cons_succ, List.getElem_toArray, List.getElem_cons_zero, List.getElem_cons_succ])
                    refine wpAnyH_take (i := 14) (oi := _) (v := ?_) rfl (by kernel_rfl) (by kernel_rfl) (by kernel_rfl) (fun _ _ _ h => h) (Or.inl ⟨by rfl, ?_⟩) (by assumption) ?_
                    rotate_left
                    · intro w hSw
                      try dsimp only at hSw
                      go_simp
                      try with_reducible rfl
                    (try simp only [Act.put, List.setIfInBounds_toArray, List.set_cons_zero, List.set_cons_succ, List.getElem_toArray, List.getElem_cons_zero, List.getElem_cons_succ])
                    refine wpAnyH_take (i := 15) (oi := _) (v := .bool true) rfl (by kernel_rfl) (by kernel_rfl) (by kernel_rfl) (fun _ _ _ h => h) (Or.inl ⟨by rfl, ?_⟩) (by assumption) ?_
                    · intro w hSw
                      try dsimp only at hSw
                      go_simp
                      try first | with_reducible rfl | assumption | omega
                    (try simp only [Act.put, List.setIfInBounds_toArray, List.set_cons_zero, List.set_cons_succ, List.getElem_toArray, List.getElem_cons_zero, List.getElem_cons_succ])
                    refine wpAnyH_ready (rs := [9]) (by kernel_rfl) (by simp) ?_
                    refine AllReadyH.cons (o := _) rfl (fun K hK => ?_) AllReadyH.nil
                    go_simp
                    refine (HN.out _).mono ?_
                    rintro e w6 ⟨rfl, hb⟩
                    have HD := Lib.hid (HD.out.below hb)
                    obtain ⟨⟨j0, j1, j2, j3, j4, j5, j6, j7⟩, y1⟩ := KJ.out _ HD.out
                    clear hb
                    refine hK.out _ _ (by with_reducible exact ⟨j0, j1, j2, j3, j4, j5, j6, j7, y1⟩) (fun hHeld => ?_)
                    clear hK K
                    (try simp only [Act.put, List.setIfInBounds_toArray, List.set_cons_zero, List.set_cons_succ, List.getElem_toArray, List.getElem_cons_zero, List.getElem_cons_succ])
                    refine wpAnyH_take (i := 16) (oi := _) (v := ?_) rfl (by kernel_rfl) (by kernel_rfl) (by kernel_rfl) (fun _ _ _ h => h) (Or.inl ⟨by rfl, ?_⟩) (by assumption) ?_
                    rotate_left
                    · intro w hSw
                      try dsimp only at hSw
                      go_simp
                      try with_reducible rfl
                    (try simp only [Act.put, List.setIfInBounds_toArray, List.set_cons_zero, List.set_cons_succ, List.getElem_toArray, List.getElem_cons_zero, List.getElem_cons_succ])
                    refine wpAnyH_take (i := 17) (oi := _) (v := ?_) rfl (by kernel_rfl) (by kernel_rfl) (by kernel_rfl) (fun _ _ _ h => h) (Or.inl ⟨by rfl, ?_⟩) (by assumption) ?_
                    rotate_left
                    · intro w hSw
                      try dsimp only at hSw
                      go_simp
                      try with_reducible rfl
                    (try simp only [Act.put, List.setIfInBounds_toArray, List.set_cons_zero, List.set_cons_succ, List.getElem_toArray, List.getElem_cons_zero, List.getElem_cons_succ])
                    refine wpAnyH_take (i := 18) (oi := _) (v := ?_) rfl (by kernel_rfl) (by kernel_rfl) (by kernel_rfl) (fun _ _ _ h => h) (Or.inl ⟨by rfl, ?_⟩) (by assumption) ?_
                    rotate_left
                    · intro w hSw
                      try dsimp only at hSw
                      go_simp
                      try with_reducible rfl
                    (try simp only [Act.put, List.setIfInBounds_toArray, List.set_cons_zero, List.set_cons_succ, List.getElem_toArray, List.getElem_cons_zero, List.getElem_cons_succ])
                    refine wpAnyH_take (i := 19) (oi := _) (v := ?_) rfl (by kernel_rfl) (by kernel_rfl) (by kernel_rfl) (fun _ _ _ h => h) (Or.inl ⟨by rfl, ?_⟩) (by assumption) ?_
                    rotate_left
                    · intro w hSw
                      try dsimp only at hSw
                      go_simp
                      try with_reducible rfl
                    (try simp only [Act.put, List.setIfInBounds_toArray, List.set_cons_zero, List.set_cons_succ, List.getElem_toArray, List.getElem_cons_zero, List.getElem_cons_succ])
                    refine wpAnyH_take (i := 20) (oi := _) (v := ?_) rfl (by kernel_rfl) (by kernel_rfl) (by kernel_rfl) (fun _ _ _ h => h) (Or.inl ⟨by rfl, ?_⟩) (by assumption) ?_
                    rotate_left
                    · intro w hSw
                      try dsimp only at hSw
                      go_simp
                      try with_reducible rfl
                    (try simp only [Act.put, List.setIfInBounds_toArray, List.set_cons_zero, List.set_cons_succ, List.getElem_toArray, List.getElem_cons_zero, List.getElem_cons_succ])
                    refine wpAnyH_take (i := 21) (oi := _) (v := ?_) rfl (by kernel_rfl) (by kernel_rfl) (by kernel_rfl) (fun _ _ _ h => h) (Or.inl ⟨by rfl, ?_⟩) (by assumption) ?_
                    rotate_left
                    · intro w hSw
                      try dsimp only at hSw
                      go_simp
                      try with_reducible rfl
                    (try simp only [Act.put, List.setIfInBounds_toArray, List.set_cons_zero, List.set_cons_succ, List.getElem_toArray, List.getElem_cons_zero, List.getElem_cons_succ])
                    refine wpAnyH_take (i := 22) (oi := _) (v := .bool true) rfl (by kernel_rfl) (by kernel_rfl) (by kernel_rfl) (fun _ _ _ h => h) (Or.inl ⟨by rfl, ?_⟩) (by assumption) ?_
                    · intro w hSw
                      try dsimp only at hSw
                      go_simp
                      try first | with_reducible rfl | assumption | omega
                    (try simp only [Act.put, List.setIfInBounds_toArray, List.set_cons_zero, List.set_cons_succ, List.getElem_toArray, List.getElem_cons_zero, List.getElem_cons_succ])
                    refine wpAnyH_take (i := 23) (oi := _) (v := ?_) rfl (by kernel_rfl) (by kernel_rfl) (by kernel_rfl) (fun _ _ _ h => h) (Or.inl ⟨by rfl, ?_⟩) (by assumption) ?_
                    rotate_left
                    · intro w hSw
                      try dsimp only at hSw
                      go_simp
                      try with_reducible rfl
                    (try simp only [Act.put, List.setIfInBounds_toArray, List.set_cons_zero, List.set_cons_succ, List.getElem_toArray, List.getElem_cons_zero, List.getElem_cons_succ])
                    refine wpAnyH_take (i := 24) (oi := _) (v := ?_) rfl (by kernel_rfl) (by kernel_rfl) (by kernel_rfl) (fun _ _ _ h => h) (Or.inl ⟨by rfl, ?_⟩) (by assumption) ?_
                    rotate_left
                    · intro w hSw
                      try dsimp only at hSw
                      go_simp
                      try with_reducible rfl
                    (try simp only [Act.put, List.setIfInBounds_toArray, List.set_cons_zero, List.set_cons_succ, List.getElem_toArray, List.getElem_cons_zero, List.getElem_cons_succ])
                    refine wpAnyH_take (i := 25) (oi := _) (v := ?_) rfl (by kernel_rfl) (by kernel_rfl) (by kernel_rfl) (fun _ _ _ h => h) (Or.inl ⟨by rfl, ?_⟩) (by assumption) ?_
                    rotate_left
                    · intro w hSw
                      try dsimp only at hSw
                      go_simp
                      try with_reducible rfl
                    (try simp only [Act.put, List.setIfInBounds_toArray, List.set_cons_zero, List.set_cons_succ, List.getElem_toArray, List.getElem_cons_zero, List.getElem_cons_succ])
                    refine wpAnyH_take (i := 26) (oi := _) (v := ?_) rfl (by kernel_rfl) (by kernel_rfl) (by kernel_rfl) (fun _ _ _ h => h) (Or.inl ⟨by rfl, ?_⟩) (by assumption) ?_
                    rotate_left
                    · intro w hSw
                      try dsimp only at hSw
                      go_simp
                      try with_reducible rfl
                    (try simp only [Act.put, List.setIfInBounds_toArray, List.set_cons_zero, List.set_cons_succ, List.getElem_toArray, List.getElem_cons_zero, List.getElem_cons_succ])
                    refine wpAnyH_take (i := 27) (oi := _) (v := .bool true) rfl (by kernel_rfl) (by kernel_rfl) (by kernel_rfl) (fun _ _ _ h => h) (Or.inl ⟨by rfl, ?_⟩) (by assumption) ?_
                    · intro w hSw
                      try dsimp only at hSw
                      go_simp
                      try first | with_reducible rfl | assumption | omega
                    (try simp only [Act.put, List.setIfInBounds_toArray, List.set_cons_zero, List.set_cons_succ, List.getElem_toArray, List.getElem_cons_zero, List.getElem_cons_succ])
                    refine wpAnyH_take (i := 28) (oi := _) (v := ?_) rfl (by kernel_rfl) (by kernel_rfl) (by kernel_rfl) (fun _ _ _ h => h) (Or.inl ⟨by rfl, ?_⟩) (by assumption) ?_
                    rotate_left
                    · intro w hSw
                      try dsimp only at hSw
                      go_simp
                      try with_reducible rfl
                    (try simp only [Act.put, List.setIfInBounds_toArray, List.set_cons_zero, List.set_cons_succ, List.getElem_toArray, List.getElem_cons_zero, List.getElem_cons_succ])
                    refine wpAnyH_take (i := 29) (oi := _) (v := ?_) rfl (by kernel_rfl) (by kernel_rfl) (by kernel_rfl) (fun _ _ _ h => h) (Or.inl ⟨by rfl, ?_⟩) (by assumption) ?_
                    rotate_left
                    · intro w hSw
                      try dsimp only at hSw
                      go_simp
                      try with_reducible rfl
                    (try simp only [Act.put, List.setIfInBounds_toArray, List.set_cons_zero, List.set_cons_succ, List.getElem_toArray, List.getElem_cons_zero, List.getElem_cons_succ])
                    refine wpAnyH_take (i := 30) (oi := _) (v := ?_) rfl (by kernel_rfl) (by kernel_rfl) (by kernel_rfl) (fun _ _ _ h => h) (Or.inl ⟨by rfl, ?_⟩) (by assumption) ?_
                    rotate_left
                    · intro w hSw
                      try dsimp only at hSw
                      go_simp
                      try with_reducible rfl
                    (try simp only [Act.put, List.setIfInBounds_toArray, List.set_cons_zero, List.set_cons_succ, List.getElem_toArray, List.getElem_cons_zero, List.getElem_cons_succ])
                    refine wpAnyH_done (by kernel_rfl) ?_ _
                    go_wp2_with fail
                    go_meet
                    exact ⟨rfl, HD.out⟩
                  · have hN : decide (4 ≤ pg ∧ pg < 36 ∧ x.i = 0) = false := decide_eq_false fun e => hi e.2.2
                    rw [hN] at HN
                    have di : ((x.i : Int) == 0) = false := by simp; omega
                    clear hN hi
                    refine wp_region_held_drew (S := fun W' => W'.cell? ⟨q, 0, none⟩ = some (.int .u8 x.k) ∧ W'.cell? ⟨q, 1, none⟩ = some (w16 x.n) ∧ W'.cell? ⟨q, 2, none⟩ = some (.int .u32 x.z) ∧ W'.cell? ⟨q, 3, none⟩ = some (w16 x.d0) ∧ W'.cell? ⟨q, 4, none⟩ = some (w16 x.d1) ∧ W'.cell? ⟨q, 5, none⟩ = some (w16 x.d2) ∧ W'.cell? ⟨q, 6, none⟩ = some (w16 x.d3) ∧ W'.cell? ⟨q, 7, none⟩ = some (w16 x.i) ∧ W'.cell? ⟨(aa.add (k * 4)).block, (aa.add (k * 4)).off + 1, none⟩ = some (.int .i64 pg)) (by kernel_rfl) (by with_reducible exact ⟨j0, j1, j2, j3, j4, j5, j6, j7, y1⟩) (fun hHeld => ?_)
                    refine wpAnyH_take (i := 0) (oi := _) (v := ?_) rfl (by kernel_rfl) (by kernel_rfl) (by kernel_rfl) (fun _ _ _ h => h) (Or.inl ⟨by rfl, ?_⟩) (by assumption) ?_
                    rotate_left
                    · intro w hSw
                      try dsimp only at hSw
                      go_simp
                      try with_reducible rfl
                    (try simp only [Act.put, List.setIfInBounds_toArray, List.set_cons_zero, List.set_cons_succ, List.getElem_toArray, List.getElem_cons_zero, List.getElem_cons_succ])
                    refine wpAnyH_take (i := 1) (oi := _) (v := ?_) rfl (by kernel_rfl) (by kernel_rfl) (by kernel_rfl) (fun _ _ _ h => h) (Or.inl ⟨by rfl, ?_⟩) (by assumption) ?_
                    rotate_left
                    · intro w hSw
                      try dsimp only at hSw
                      go_simp
                      try with_reducible rfl
                    (try simp only [Act.put, List.setIfInBounds_toArray, List.set_cons_zero, List.set_cons_succ, List.getElem_toArray, List.getElem_cons_zero, List.getElem_cons_succ])
                    refine wpAnyH_take (i := 2) (oi := _) (v := ?_) rfl (by kernel_rfl) (by kernel_rfl) (by kernel_rfl) (fun _ _ _ h => h) (Or.inl ⟨by rfl, ?_⟩) (by assumption) ?_
                    rotate_left
                    · intro w hSw
                      try dsimp only at hSw
                      go_simp
                      try with_reducible rfl
                    (try simp only [Act.put, List.setIfInBounds_toArray, List.set_cons_zero, List.set_cons_succ, List.getElem_toArray, List.getElem_cons_zero, List.getElem_cons_succ])
                    refine wpAnyH_take (i := 3) (oi := _) (v := ?_) rfl (by kernel_rfl) (by kernel_rfl) (by kernel_rfl) (fun _ _ _ h => h) (Or.inl ⟨by rfl, ?_⟩) (by assumption) ?_
                    rotate_left
                    · intro w hSw
                      try dsimp only at hSw
                      go_simp
                      try with_reducible rfl
                    (try simp only [Act.put, List.setIfInBounds_toArray, List.set_cons_zero, List.set_cons_succ, List.getElem_toArray, List.getElem_cons_zero, List.getElem_cons_succ])
                    refine wpAnyH_take (i := 4) (oi := _) (v := ?_) rfl (by kernel_rfl) (by kernel_rfl) (by kernel_rfl) (fun _ _ _ h => h) (Or.inl ⟨by rfl, ?_⟩) (by assumption) ?_
                    rotate_left
                    · intro w hSw
                      try dsimp only at hSw
                      go_simp
                      try with_reducible rfl
                    (try simp only [Act.put, List.setIfInBounds_toArray, List.set_cons_zero, List.set_cons_succ, List.getElem_toArray, List.getElem_cons_zero, List.getElem_cons_succ])
                    refine wpAnyH_take (i := 5) (oi := _) (v := ?_) rfl (by kernel_rfl) (by kernel_rfl) (by kernel_rfl) (fun _ _ _ h => h) (Or.inl ⟨by rfl, ?_⟩) (by assumption) ?_
                    rotate_left
                    · intro w hSw
                      try dsimp only at hSw
                      go_simp
                      try with_reducible rfl
                    (try simp only [Act.put, List.setIfInBounds_toArray, List.set_cons_zero, List.set_cons_succ, List.getElem_toArray, List.getElem_cons_zero, List.getElem_cons_succ])
                    refine wpAnyH_take (i := 6) (oi := _) (v := ?_) rfl (by kernel_rfl) (by kernel_rfl) (by kernel_rfl) (fun _ _ _ h => h) (Or.inl ⟨by rfl, ?_⟩) (by assumption) ?_
                    rotate_left
                    · intro w hSw
                      try dsimp only at hSw
                      go_simp
                      try with_reducible rfl
                    (try simp only [Act.put, List.setIfInBounds_toArray, List.set_cons_zero, List.set_cons_succ, List.getElem_toArray, List.getElem_cons_zero, List.getElem_cons_succ])
                    refine wpAnyH_take (i := 7) (oi := _) (v := ?_) rfl (by kernel_rfl) (by kernel_rfl) (by kernel_rfl) (fun _ _ _ h => h) (Or.inl ⟨by rfl, ?_⟩) (by assumption) ?_
                    rotate_left
                    · intro w hSw
                      try dsimp only at hSw
                      go_simp
                      try with_reducible rfl
                    (try simp only [Act.put, List.setIfInBounds_toArray, List.set_cons_zero, List.set_cons_succ, List.getElem_toArray, List.getElem_cons_zero, List.getElem_cons_succ])
                    refine wpAnyH_take (i := 8) (oi := _) (v := ?_) rfl (by kernel_rfl) (by kernel_rfl) (by kernel_rfl) (fun _ _ _ h => h) (Or.inl ⟨by rfl, ?_⟩) (by assumption) ?_
                    rotate_left
                    · intro w hSw
                      try dsimp only at hSw
                      go_simp
                      try with_reducible rfl
                    (try simp only [Act.put, List.setIfInBounds_toArray, List.set_cons_zero, List.set_cons_succ, List.getElem_toArray, List.getElem_cons_zero, List.getElem_cons_succ])
                    refine wpAnyH_take (i := 10) (oi := _) (v := ?_) rfl (by kernel_rfl) (by kernel_rfl) (by kernel_rfl) (fun _ _ _ h => h) (Or.inl ⟨by rfl, ?_⟩) (by assumption) ?_
                    rotate_left
                    · intro w hSw
                      try dsimp only at hSw
                      go_simp
                      try with_reducible rfl
                    (try simp only [Act.put, List.setIfInBounds_toArray, List.set_cons_zero, List.set_cons_succ, List.getElem_toArray, List.getElem_cons_zero, List.getElem_cons_succ])
                    refine wpAnyH_take (i := 11) (oi := _) (v := ?_) rfl (by kernel_rfl) (by kernel_rfl) (by kernel_rfl) (fun _ _ _ h => h) (Or.inl ⟨by rfl, ?_⟩) (by assumption) ?_
                    rotate_left
                    · intro w hSw
                      try dsimp only at hSw
                      go_simp
                      try with_reducible rfl
                    (try simp only [Act.put, List.setIfInBounds_toArray, List.set_cons_zero, List.set_cons_succ, List.getElem_toArray, List.getElem_cons_zero, List.getElem_cons_succ])
                    refine wpAnyH_take (i := 12) (oi := _) (v := ?_) rfl (by kernel_rfl) (by kernel_rfl) (by kernel_rfl) (fun _ _ _ h => h) (Or.inl ⟨by rfl, ?_⟩) (by assumption) ?_
                    rotate_left
                    · intro w hSw
                      try dsimp only at hSw
                      go_simp
                      try with_reducible rfl
                    (try simp only [Act.put, List.setIfInBounds_toArray, List.set_cons_zero, List.set_cons_succ, List.getElem_toArray, List.getElem_cons_zero, List.getElem_cons_succ])
                    refine wpAnyH_take (i := 13) (oi := _) (v := ?_) rfl (by kernel_rfl) (by kernel_rfl) (by kernel_rfl) (fun _ _ _ h => h) (Or.inl ⟨by rfl, ?_⟩) (by assumption) ?_
                    rotate_left
                    · intro w hSw
                      try dsimp only at hSw
                      go_simp
                      try with_reducible rfl
                    (try simp only [Act.put, List.setIfInBounds_toArray, List.set_cons_zero, List.set_cons_succ, List.getElem_toArray, List.getElem_cons_zero, List.getElem_cons_succ])
                    refine wpAnyH_take (i := 14) (oi := _) (v := ?_) rfl (by kernel_rfl) (by kernel_rfl) (by kernel_rfl) (fun _ _ _ h => h) (Or.inl ⟨by rfl, ?_⟩) (by assumption) ?_
                    rotate_left
                    · intro w hSw
                      try dsimp only at hSw
                      go_simp
                      try with_reducible rfl
                    (try simp only [Act.put, List.setIfInBounds_toArray, List.set_cons_zero, List.set_cons_succ, List.getElem_toArray, List.getElem_cons_zero, List.getElem_cons_succ])
                    refine wpAnyH_take (i := 15) (oi := _) (v := .bool true) rfl (by kernel_rfl) (by kernel_rfl) (by kernel_rfl) (fun _ _ _ h => h) (Or.inl ⟨by rfl, ?_⟩) (by assumption) ?_
                    · intro w hSw
                      try dsimp only at hSw
                      go_simp
                      try first | with_reducible rfl | assumption | omega
                    (try simp only [Act.put, List.setIfInBounds_toArray, List.set_cons_zero, List.set_cons_succ, List.getElem_toArray, List.getElem_cons_zero, List.getElem_cons_succ])
                    refine wpAnyH_ready (rs := [9]) (by kernel_rfl) (by simp) ?_
                    refine AllReadyH.cons (o := _) rfl (fun K hK => ?_) AllReadyH.nil
                    go_simp
                    refine (HN.out _).mono ?_
                    rintro e w6 ⟨rfl, hb⟩
                    have HD := Lib.hid (HD.out.below hb)
                    obtain ⟨⟨j0, j1, j2, j3, j4, j5, j6, j7⟩, y1⟩ := KJ.out _ HD.out
                    clear hb
                    refine hK.out _ _ (by with_reducible exact ⟨j0, j1, j2, j3, j4, j5, j6, j7, y1⟩) (fun hHeld => ?_)
                    clear hK K
                    (try simp only [Act.put, List.setIfInBounds_toArray, List.set_cons_zero, List.set_cons_succ, List.getElem_toArray, List.getElem_cons_zero, List.getElem_cons_succ])
                    refine wpAnyH_take (i := 16) (oi := _) (v := ?_) rfl (by kernel_rfl) (by kernel_rfl) (by kernel_rfl) (fun _ _ _ h => h) (Or.inl ⟨by rfl, ?_⟩) (by assumption) ?_
                    rotate_left
                    · intro w hSw
                      try dsimp only at hSw
                      go_simp
                      try with_reducible rfl
                    (try simp only [Act.put, List.setIfInBounds_toArray, List.set_cons_zero, List.set_cons_succ, List.getElem_toArray, List.getElem_cons_zero, List.getElem_cons_succ])
                    refine wpAnyH_take (i := 17) (oi := _) (v := ?_) rfl (by kernel_rfl) (by kernel_rfl) (by kernel_rfl) (fun _ _ _ h => h) (Or.inl ⟨by rfl, ?_⟩) (by assumption) ?_
                    rotate_left
                    · intro w hSw
                      try dsimp only at hSw
                      go_simp
                      try with_reducible rfl
                    (try simp only [Act.put, List.setIfInBounds_toArray, List.set_cons_zero, List.set_cons_succ, List.getElem_toArray, List.getElem_cons_zero, List.getElem_cons_succ])
                    refine wpAnyH_take (i := 18) (oi := _) (v := ?_) rfl (by kernel_rfl) (by kernel_rfl) (by kernel_rfl) (fun _ _ _ h => h) (Or.inl ⟨by rfl, ?_⟩) (by assumption) ?_
                    rotate_left
                    · intro w hSw
                      try dsimp only at hSw
                      go_simp
                      try with_reducible rfl
                    (try simp only [Act.put, List.setIfInBounds_toArray, List.set_cons_zero, List.set_cons_succ, List.getElem_toArray, List.getElem_cons_zero, List.getElem_cons_succ])
                    refine wpAnyH_take (i := 19) (oi := _) (v := ?_) rfl (by kernel_rfl) (by kernel_rfl) (by kernel_rfl) (fun _ _ _ h => h) (Or.inl ⟨by rfl, ?_⟩) (by assumption) ?_
                    rotate_left
                    · intro w hSw
                      try dsimp only at hSw
                      go_simp
                      try with_reducible rfl
                    (try simp only [Act.put, List.setIfInBounds_toArray, List.set_cons_zero, List.set_cons_succ, List.getElem_toArray, List.getElem_cons_zero, List.getElem_cons_succ])
                    refine wpAnyH_take (i := 20) (oi := _) (v := ?_) rfl (by kernel_rfl) (by kernel_rfl) (by kernel_rfl) (fun _ _ _ h => h) (Or.inl ⟨by rfl, ?_⟩) (by assumption) ?_
                    rotate_left
                    · intro w hSw
                      try dsimp only at hSw
                      go_simp
                      try with_reducible rfl
                    (try simp only [Act.put, List.setIfInBounds_toArray, List.set_cons_zero, List.set_cons_succ, List.getElem_toArray, List.getElem_cons_zero, List.getElem_cons_succ])
                    refine wpAnyH_take (i := 21) (oi := _) (v := ?_) rfl (by kernel_rfl) (by kernel_rfl) (by kernel_rfl) (fun _ _ _ h => h) (Or.inl ⟨by rfl, ?_⟩) (by assumption) ?_
                    rotate_left
                    · intro w hSw
                      try dsimp only at hSw
                      go_simp
                      try with_reducible rfl
                    (try simp only [Act.put, List.setIfInBounds_toArray, List.set_cons_zero, List.set_cons_succ, List.getElem_toArray, List.getElem_cons_zero, List.getElem_cons_succ])
                    refine wpAnyH_take (i := 22) (oi := _) (v := .bool true) rfl (by kernel_rfl) (by kernel_rfl) (by kernel_rfl) (fun _ _ _ h => h) (Or.inl ⟨by rfl, ?_⟩) (by assumption) ?_
                    · intro w hSw
                      try dsimp only at hSw
                      go_simp
                      try first | with_reducible rfl | assumption | omega
                    (try simp only [Act.put, List.setIfInBounds_toArray, List.set_cons_zero, List.set_cons_succ, List.getElem_toArray, List.getElem_cons_zero, List.getElem_cons_succ])
                    refine wpAnyH_take (i := 23) (oi := _) (v := ?_) rfl (by kernel_rfl) (by kernel_rfl) (by kernel_rfl) (fun _ _ _ h => h) (Or.inl ⟨by rfl, ?_⟩) (by assumption) ?_
                    rotate_left
                    · intro w hSw
                      try dsimp only at hSw
                      go_simp
                      try with_reducible rfl
                    (try simp only [Act.put, List.setIfInBounds_toArray, List.set_cons_zero, List.set_cons_succ, List.getElem_toArray, List.getElem_cons_zero, List.getElem_cons_succ])
                    refine wpAnyH_take (i := 24) (oi := _) (v := ?_) rfl (by kernel_rfl) (by kernel_rfl) (by kernel_rfl) (fun _ _ _ h => h) (Or.inl ⟨by rfl, ?_⟩) (by assumption) ?_
                    rotate_left
                    · intro w hSw
                      try dsimp only at hSw
                      go_simp
                      try with_reducible rfl
                    (try simp only [Act.put, List.setIfInBounds_toArray, List.set_cons_zero, List.set_cons_succ, List.getElem_toArray, List.getElem_cons_zero, List.getElem_cons_succ])
                    refine wpAnyH_take (i := 25) (oi := _) (v := ?_) rfl (by kernel_rfl) (by kernel_rfl) (by kernel_rfl) (fun _ _ _ h => h) (Or.inl ⟨by rfl, ?_⟩) (by assumption) ?_
                    rotate_left
                    · intro w hSw
                      try dsimp only at hSw
                      go_simp
                      try with_reducible rfl
                    (try simp only [Act.put, List.setIfInBounds_toArray, List.set_cons_zero, List.set_cons_succ, List.getElem_toArray, List.getElem_cons_zero, List.getElem_cons_succ])
                    refine wpAnyH_take (i := 26) (oi := _) (v := ?_) rfl (by kernel_rfl) (by kernel_rfl) (by kernel_rfl) (fun _ _ _ h => h) (Or.inl ⟨by rfl, ?_⟩) (by assumption) ?_
                    rotate_left
                    · intro w hSw
                      try dsimp only at hSw
                      go_simp
                      try with_reducible rfl
                    (try simp only [Act.put, List.setIfInBounds_toArray, List.set_cons_zero, List.set_cons_succ, List.getElem_toArray, List.getElem_cons_zero, List.getElem_cons_succ])
                    refine wpAnyH_take (i := 27) (oi := _) (v := .bool false) rfl (by kernel_rfl) (by kernel_rfl) (by kernel_rfl) (fun _ _ _ h => h) (Or.inl ⟨by rfl, ?_⟩) (by assumption) ?_
                    · intro w hSw
                      try dsimp only at hSw
                      go_simp
                      try first | with_reducible rfl | assumption | omega
                    (try simp only [Act.put, List.setIfInBounds_toArray, List.set_cons_zero, List.set_cons_succ, List.getElem_toArray, List.getElem_cons_zero, List.getElem_cons_succ])
                    refine wpAnyH_take (i := 28) (oi := _) (v := ?_) rfl (by kernel_rfl) (by kernel_rfl) (by kernel_rfl) (fun _ _ _ h => h) (Or.inl ⟨by rfl, ?_⟩) (by assumption) ?_
                    rotate_left
                    · intro w hSw
                      try dsimp only at hSw
                      go_simp
                      try with_reducible rfl
                    (try simp only [Act.put, List.setIfInBounds_toArray, List.set_cons_zero, List.set_cons_succ, List.getElem_toArray, List.getElem_cons_zero, List.getElem_cons_succ])
                    refine wpAnyH_take (i := 29) (oi := _) (v := ?_) rfl (by kernel_rfl) (by kernel_rfl) (by kernel_rfl) (fun _ _ _ h => h) (Or.inl ⟨by rfl, ?_⟩) (by assumption) ?_
                    rotate_left
                    · intro w hSw
                      try dsimp only at hSw
                      go_simp
                      try with_reducible rfl
                    (try simp only [Act.put, List.setIfInBounds_toArray, List.set_cons_zero, List.set_cons_succ, List.getElem_toArray, List.getElem_cons_zero, List.getElem_cons_succ])
                    refine wpAnyH_take (i := 30) (oi := _) (v := ?_) rfl (by kernel_rfl) (by kernel_rfl) (by kernel_rfl) (fun _ _ _ h => h) (Or.inl ⟨by rfl, ?_⟩) (by assumption) ?_
                    rotate_left
                    · intro w hSw
                      try dsimp only at hSw
                      go_simp
                      try with_reducible rfl
                    (try simp only [Act.put, List.setIfInBounds_toArray, List.set_cons_zero, List.set_cons_succ, List.getElem_toArray, List.getElem_cons_zero, List.getElem_cons_succ])
                    refine wpAnyH_done (by kernel_rfl) ?_ _
                    go_wp2_with fail
                    go_meet
                    exact ⟨rfl, HD.out⟩
                · have d36 : decide (pg < 36) = false := decide_eq_false h36
                  have hN : decide (4 ≤ pg ∧ pg < 36 ∧ x.i = 0) = false := decide_eq_false fun e => h36 e.2.1
                  rw [hN] at HN
                  clear hN
                  refine wp_region_held_drew (S := fun W' => W'.cell? ⟨q, 0, none⟩ = some (.int .u8 x.k) ∧ W'.cell? ⟨q, 1, none⟩ = some (w16 x.n) ∧ W'.cell? ⟨q, 2, none⟩ = some (.int .u32 x.z) ∧ W'.cell? ⟨q, 3, none⟩ = some (w16 x.d0) ∧ W'.cell? ⟨q, 4, none⟩ = some (w16 x.d1) ∧ W'.cell? ⟨q, 5, none⟩ = some (w16 x.d2) ∧ W'.cell? ⟨q, 6, none⟩ = some (w16 x.d3) ∧ W'.cell? ⟨q, 7, none⟩ = some (w16 x.i) ∧ W'.cell? ⟨(aa.add (k * 4)).block, (aa.add (k * 4)).off + 1, none⟩ = some (.int .i64 pg)) (by kernel_rfl) (by with_reducible exact ⟨j0, j1, j2, j3, j4, j5, j6, j7, y1⟩) (fun hHeld => ?_)
                  refine wpAnyH_take (i := 0) (oi := _) (v := ?_) rfl (by kernel_rfl) (by kernel_rfl) (by kernel_rfl) (fun _ _ _ h => h) (Or.inl ⟨by rfl, ?_⟩) (by assumption) ?_
                  rotate_left
                  · intro w hSw
                    try dsimp only at hSw
                    go_simp
                    try with_reducible rfl
                  (try simp only [Act.put, List.setIfInBounds_toArray, List.set_cons_zero, List.set_cons_succ, List.getElem_toArray, List.getElem_cons_zero, List.getElem_cons_succ])
                  refine wpAnyH_take (i := 1) (oi := _) (v := ?_) rfl (by kernel_rfl) (by kernel_rfl) (by kernel_rfl) (fun _ _ _ h => h) (Or.inl ⟨by rfl, ?_⟩) (by assumption) ?_
                  rotate_left
                  · intro w hSw
                    try dsimp only at hSw
                    go_simp
                    try with_reducible rfl
                  (try simp only [Act.put, List.setIfInBounds_toArray, List.set_cons_zero, List.set_cons_succ, List.getElem_toArray, List.getElem_cons_zero, List.getElem_cons_succ])
                  refine wpAnyH_take (i := 2) (oi := _) (v := ?_) rfl (by kernel_rfl) (by kernel_rfl) (by kernel_rfl) (fun _ _ _ h => h) (Or.inl ⟨by rfl, ?_⟩) (by assumption) ?_
                  rotate_left
                  · intro w hSw
                    try dsimp only at hSw
                    go_simp
                    try with_reducible rfl
                  (try simp only [Act.put, List.setIfInBounds_toArray, List.set_cons_zero, List.set_cons_succ, List.getElem_toArray, List.getElem_cons_zero, List.getElem_cons_succ])
                  refine wpAnyH_take (i := 3) (oi := _) (v := ?_) rfl (by kernel_rfl) (by kernel_rfl) (by kernel_rfl) (fun _ _ _ h => h) (Or.inl ⟨by rfl, ?_⟩) (by assumption) ?_
                  rotate_left
                  · intro w hSw
                    try dsimp only at hSw
                    go_simp
                    try with_reducible rfl
                  (try simp only [Act.put, List.setIfInBounds_toArray, List.set_cons_zero, List.set_cons_succ, List.getElem_toArray, List.getElem_cons_zero, List.getElem_cons_succ])
                  refine wpAnyH_take (i := 4) (oi := _) (v := ?_) rfl (by kernel_rfl) (by kernel_rfl) (by kernel_rfl) (fun _ _ _ h => h) (Or.inl ⟨by rfl, ?_⟩) (by assumption) ?_
                  rotate_left
                  · intro w hSw
                    try dsimp only at hSw
                    go_simp
                    try with_reducible rfl
                  (try simp only [Act.put, List.setIfInBounds_toArray, List.set_cons_zero, List.set_cons_succ, List.getElem_toArray, List.getElem_cons_zero, List.getElem_cons_succ])
                  refine wpAnyH_take (i := 5) (oi := _) (v := ?_) rfl (by kernel_rfl) (by kernel_rfl) (by kernel_rfl) (fun _ _ _ h => h) (Or.inl ⟨by rfl, ?_⟩) (by assumption) ?_
                  rotate_left
                  · intro w hSw
                    try dsimp only at hSw
                    go_simp
                    try with_reducible rfl
                  (try simp only [Act.put, List.setIfInBounds_toArray, List.set_cons_zero, List.set_cons_succ, List.getElem_toArray, List.getElem_cons_zero, List.getElem_cons_succ])
                  refine wpAnyH_take (i := 6) (oi := _) (v := ?_) rfl (by kernel_rfl) (by kernel_rfl) (by kernel_rfl) (fun _ _ _ h => h) (Or.inl ⟨by rfl, ?_⟩) (by assumption) ?_
                  rotate_left
                  · intro w hSw
                    try dsimp only at hSw
                    go_simp
                    try with_reducible rfl
                  (try simp only [Act.put, List.setIfInBounds_toArray, List.set_cons_zero, List.set_cons_succ, List.getElem_toArray, List.getElem_cons_zero, List.getElem_cons_succ])
                  refine wpAnyH_take (i := 7) (oi := _) (v := ?_) rfl (by kernel_rfl) (by kernel_rfl) (by kernel_rfl) (fun _ _ _ h => h) (Or.inl ⟨by rfl, ?_⟩) (by assumption) ?_
                  rotate_left
                  · intro w hSw
                    try dsimp only at hSw
                    go_simp
                    try with_reducible rfl
                  (try simp only [Act.put, List.setIfInBounds_toArray, List.set_cons_zero, List.set_cons_succ, List.getElem_toArray, List.getElem_cons_zero, List.getElem_cons_succ])
                  refine wpAnyH_take (i := 8) (oi := _) (v := ?_) rfl (by kernel_rfl) (by kernel_rfl) (by kernel_rfl) (fun _ _ _ h => h) (Or.inl ⟨by rfl, ?_⟩) (by assumption) ?_
                  rotate_left
                  · intro w hSw
                    try dsimp only at hSw
                    go_simp
                    try with_reducible rfl
                  (try simp only [Act.put, List.setIfInBounds_toArray, List.set_cons_zero, List.set_cons_succ, List.getElem_toArray, List.getElem_cons_zero, List.getElem_cons_succ])
                  refine wpAnyH_take (i := 10) (oi := _) (v := ?_) rfl (by kernel_rfl) (by kernel_rfl) (by kernel_rfl) (fun _ _ _ h => h) (Or.inl ⟨by rfl, ?_⟩) (by assumption) ?_
                  rotate_left
                  · intro w hSw
                    try dsimp only at hSw
                    go_simp
                    try with_reducible rfl
                  (try simp only [Act.put, List.setIfInBounds_toArray, List.set_cons_zero, List.set_cons_succ, List.getElem_toArray, List.getElem_cons_zero, List.getElem_cons_succ])
                  refine wpAnyH_take (i := 11) (oi := _) (v := ?_) rfl (by kernel_rfl) (by kernel_rfl) (by kernel_rfl) (fun _ _ _ h => h) (Or.inl ⟨by rfl, ?_⟩) (by assumption) ?_
                  rotate_left
                  · intro w hSw
                    try dsimp only at hSw
                    go_simp
                    try with_reducible rfl
                  (try simp only [Act.put, List.setIfInBounds_toArray, List.set_cons_zero, List.set_cons_succ, List.getElem_toArray, List.getElem_cons_zero, List.getElem_cons_succ])
                  refine wpAnyH_take (i := 12) (oi := _) (v := ?_) rfl (by kernel_rfl) (by kernel_rfl) (by kernel_rfl) (fun _ _ _ h => h) (Or.inl ⟨by rfl, ?_⟩) (by assumption) ?_
                  rotate_left
                  · intro w hSw
                    try dsimp only at hSw
                    go_simp
                    try with_reducible rfl
                  (try simp only [Act.put, List.setIfInBounds_toArray, List.set_cons_zero, List.set_cons_succ, List.getElem_toArray, List.getElem_cons_zero, List.getElem_cons_succ])
                  refine wpAnyH_take (i := 13) (oi := _) (v := ?_) rfl (by kernel_rfl) (by kernel_rfl) (by kernel_rfl) (fun _ _ _ h => h) (Or.inl ⟨by rfl, ?_⟩) (by assumption) ?_
                  rotate_left
                  · intro w hSw
                    try dsimp only at hSw
                    go_simp
                    try with_reducible rfl
                  (try simp only [Act.put, List.setIfInBounds_toArray, List.set_cons_zero, List.set_cons_succ, List.getElem_toArray, List.getElem_cons_zero, List.getElem_cons_succ])
                  refine wpAnyH_take (i := 14) (oi := _) (v := ?_) rfl (by kernel_rfl) (by kernel_rfl) (by kernel_rfl) (fun _ _ _ h => h) (Or.inl ⟨by rfl, ?_⟩) (by assumption) ?_
                  rotate_left
                  · intro w hSw
                    try dsimp only at hSw
                    go_simp
                    try with_reducible rfl
                  (try simp only [Act.put, List.setIfInBounds_toArray, List.set_cons_zero, List.set_cons_succ, List.getElem_toArray, List.getElem_cons_zero, List.getElem_cons_succ])
                  refine wpAnyH_take (i := 15) (oi := _) (v := .bool true) rfl (by kernel_rfl) (by kernel_rfl) (by kernel_rfl) (fun _ _ _ h => h) (Or.inl ⟨by rfl, ?_⟩) (by assumption) ?_
                  · intro w hSw
                    try dsimp only at hSw
                    go_simp
                    try first | with_reducible rfl | assumption | omega
                  (try simp only [Act.put, List.setIfInBounds_toArray, List.set_cons_zero, List.set_cons_succ, List.getElem_toArray, List.getElem_cons_zero, List.getElem_cons_succ])
                  refine wpAnyH_ready (rs := [9]) (by kernel_rfl) (by simp) ?_
                  refine AllReadyH.cons (o := _) rfl (fun K hK => ?_) AllReadyH.nil
                  go_simp
                  refine (HN.out _).mono ?_
                  rintro e w6 ⟨rfl, hb⟩
                  have HD := Lib.hid (HD.out.below hb)
                  obtain ⟨⟨j0, j1, j2, j3, j4, j5, j6, j7⟩, y1⟩ := KJ.out _ HD.out
                  clear hb
                  refine hK.out _ _ (by with_reducible exact ⟨j0, j1, j2, j3, j4, j5, j6, j7, y1⟩) (fun hHeld => ?_)
                  clear hK K
                  (try simp only [Act.put, List.setIfInBounds_toArray, List.set_cons_zero, List.set_cons_succ, List.getElem_toArray, List.getElem_cons_zero, List.getElem_cons_succ])
                  refine wpAnyH_take (i := 16) (oi := _) (v := ?_) rfl (by kernel_rfl) (by kernel_rfl) (by kernel_rfl) (fun _ _ _ h => h) (Or.inl ⟨by rfl, ?_⟩) (by assumption) ?_
                  rotate_left
                  · intro w hSw
                    try dsimp only at hSw
                    go_simp
                    try with_reducible rfl
                  (try simp only [Act.put, List.setIfInBounds_toArray, List.set_cons_zero, List.set_cons_succ, List.getElem_toArray, List.getElem_cons_zero, List.getElem_cons_succ])
                  refine wpAnyH_take (i := 17) (oi := _) (v := ?_) rfl (by kernel_rfl) (by kernel_rfl) (by kernel_rfl) (fun _ _ _ h => h) (Or.inl ⟨by rfl, ?_⟩) (by assumption) ?_
                  rotate_left
                  · intro w hSw
                    try dsimp only at hSw
                    go_simp
                    try with_reducible rfl
                  (try simp only [Act.put, List.setIfInBounds_toArray, List.set_cons_zero, List.set_cons_succ, List.getElem_toArray, List.getElem_cons_zero, List.getElem_cons_succ])
                  refine wpAnyH_take (i := 18) (oi := _) (v := ?_) rfl (by kernel_rfl) (by kernel_rfl) (by kernel_rfl) (fun _ _ _ h => h) (Or.inl ⟨by rfl, ?_⟩) (by assumption) ?_
                  rotate_left
                  · intro w hSw
                    try dsimp only at hSw
                    go_simp
                    try with_reducible rfl
                  (try simp only [Act.put, List.setIfInBounds_toArray, List.set_cons_zero, List.set_cons_succ, List.getElem_toArray, List.getElem_cons_zero, List.getElem_cons_succ])
                  refine wpAnyH_take (i := 19) (oi := _) (v := ?_) rfl (by kernel_rfl) (by kernel_rfl) (by kernel_rfl) (fun _ _ _ h => h) (Or.inl ⟨by rfl, ?_⟩) (by assumption) ?_
                  rotate_left
                  · intro w hSw
                    try dsimp only at hSw
                    go_simp
                    try with_reducible rfl
                  (try simp only [Act.put, List.setIfInBounds_toArray, List.set_cons_zero, List.set_cons_succ, List.getElem_toArray, List.getElem_cons_zero, List.getElem_cons_succ])
                  refine wpAnyH_take (i := 20) (oi := _) (v := ?_) rfl (by kernel_rfl) (by kernel_rfl) (by kernel_rfl) (fun _ _ _ h => h) (Or.inl ⟨by rfl, ?_⟩) (by assumption) ?_
                  rotate_left
                  · intro w hSw
                    try dsimp only at hSw
                    go_simp
                    try with_reducible rfl
                  (try simp only [Act.put, List.setIfInBounds_toArray, List.set_cons_zero, List.set_cons_succ, List.getElem_toArray, List.getElem_cons_zero, List.getElem_cons_succ])
                  refine wpAnyH_take (i := 21) (oi := _) (v := ?_) rfl (by kernel_rfl) (by kernel_rfl) (by kernel_rfl) (fun _ _ _ h => h) (Or.inl ⟨by rfl, ?_⟩) (by assumption) ?_
                  rotate_left
                  · intro w hSw
                    try dsimp only at hSw
                    go_simp
                    try with_reducible rfl
                  (try simp only [Act.put, List.setIfInBounds_toArray, List.set_cons_zero, List.set_cons_succ, List.getElem_toArray, List.getElem_cons_zero, List.getElem_cons_succ])
                  refine wpAnyH_take (i := 22) (oi := _) (v := .bool false) rfl (by kernel_rfl) (by kernel_rfl) (by kernel_rfl) (fun _ _ _ h => h) (Or.inl ⟨by rfl, ?_⟩) (by assumption) ?_
                  · intro w hSw
                    try dsimp only at hSw
                    go_simp
                    try first | with_reducible rfl | assumption | omega
                  (try simp only [Act.put, List.setIfInBounds_toArray, List.set_cons_zero, List.set_cons_succ, List.getElem_toArray, List.getElem_cons_zero, List.getElem_cons_succ])
                  refine wpAnyH_take (i := 23) (oi := _) (v := ?_) rfl (by kernel_rfl) (by kernel_rfl) (by kernel_rfl) (fun _ _ _ h => h) (Or.inl ⟨by rfl, ?_⟩) (by assumption) ?_
                  rotate_left
                  · intro w hSw
                    try dsimp only at hSw
                    go_simp
                    try with_reducible rfl
                  (try simp only [Act.put, List.setIfInBounds_toArray, List.set_cons_zero, List.set_cons_succ, List.getElem_toArray, List.getElem_cons_zero, List.getElem_cons_succ])
                  refine wpAnyH_take (i := 24) (oi := _) (v := ?_) rfl (by kernel_rfl) (by kernel_rfl) (by kernel_rfl) (fun _ _ _ h => h) (Or.inl ⟨by rfl, ?_⟩) (by assumption) ?_
                  rotate_left
                  · intro w hSw
                    try dsimp only at hSw
                    go_simp
                    try with_reducible rfl
                  (try simp only [Act.put, List.setIfInBounds_toArray, List.set_cons_zero, List.set_cons_succ, List.getElem_toArray, List.getElem_cons_zero, List.getElem_cons_succ])
                  refine wpAnyH_take (i := 25) (oi := _) (v := undef) rfl (by kernel_rfl) (by kernel_rfl) (by kernel_rfl) (fun _ _ _ h => h) (Or.inr ⟨by rfl, rfl⟩) (by assumption) ?_
                  (try simp only [Act.put, List.setIfInBounds_toArray, List.set_cons_zero, List.set_cons_succ, List.getElem_toArray, List.getElem_cons_zero, List.getElem_cons_succ])
                  refine wpAnyH_take (i := 26) (oi := _) (v := undef) rfl (by kernel_rfl) (by kernel_rfl) (by kernel_rfl) (fun _ _ _ h => h) (Or.inr ⟨by rfl, rfl⟩) (by assumption) ?_
                  (try simp only [Act.put, List.setIfInBounds_toArray, List.set_cons_zero, List.set_cons_succ, List.getElem_toArray, List.getElem_cons_zero, List.getElem_cons_succ])
                  refine wpAnyH_take (i := 27) (oi := _) (v := undef) rfl (by kernel_rfl) (by kernel_rfl) (by kernel_rfl) (fun _ _ _ h => h) (Or.inr ⟨by rfl, rfl⟩) (by assumption) ?_
                  (try simp only [Act.put, List.setIfInBounds_toArray, List.set_cons_zero, List.set_cons_succ, List.getElem_toArray, List.getElem_cons_zero, List.getElem_cons_succ])
                  refine wpAnyH_take (i := 28) (oi := _) (v := ?_) rfl (by kernel_rfl) (by kernel_rfl) (by kernel_rfl) (fun _ _ _ h => h) (Or.inl ⟨by rfl, ?_⟩) (by assumption) ?_
                  rotate_left
                  · intro w hSw
                    try dsimp only at hSw
                    go_simp
                    try with_reducible rfl
                  (try simp only [Act.put, List.setIfInBounds_toArray, List.set_cons_zero, List.set_cons_succ, List.getElem_toArray, List.getElem_cons_zero, List.getElem_cons_succ])
                  refine wpAnyH_take (i := 29) (oi := _) (v := ?_) rfl (by kernel_rfl) (by kernel_rfl) (by kernel_rfl) (fun _ _ _ h => h) (Or.inl ⟨by rfl, ?_⟩) (by assumption) ?_
                  rotate_left
                  · intro w hSw
                    try dsimp only at hSw
                    go_simp
                    try with_reducible rfl
                  (try simp only [Act.put, List.setIfInBounds_toArray, List.set_cons_zero, List.set_cons_succ, List.getElem_toArray, List.getElem_cons_zero, List.getElem_cons_succ])
                  refine wpAnyH_take (i := 30) (oi := _) (v := ?_) rfl (by kernel_rfl) (by kernel_rfl) (by kernel_rfl) (fun _ _ _ h => h) (Or.inl ⟨by rfl, ?_⟩) (by assumption) ?_
                  rotate_left
                  · intro w hSw
                    try dsimp only at hSw
                    go_simp
                    try with_reducible rfl
                  (try simp only [Act.put, List.setIfInBounds_toArray, List.set_cons_zero, List.set_cons_succ, List.getElem_toArray, List.getElem_cons_zero, List.getElem_cons_succ])
                  refine wpAnyH_done (by kernel_rfl) ?_ _
                  go_wp2_with fail
                  go_meet
                  exact ⟨rfl, HD.out⟩
              · have d4 : decide (4 ≤ pg) = false := decide_eq_false h4
                have hN : decide (4 ≤ pg ∧ pg < 36 ∧ x.i = 0) = false := decide_eq_false fun e => h4 e.1
                rw [hN] at HN
                clear hN
                refine wp_region_held_drew (S := fun W' => W'.cell? ⟨q, 0, none⟩ = some (.int .u8 x.k) ∧ W'.cell? ⟨q, 1, none⟩ = some (w16 x.n) ∧ W'.cell? ⟨q, 2, none⟩ = some (.int .u32 x.z) ∧ W'.cell? ⟨q, 3, none⟩ = some (w16 x.d0) ∧ W'.cell? ⟨q, 4, none⟩ = some (w16 x.d1) ∧ W'.cell? ⟨q, 5, none⟩ = some (w16 x.d2) ∧ W'.cell? ⟨q, 6, none⟩ = some (w16 x.d3) ∧ W'.cell? ⟨q, 7, none⟩ = some (w16 x.i) ∧ W'.cell? ⟨(aa.add (k * 4)).block, (aa.add (k * 4)).off + 1, none⟩ = some (.int .i64 pg)) (by kernel_rfl) (by with_reducible exact ⟨j0, j1, j2, j3, j4, j5, j6, j7, y1⟩) (fun hHeld => ?_)
                refine wpAnyH_take (i := 0) (oi := _) (v := ?_) rfl (by kernel_rfl) (by kernel_rfl) (by kernel_rfl) (fun _ _ _ h => h) (Or.inl ⟨by rfl, ?_⟩) (by assumption) ?_
                rotate_left
                · intro w hSw
                  try dsimp only at hSw
                  go_simp
                  try with_reducible rfl
                (try simp only [Act.put, List.setIfInBounds_toArray, List.set_cons_zero, List.set_cons_succ, List.getElem_toArray, List.getElem_cons_zero, List.getElem_cons_succ])
                refine wpAnyH_take (i := 1) (oi := _) (v := ?_) rfl (by kernel_rfl) (by kernel_rfl) (by kernel_rfl) (fun _ _ _ h => h) (Or.inl ⟨by rfl, ?_⟩) (by assumption) ?_
                rotate_left
                · intro w hSw
                  try dsimp only at hSw
                  go_simp
                  try with_reducible rfl
                (try simp only [Act.put, List.setIfInBounds_toArray, List.set_cons_zero, List.set_cons_succ, List.getElem_toArray, List.getElem_cons_zero, List.getElem_cons_succ])
                refine wpAnyH_take (i := 2) (oi := _) (v := ?_) rfl (by kernel_rfl) (by kernel_rfl) (by kernel_rfl) (fun _ _ _ h => h) (Or.inl ⟨by rfl, ?_⟩) (by assumption) ?_
                rotate_left
                · intro w hSw
                  try dsimp only at hSw
                  go_simp
                  try with_reducible rfl
                (try simp only [Act.put, List.setIfInBounds_toArray, List.set_cons_zero, List.set_cons_succ, List.getElem_toArray, List.getElem_cons_zero, List.getElem_cons_succ])
                refine wpAnyH_take (i := 3) (oi := _) (v := ?_) rfl (by kernel_rfl) (by kernel_rfl) (by kernel_rfl) (fun _ _ _ h => h) (Or.inl ⟨by rfl, ?_⟩) (by assumption) ?_
                rotate_left
                · intro w hSw
                  try dsimp only at hSw
                  go_simp
                  try with_reducible rfl
                (try simp only [Act.put, List.setIfInBounds_toArray, List.set_cons_zero, List.set_cons_succ, List.getElem_toArray, List.getElem_cons_zero, List.getElem_cons_succ])
                refine wpAnyH_take (i := 4) (oi := _) (v := ?_) rfl (by kernel_rfl) (by kernel_rfl) (by kernel_rfl) (fun _ _ _ h => h) (Or.inl ⟨by rfl, ?_⟩) (by assumption) ?_
                rotate_left
                · intro w hSw
                  try dsimp only at hSw
                  go_simp
                  try with_reducible rfl
                (try simp only [Act.put, List.setIfInBounds_toArray, List.set_cons_zero, List.set_cons_succ, List.getElem_toArray, List.getElem_cons_zero, List.getElem_cons_succ])
                refine wpAnyH_take (i := 5) (oi := _) (v := ?_) rfl (by kernel_rfl) (by kernel_rfl) (by kernel_rfl) (fun _ _ _ h => h) (Or.inl ⟨by rfl, ?_⟩) (by assumption) ?_
                rotate_left
                · intro w hSw
                  try dsimp only at hSw
                  go_simp
                  try with_reducible rfl
                (try simp only [Act.put, List.setIfInBounds_toArray, List.set_cons_zero, List.set_cons_succ, List.getElem_toArray, List.getElem_cons_zero, List.getElem_cons_succ])
                refine wpAnyH_take (i := 6) (oi := _) (v := ?_) rfl (by kernel_rfl) (by kernel_rfl) (by kernel_rfl) (fun _ _ _ h => h) (Or.inl ⟨by rfl, ?_⟩) (by assumption) ?_
                rotate_left
                · intro w hSw
                  try dsimp only at hSw
                  go_simp
                  try with_reducible rfl
                (try simp only [Act.put, List.setIfInBounds_toArray, List.set_cons_zero, List.set_cons_succ, List.getElem_toArray, List.getElem_cons_zero, List.getElem_cons_succ])
                refine wpAnyH_take (i := 7) (oi := _) (v := ?_) rfl (by kernel_rfl) (by kernel_rfl) (by kernel_rfl) (fun _ _ _ h => h) (Or.inl ⟨by rfl, ?_⟩) (by assumption) ?_
                rotate_left
                · intro w hSw
                  try dsimp only at hSw
                  go_simp
                  try with_reducible rfl
                (try simp only [Act.put, List.setIfInBounds_toArray, List.set_cons_zero, List.set_cons_succ, List.getElem_toArray, List.getElem_cons_zero, List.getElem_cons_succ])
                refine wpAnyH_take (i := 8) (oi := _) (v := ?_) rfl (by kernel_rfl) (by kernel_rfl) (by kernel_rfl) (fun _ _ _ h => h) (Or.inl ⟨by rfl, ?_⟩) (by assumption) ?_
                rotate_left
                · intro w hSw
                  try dsimp only at hSw
                  go_simp
                  try with_reducible rfl
                (try simp only [Act.put, List.setIfInBounds_toArray, List.set_cons_zero, List.set_cons_succ, List.getElem_toArray, List.getElem_cons_zero, List.getElem_cons_succ])
                refine wpAnyH_take (i := 10) (oi := _) (v := ?_) rfl (by kernel_rfl) (by kernel_rfl) (by kernel_rfl) (fun _ _ _ h => h) (Or.inl ⟨by rfl, ?_⟩) (by assumption) ?_
                rotate_left
                · intro w hSw
                  try dsimp only at hSw
                  go_simp
                  try with_reducible rfl
                (try simp only [Act.put, List.setIfInBounds_toArray, List.set_cons_zero, List.set_cons_succ, List.getElem_toArray, List.getElem_cons_zero, List.getElem_cons_succ])
                refine wpAnyH_take (i := 11) (oi := _) (v := ?_) rfl (by kernel_rfl) (by kernel_rfl) (by kernel_rfl) (fun _ _ _ h => h) (Or.inl ⟨by rfl, ?_⟩) (by assumption) ?_
                rotate_left
                · intro w hSw
                  try dsimp only at hSw
                  go_simp
                  try with_reducible rfl
                (try simp only [Act.put, List.setIfInBounds_toArray, List.set_cons_zero, List.set_cons_succ, List.getElem_toArray, List.getElem_cons_zero, List.getElem_cons_succ])
                refine wpAnyH_take (i := 12) (oi := _) (v := ?_) rfl (by kernel_rfl) (by kernel_rfl) (by kernel_rfl) (fun _ _ _ h => h) (Or.inl ⟨by rfl, ?_⟩) (by assumption) ?_
                rotate_left
                · intro w hSw
                  try dsimp only at hSw
                  go_simp
                  try with_reducible rfl
                (try simp only [Act.put, List.setIfInBounds_toArray, List.set_cons_zero, List.set_cons_succ, List.getElem_toArray, List.getElem_cons_zero, List.getElem_cons_succ])
                refine wpAnyH_take (i := 13) (oi := _) (v := ?_) rfl (by kernel_rfl) (by kernel_rfl) (by kernel_rfl) (fun _ _ _ h => h) (Or.inl ⟨by rfl, ?_⟩) (by assumption) ?_
                rotate_left
                · intro w hSw
                  try dsimp only at hSw
                  go_simp
                  try with_reducible rfl
                (try simp only [Act.put, List.setIfInBounds_toArray, List.set_cons_zero, List.set_cons_succ, List.getElem_toArray, List.getElem_cons_zero, List.getElem_cons_succ])
                refine wpAnyH_take (i := 14) (oi := _) (v := ?_) rfl (by kernel_rfl) (by kernel_rfl) (by kernel_rfl) (fun _ _ _ h => h) (Or.inl ⟨by rfl, ?_⟩) (by assumption) ?_
                rotate_left
                · intro w hSw
                  try dsimp only at hSw
                  go_simp
                  try with_reducible rfl
                (try simp only [Act.put, List.setIfInBounds_toArray, List.set_cons_zero, List.set_cons_succ, List.getElem_toArray, List.getElem_cons_zero, List.getElem_cons_succ])
                refine wpAnyH_take (i := 15) (oi := _) (v := .bool false) rfl (by kernel_rfl) (by kernel_rfl) (by kernel_rfl) (fun _ _ _ h => h) (Or.inl ⟨by rfl, ?_⟩) (by assumption) ?_
                · intro w hSw
                  try dsimp only at hSw
                  go_simp
                  try first | with_reducible rfl | assumption | omega
                (try simp only [Act.put, List.setIfInBounds_toArray, List.set_cons_zero, List.set_cons_succ, List.getElem_toArray, List.getElem_cons_zero, List.getElem_cons_succ])
                refine wpAnyH_ready (rs := [9]) (by kernel_rfl) (by simp) ?_
                refine AllReadyH.cons (o := _) rfl (fun K hK => ?_) AllReadyH.nil
                go_simp
                refine (HN.out _).mono ?_
                rintro e w6 ⟨rfl, hb⟩
                have HD := Lib.hid (HD.out.below hb)
                obtain ⟨⟨j0, j1, j2, j3, j4, j5, j6, j7⟩, y1⟩ := KJ.out _ HD.out
                clear hb
                refine hK.out _ _ (by with_reducible exact ⟨j0, j1, j2, j3, j4, j5, j6, j7, y1⟩) (fun hHeld => ?_)
                clear hK K
                (try simp only [Act.put, List.setIfInBounds_toArray, List.set_cons_zero, List.set_cons_succ, List.getElem_toArray, List.getElem_cons_zero, List.getElem_cons_succ])
                refine wpAnyH_take (i := 16) (oi := _) (v := ?_) rfl (by kernel_rfl) (by kernel_rfl) (by kernel_rfl) (fun _ _ _ h => h) (Or.inl ⟨by rfl, ?_⟩) (by assumption) ?_
                rotate_left
                · intro w hSw
                  try dsimp only at hSw
                  go_simp
                  try with_reducible rfl
                (try simp only [Act.put, List.setIfInBounds_toArray, List.set_cons_zero, List.set_cons_succ, List.getElem_toArray, List.getElem_cons_zero, List.getElem_cons_succ])
                refine wpAnyH_take (i := 17) (oi := _) (v := undef) rfl (by kernel_rfl) (by kernel_rfl) (by kernel_rfl) (fun _ _ _ h => h) (Or.inr ⟨by rfl, rfl⟩) (by assumption) ?_
                (try simp only [Act.put, List.setIfInBounds_toArray, List.set_cons_zero, List.set_cons_succ, List.getElem_toArray, List.getElem_cons_zero, List.getElem_cons_succ])
                refine wpAnyH_take (i := 18) (oi := _) (v := undef) rfl (by kernel_rfl) (by kernel_rfl) (by kernel_rfl) (fun _ _ _ h => h) (Or.inr ⟨by rfl, rfl⟩) (by assumption) ?_
                (try simp only [Act.put, List.setIfInBounds_toArray, List.set_cons_zero, List.set_cons_succ, List.getElem_toArray, List.getElem_cons_zero, List.getElem_cons_succ])
                refine wpAnyH_take (i := 19) (oi := _) (v := undef) rfl (by kernel_rfl) (by kernel_rfl) (by kernel_rfl) (fun _ _ _ h => h) (Or.inr ⟨by rfl, rfl⟩) (by assumption) ?_
                (try simp only [Act.put, List.setIfInBounds_toArray, List.set_cons_zero, List.set_cons_succ, List.getElem_toArray, List.getElem_cons_zero, List.getElem_cons_succ])
                refine wpAnyH_take (i := 20) (oi := _) (v := undef) rfl (by kernel_rfl) (by kernel_rfl) (by kernel_rfl) (fun _ _ _ h => h) (Or.inr ⟨by rfl, rfl⟩) (by assumption) ?_
                (try simp only [Act.put, List.setIfInBounds_toArray, List.set_cons_zero, List.set_cons_succ, List.getElem_toArray, List.getElem_cons_zero, List.getElem_cons_succ])
                refine wpAnyH_take (i := 21) (oi := _) (v := undef) rfl (by kernel_rfl) (by kernel_rfl) (by kernel_rfl) (fun _ _ _ h => h) (Or.inr ⟨by rfl, rfl⟩) (by assumption) ?_
                (try simp only [Act.put, List.setIfInBounds_toArray, List.set_cons_zero, List.set_cons_succ, List.getElem_toArray, List.getElem_cons_zero, List.getElem_cons_succ])
                refine wpAnyH_take (i := 22) (oi := _) (v := undef) rfl (by kernel_rfl) (by kernel_rfl) (by kernel_rfl) (fun _ _ _ h => h) (Or.inr ⟨by rfl, rfl⟩) (by assumption) ?_
                (try simp only [Act.put, List.setIfInBounds_toArray, List.set_cons_zero, List.set_cons_succ, List.getElem_toArray, List.getElem_cons_zero, List.getElem_cons_succ])
                refine wpAnyH_take (i := 23) (oi := _) (v := ?_) rfl (by kernel_rfl) (by kernel_rfl) (by kernel_rfl) (fun _ _ _ h => h) (Or.inl ⟨by rfl, ?_⟩) (by assumption) ?_
                rotate_left
                · intro w hSw
                  try dsimp only at hSw
                  go_simp
                  try with_reducible rfl
                (try simp only [Act.put, List.setIfInBounds_toArray, List.set_cons_zero, List.set_cons_succ, List.getElem_toArray, List.getElem_cons_zero, List.getElem_cons_succ])
                refine wpAnyH_take (i := 24) (oi := _) (v := ?_) rfl (by kernel_rfl) (by kernel_rfl) (by kernel_rfl) (fun _ _ _ h => h) (Or.inl ⟨by rfl, ?_⟩) (by assumption) ?_
                rotate_left
                · intro w hSw
                  try dsimp only at hSw
                  go_simp
                  try with_reducible rfl
                (try simp only [Act.put, List.setIfInBounds_toArray, List.set_cons_zero, List.set_cons_succ, List.getElem_toArray, List.getElem_cons_zero, List.getElem_cons_succ])
                refine wpAnyH_take (i := 25) (oi := _) (v := undef) rfl (by kernel_rfl) (by kernel_rfl) (by kernel_rfl) (fun _ _ _ h => h) (Or.inr ⟨by rfl, rfl⟩) (by assumption) ?_
                (try simp only [Act.put, List.setIfInBounds_toArray, List.set_cons_zero, List.set_cons_succ, List.getElem_toArray, List.getElem_cons_zero, List.getElem_cons_succ])
                refine wpAnyH_take (i := 26) (oi := _) (v := undef) rfl (by kernel_rfl) (by kernel_rfl) (by kernel_rfl) (fun _ _ _ h => h) (Or.inr ⟨by rfl, rfl⟩) (by assumption) ?_
                (try simp only [Act.put, List.setIfInBounds_toArray, List.set_cons_zero, List.set_cons_succ, List.getElem_toArray, List.getElem_cons_zero, List.getElem_cons_succ])
                refine wpAnyH_take (i := 27) (oi := _) (v := undef) rfl (by kernel_rfl) (by kernel_rfl) (by kernel_rfl) (fun _ _ _ h => h) (Or.inr ⟨by rfl, rfl⟩) (by assumption) ?_
                (try simp only [Act.put, List.setIfInBounds_toArray, List.set_cons_zero, List.set_cons_succ, List.getElem_toArray, List.getElem_cons_zero, List.getElem_cons_succ])
                refine wpAnyH_take (i := 28) (oi := _) (v := ?_) rfl (by kernel_rfl) (by kernel_rfl) (by kernel_rfl) (fun _ _ _ h => h) (Or.inl ⟨by rfl, ?_⟩) (by assumption) ?_
                rotate_left
                · intro w hSw
                  try dsimp only at hSw
                  go_simp
                  try with_reducible rfl
                (try simp only [Act.put, List.setIfInBounds_toArray, List.set_cons_zero, List.set_cons_succ, List.getElem_toArray, List.getElem_cons_zero, List.getElem_cons_succ])
                refine wpAnyH_take (i := 29) (oi := _) (v := ?_) rfl (by kernel_rfl) (by kernel_rfl) (by kernel_rfl) (fun _ _ _ h => h) (Or.inl ⟨by rfl, ?_⟩) (by assumption) ?_
                rotate_left
                · intro w hSw
                  try dsimp only at hSw
                  go_simp
                  try with_reducible rfl
                (try simp only [Act.put, List.setIfInBounds_toArray, List.set_cons_zero, List.set_cons_succ, List.getElem_toArray, List.getElem_cons_zero, List.getElem_cons_succ])
                refine wpAnyH_take (i := 30) (oi := _) (v := ?_) rfl (by kernel_rfl) (by kernel_rfl) (by kernel_rfl) (fun _ _ _ h => h) (Or.inl ⟨by rfl, ?_⟩) (by assumption) ?_
                rotate_left
                · intro w hSw
                  try dsimp only at hSw
                  go_simp
                  try with_reducible rfl
                (try simp only [Act.put, List.setIfInBounds_toArray, List.set_cons_zero, List.set_cons_succ, List.getElem_toArray, List.getElem_cons_zero, List.getElem_cons_succ])
                refine wpAnyH_done (by kernel_rfl) ?_ _
                go_wp2_with fail
                go_meet
                exact ⟨rfl, HD.out⟩
            case rest =>
              obtain ⟨rfl, hF'⟩ := hcut
              obtain ⟨z0, z1, z2, z3, z4, z5, z6, z7⟩ := ino_cells (hF'.sys.mem (i := 7) rfl)
              obtain ⟨i0, i1, i2, i3, i4, i5, i6, i7⟩ := ino_cells (hF'.sys.mem (i := 6) rfl)
              have fy := ino_frozen (hF'.sys.mem (i := 6) rfl)
              have H7 := Lib.hid ((hF'.setIno (i := 1) (p := q) rfl x').take 2)
              clear hF' HF' HJ KK
              go_wp2_with fail
              go_roundw
              case rel => exact ⟨k + 1, x', L', by omega, by simp, HX'.out, H7.out⟩
              case measure => simp [Go.RowKit.intOf]; omega
        · obtain rfl : k = l.length := by omega
          go_wp2_with fail
          refine (HAl.out _).mono ?_
          rintro e w9 ⟨rfl, hb⟩
          have HB := Lib.hid (HF.out.all.trans (hb.mono HF.out.all.size))
          clear hb
          go_wp2_with fail
          go_ret
          exact ⟨rfl, HB.out⟩
/-- The eight numbers of an inode. -/
theorem im_of9 {a b c d e f g h : Int} (w0 : (Lit.int .u8 a).wf = true) (w1 : (Lit.int .u16 b).wf = true) (w2 : (Lit.int .u32 c).wf = true) (w3 : (Lit.int .u16 d).wf = true) (w4 : (Lit.int .u16 e).wf = true) (w5 : (Lit.int .u16 f).wf = true) (w6 : (Lit.int .u16 g).wf = true) (w7 : (Lit.int .u16 h).wf = true) :
    ∃ x : Im, x.fits ∧ (.agg #[.int .u8 a, .int .u16 b, .int .u32 c, .int .u16 d, .int .u16 e, .int .u16 f, .int .u16 g, .int .u16 h] : Value) = x.v := by
  simp [Lit.wf, IntKind.min, IntKind.max, IntKind.signed, IntKind.bits] at w0 w1 w2 w3 w4 w5 w6 w7
  refine ⟨⟨a.toNat, b.toNat, c.toNat, d.toNat, e.toNat, f.toNat, g.toNat, h.toNat⟩, ?_, ?_⟩
  · refine ⟨?_, ?_, ?_, ?_, ?_, ?_, ?_, ?_⟩ <;> simp only <;> omega
  · simp only [Im.v, w16]
    rw [Int.toNat_of_nonneg (by omega), Int.toNat_of_nonneg (by omega), Int.toNat_of_nonneg (by omega), Int.toNat_of_nonneg (by omega), Int.toNat_of_nonneg (by omega), Int.toNat_of_nonneg (by omega), Int.toNat_of_nonneg (by omega), Int.toNat_of_nonneg (by omega)]
theorem walk_BmapPlays (W : World) (a0_0 a0_1 a0_2 a1_0 a1_1 a1_2 a1_3 a1_4 a1_5 a1_6 a1_7 : Int) (v2 : Value) (a2 : List BSt) (w1_0 : (Lit.int .u8 a1_0).wf = true) (w1_1 : (Lit.int .u16 a1_1).wf = true) (w1_2 : (Lit.int .u32 a1_2).wf = true) (w1_3 : (Lit.int .u16 a1_3).wf = true) (w1_4 : (Lit.int .u16 a1_4).wf = true) (w1_5 : (Lit.int .u16 a1_5).wf = true) (w1_6 : (Lit.int .u16 a1_6).wf = true) (w1_7 : (Lit.int .u16 a1_7).wf = true) (w2 : BSteps W v2 a2) (y2 : ∀ x ∈ a2, fineB x) (z2 : a2.length ≤ maxLen) :
    Calls Tryz.prog 3 #[geoV a0_0 a0_1 a0_2, .agg #[.int .u8 a1_0, .int .u16 a1_1, .int .u32 a1_2, .int .u16 a1_3, .int .u16 a1_4, .int .u16 a1_5, .int .u16 a1_6, .int .u16 a1_7], v2] W fun e w' => e = .returned (.bool true) ∧ Below W.heap.size W w' := by
  obtain ⟨x, hx, ex⟩ := im_of9 w1_0 w1_1 w1_2 w1_3 w1_4 w1_5 w1_6 w1_7
  rw [ex]
  exact plays9_any W a0_0 a0_1 a0_2 x hx v2 a2 w2 y2 z2
end Go.Proofs.YtdddennhdbmolaaGreat
