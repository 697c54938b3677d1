/- Layer 11 (image): a formatted disk has a superblock that is read, a root without entries, and nothing else that is taken: the walk. -/
import Derived.Test.YtnfiapjdkjbdhaaGreatP15
import Derived.Test.YtnfiapjdkjbdhaaGreatBaseGeoEq
import Derived.Test.YtnfiapjdkjbdhaaGreatGeoR1
namespace Go.Proofs.YtnfiapjdkjbdhaaGreat
open Go.RowKit Go.Maps Go.Lib
set_option linter.unusedVariables false
set_option linter.unusedSimpArgs false
set_option maxRecDepth 10000
attribute [local go_sem ↓] ino_store_fold
theorem rootI_v : rootI.v = .agg #[.int .u8 2, .int .u16 1, .int .u32 0, .int .u16 0, .int .u16 0, .int .u16 0, .int .u16 0, .int .u16 0] := rfl
set_option maxHeartbeats 4000000 in
theorem fmt_let (i b j : Int) (w : World) (ha : ∀ V, Calls Tryz.prog 7 #[geoV i b j] V fun e w' => e = .returned (.bool false) ∧ Below V.heap.size V w') :
    Calls Tryz.prog 5 #[geoV i b j] w fun e w' => e = .returned (.bool true) ∧ Below w.heap.size w w' := by
  have HA := Lib.hid ha
  have HL := Lib.hid fun V => alive11_any V
  obtain ⟨g0, g1, g2⟩ := GeoAt.cells (heap_alloc_new w (.cells #[.int .i64 i, .int .i64 b, .int .i64 j] 23) : GeoAt _ w.heap.size i b j)
  have HB := Lib.hid ((Below.refl w.heap.size w).alloc (Nat.le_refl _) (.cells #[.int .i64 i, .int .i64 b, .int .i64 j] 23))
  clear ha
  go_enter Tryz.func5, Tryz.ntmps5
  go_wp2_with fail
  refine (HA.out _).mono ?_
  rintro e w1 ⟨rfl, hb⟩
  have HB1 := Lib.hid (HB.out.trans (hb.mono HB.out.size))
  clear hb
  go_wp2_with fail
  refine (HL.out _).mono ?_
  rintro e w2 ⟨rfl, hb⟩
  have HB2 := Lib.hid (HB1.out.trans (hb.mono HB1.out.size))
  clear hb
  go_wp2_with fail
  go_ret
  exact ⟨rfl, HB2.out⟩
set_option maxHeartbeats 4000000 in
theorem fmt_big (G : Gm) (hG : G.ok) (hl : ¬ (G.i ≤ 30 ∧ G.b ≤ 60 ∧ G.j ≤ 60)) (w : World) :
    Calls Tryz.prog 5 #[gv G] w fun e w' => e = .returned (.bool true) ∧ Below w.heap.size w w' := by
  have HA := Lib.hid fun V => may_ok _ _ _ V (gm_mayI hG)
  have HLa := Lib.hid fun V => large_yes G hl V
  have HL := Lib.hid fun V => alive11_any V
  have hg0 : GeoAt (w.alloc (.cells #[.int .i64 (G.i : Int), .int .i64 (G.b : Int), .int .i64 (G.j : Int)] 23)) w.heap.size G.i G.b G.j := heap_alloc_new w _
  obtain ⟨g0, g1, g2⟩ := hg0.cells
  have HG0 := Lib.hid hg0
  have HB := Lib.hid ((Below.refl w.heap.size w).alloc (Nat.le_refl _) (.cells #[.int .i64 (G.i : Int), .int .i64 (G.b : Int), .int .i64 (G.j : Int)] 23))
  clear hg0 hl
  go_enter Tryz.func5, Tryz.ntmps5
  go_wp2_with fail
  refine (HA.out _).mono ?_
  rintro e w1 ⟨rfl, hb⟩
  have HB1 := Lib.hid (HB.out.trans (hb.mono HB.out.size))
  have hg1 := HG0.out.below hb
  clear hb g0 g1 g2
  obtain ⟨g0, g1, g2⟩ := hg1.cells
  go_wp2_with fail
  refine (HLa.out _).mono ?_
  rintro e w2 ⟨rfl, hb⟩
  have HB2 := Lib.hid (HB1.out.trans (hb.mono HB1.out.size))
  clear hb g0 g1 g2 hg1
  go_wp2_with fail
  refine (HL.out _).mono ?_
  rintro e w3 ⟨rfl, hb⟩
  have HB3 := Lib.hid (HB2.out.trans (hb.mono HB2.out.size))
  clear hb
  go_wp2_with fail
  go_ret
  exact ⟨rfl, HB3.out⟩
set_option maxHeartbeats 8000000 in
theorem fmt_small (G : Gm) (hG : Sm G) (w : World) :
    Calls Tryz.prog 5 #[gv G] w fun e w' => e = .returned (.bool true) ∧ Below w.heap.size w w' := by
  have HA := Lib.hid fun V => may_ok _ _ _ V (gm_mayI hG.ok)
  have HR5 := Lib.hid fun V => refMay_ok _ _ _ V (gm_mayI hG.ok)
  have HLa := Lib.hid fun V => large_no G ⟨hG.i, hG.b, hG.j⟩ V
  have HL := Lib.hid fun V => alive11_any V
  have HDk := Lib.hid fun V => disk_any G hG V
  have hread := fun V => geoRead_any (superL G) V (by rw [superL_length]; decide)
  rw [readL_super hG.ok] at hread
  have HRd := Lib.hid (fun V => show Calls Tryz.prog 26 #[str (superL G)] V fun e w' => e = .returned (.tuple #[gv G, .int .i64 0]) ∧ Below V.heap.size V w' from hread V)
  have h2i : 2 ≤ G.i := hG.ok.1.1
  have h30 := hG.i
  have hg0 : GeoAt (w.alloc (.cells #[.int .i64 (G.i : Int), .int .i64 (G.b : Int), .int .i64 (G.j : Int)] 23)) w.heap.size G.i G.b G.j := heap_alloc_new w _
  obtain ⟨g0, g1, g2⟩ := hg0.cells
  have HG0 := Lib.hid hg0
  have HB := Lib.hid ((Below.refl w.heap.size w).alloc (Nat.le_refl _) (.cells #[.int .i64 (G.i : Int), .int .i64 (G.b : Int), .int .i64 (G.j : Int)] 23))
  clear hg0 hread
  go_enter Tryz.func5, Tryz.ntmps5
  go_wp2_with fail
  refine (HA.out _).mono ?_
  rintro e w1 ⟨rfl, hb⟩
  have HB1 := Lib.hid (HB.out.trans (hb.mono HB.out.size))
  have HG1 := Lib.hid (HG0.out.below hb)
  clear hb g0 g1 g2
  obtain ⟨g0, g1, g2⟩ := HG1.out.cells
  go_wp2_with fail
  refine (HLa.out _).mono ?_
  rintro e w2 ⟨rfl, hb⟩
  have HB2 := Lib.hid (HB1.out.trans (hb.mono HB1.out.size))
  have HG2 := Lib.hid (HG1.out.below hb)
  clear hb g0 g1 g2
  obtain ⟨g0, g1, g2⟩ := HG2.out.cells
  go_wp2_with fail
  refine (HDk.out _).mono ?_
  rintro e w3 ⟨b, jb, tb, mb, rfl, h3⟩
  have H3 := Lib.hid h3
  have hd := fmt_disk G hG
  have hdur := sys_durable h3.tx.sys (i := 0) (b := b) (M := fmtD G) rfl 0 (by show 0 < G.all; have := (Gm.made11 hG.ok).1; omega)
  have e0 : (fmtD G).dur 0 = superL G := by
    show (if 0 < G.all then fmtS G 0 else z64) = _
    rw [if_pos (by have := (Gm.made11 hG.ok).1; omega)]
    rfl
  rw [e0] at hdur
  have HDu := Lib.hid (show Calls Tryz.prog 25 #[devp b, .int .i64 0] w3 fun e w' => e = .returned (.tuple #[str (superL G), .int .i64 0]) ∧ w3 = w' from hdur)
  have hfr := fun V (hV : ISys w2 V b jb tb mb 0 G (fmtD G) [] []) => free11_any hV
  have e2 : leftV (vw (fmtD G).cur [] (G.off 2)) G.i = (G.i : Int) - 1 := by rw [hd.im]; exact count_fmt2 _ (by omega) h30
  have e3 : leftV (vw (fmtD G).cur [] (G.off 3)) G.b = (G.b : Int) := by
    have ho := off_lt hG
    have : vw (fmtD G).cur [] (G.off 3) = bits1 := by
      rw [vw_nil, fmtD_cur]
      show (if G.off 3 < G.all then fmtS G (G.off 3) else z64) = _
      rw [if_pos (by omega)]
      unfold fmtS
      have o2 := Sm.o2 G
      have o3 := hG.o3
      rw [if_neg (by omega), if_neg (by omega), if_pos rfl]
    rw [this]
    exact count_fmt1 _ hG.b
  rw [e2, e3] at hfr
  have HFr := Lib.hid hfr
  have r1 : Rg G 1 := ⟨by omega, by omega⟩
  have HIn := Lib.hid (fun V (hV : ISys w2 V b jb tb mb 0 G (fmtD G) [] []) => show Calls Tryz.prog 28 #[devp mb, .int .u32 1] V fun e w' => e = .returned (.tuple #[rootI.v, .int .i64 0]) ∧ Below V.heap.size V w' from inode11_ok hV 1 r1 rootI rootI_fits rootI_may (by have := hd.tab.zero r1; exact this))
  have HTx := Lib.hid (fun V (hV : ISys w2 V b jb tb mb 0 G (fmtD G) [] []) => show Calls Tryz.prog 29 #[devp mb, .int .u32 1] V fun e w' => e = .returned (.tuple #[str [], .int .i64 0]) ∧ Below V.heap.size V w' from text11_ok hV hd r1 rfl)
  clear h3 hd hdur e0 hfr e2 e3
  have hg3 := HG2.out.below H3.out.all
  clear g0 g1 g2
  go_wp2_with fail
  refine HDu.out.mono ?_
  rintro e w4 ⟨rfl, rfl⟩
  go_wp2_with fail
  refine (HRd.out _).mono ?_
  rintro e w5 ⟨rfl, hb⟩
  have H5 := Lib.hid (H3.out.below hb)
  have hal : Below w5.heap.size w5 (w5.alloc (.cells #[.int .i64 (G.i : Int), .int .i64 (G.b : Int), .int .i64 (G.j : Int)] 23)) := (Below.refl _ _).alloc (Nat.le_refl _) _
  have H6 := Lib.hid (H5.out.below hal)
  have HG6 := Lib.hid ((hg3.below hb).below hal)
  have hgn : GeoAt (w5.alloc (.cells #[.int .i64 (G.i : Int), .int .i64 (G.b : Int), .int .i64 (G.j : Int)] 23)) w5.heap.size G.i G.b G.j := heap_alloc_new w5 _
  have HN6 := Lib.hid hgn
  clear hb hal hgn hg3
  go_wp2_with fail
  refine (HFr.out _ H6.out).mono ?_
  rintro e w7 ⟨rfl, hb⟩
  have H7 := Lib.hid (H6.out.below hb)
  have HG7 := Lib.hid (HG6.out.below hb)
  have HN7 := Lib.hid (HN6.out.below hb)
  clear hb
  go_wp2_with fail
  refine (HIn.out _ H7.out).mono ?_
  rintro e w8 ⟨rfl, hb⟩
  obtain ⟨w9, hs9, hx9, hb9⟩ := ino_fresh w8 rootI
  have hs10 : (inoStore (.pointer (some ⟨w8.heap.size, 0, none⟩)) (.agg #[.int .u8 2, .int .u16 1, .int .u32 0, .int .u16 0, .int .u16 0, .int .u16 0, .int .u16 0, .int .u16 0])).run Tryz.prog (w8.alloc (.cells #[.int .u8 0, .int .u16 0, .int .u32 0, .int .u16 0, .int .u16 0, .int .u16 0, .int .u16 0, .int .u16 0] 41)) = .ok () w9 := hs9
  have H9 := Lib.hid ((H7.out.below hb).below hb9)
  have HG9 := Lib.hid ((HG7.out.below hb).below hb9)
  have HN9 := Lib.hid ((HN7.out.below hb).below hb9)
  have HX9 := Lib.hid hx9
  clear hb hb9 hx9
  go_wp2_with fail
  refine (HTx.out _ H9.out).mono ?_
  rintro e wa ⟨rfl, hb⟩
  have HA9 := Lib.hid (H9.out.below hb)
  have hga := HG9.out.below hb
  have hna := HN9.out.below hb
  have hxa := HX9.out.keep hb
  obtain ⟨g0, g1, g2⟩ := hga.cells
  obtain ⟨n0, n1, n2⟩ := hna.cells
  obtain ⟨x0, x1, x2, x3, x4, x5, x6, x7⟩ := Boxes.cells hxa
  have heq := fun V => eq_im rootI rootI V
  rw [decide_eq_true rfl] at heq
  have heq2 : ∀ V, (Op.equalIn 10000 41 rootI.v (.agg #[.int .u8 2, .int .u16 1, .int .u32 0, .int .u16 0, .int .u16 0, .int .u16 0, .int .u16 0, .int .u16 0])).run Tryz.prog V = .ok true V := heq
  clear hb hga hna hxa heq
  go_wp2_with fail
  refine (HR5.out _).mono ?_
  rintro e wb ⟨rfl, hb⟩
  have HB5 := Lib.hid (HA9.out.below hb)
  clear hb g0 g1 g2 n0 n1 n2 x0 x1 x2 x3 x4 x5 x6 x7
  go_wp2_with fail
  refine (HL.out _).mono ?_
  rintro e wc ⟨rfl, hb⟩
  have HB6 := Lib.hid (HB5.out.below hb)
  clear hb
  go_wp2_with fail
  go_ret
  exact ⟨rfl, HB2.out.trans (HB6.out.all.mono HB2.out.size)⟩
theorem walk_ImageFormat (i b j : Int) (w : World) :
    Calls Tryz.prog 5 #[geoV i b j] w fun e w' => e = .returned (.bool true) ∧ Below w.heap.size w w' := by
  by_cases hm : mayI i b j
  · obtain ⟨G, hG, rfl, rfl, rfl⟩ := mayI_gm hm
    by_cases hl : G.i ≤ 30 ∧ G.b ≤ 60 ∧ G.j ≤ 60
    · exact fmt_small G (sm_of hG hl) w
    · exact fmt_big G hG hl w
  · exact fmt_let i b j w fun V => may_bad i b j V hm
end Go.Proofs.YtnfiapjdkjbdhaaGreat
