/- Layer 11 (image): a directory grows. -/
import Derived.Test.YtnfiapjdkjbdhaaGreatQ16
namespace Go.Proofs.YtnfiapjdkjbdhaaGreat
open Go.RowKit Go.Maps Go.Lib
set_option linter.unusedVariables false
set_option linter.unusedSimpArgs false
set_option maxRecDepth 10000
attribute [local go_sem ↓] ino_store_fold
section
variable {w W : World} {b jb tb mb rec : Nat} {G : Gm} {M : Dv} {L : PutL} {qs : List Res} {im : List UInt8} {tab : Nat → Im}
/-- Whether a longer one's last page could be set. -/
theorem longer_any (h : ISys w W b jb tb mb rec G M L qs) (hd : Disk11 G (vw M.cur L) im tab) {j : Nat} (hj : Rg G j) (hk : (tab j).k ≠ 0) (z : Nat) (hz : z ≤ 2304) (h64 : (tab j).k = 2 → z % 64 = 0) (hge : (tab j).z < z) {y : Im} (hy : y = { tab j with z := z }) :
    Calls Tryz.prog 46 #[devp mb, y.v, .int .i64 ((pagesN z - 1 : Nat) : Int)] W fun e w' => ∃ r, e = .returned (.int .i64 r) ∧ (r = 0 ∨ r = 4) ∧ Below W.heap.size W w' := by
  have hx := hd.own.ino j hj
  have hpz : pagesN (tab j).z ≤ pagesN z := by unfold pagesN; omega
  have hi : (tab j).i = 0 ∨ 256 < z := by
    by_cases h0 : (tab j).i = 0
    · exact .inl h0
    · have hm := hx.may
      unfold Im.may at hm
      rw [if_neg hk] at hm
      rcases hm.2.2.2.2.1 4 (tab j).i (by simp [Im.bl]) with e | e
      · exact absurd e h0
      · exact .inr (by omega)
  have ho := hd.own.size hj z hk hz h64 (fun p hp => hx.zero p (by omega)) hi
  rw [← hy] at ho
  have e : upd tab j y j = y := upd_same _ _ _
  have := settable_any h ho hj (p := pagesN z - 1) (by unfold pagesN; omega) (by rw [e, hy]; unfold pagesN; simp only; omega) (by rw [e, hy]; exact hk)
  rw [e] at this
  exact this.mono fun e w' ⟨r, h1, h2, h3⟩ => ⟨r, h1, h2.imp id (fun x => x.1), h3⟩
set_option maxHeartbeats 4000000 in
theorem grow11_ok (h : ISys w W b jb tb mb rec G M L qs) (hd : Disk11 G (vw M.cur L) im tab) {j : Nat} (hj : Rg G j) (hk : (tab j).k ≠ 0) (z : Nat) (hz : z ≤ 2304) (h64 : (tab j).k = 2 → z % 64 = 0) (hge : (tab j).z < z) :
    Calls Tryz.prog 117 #[devp mb, .int .u32 (j : Int), .int .u32 (z : Int)] W fun e w' => ∃ r L', e = .returned (.int .i64 r) ∧ ResPost G (capL G.j) M.cur im tab j z L L' r ∧ ISys w w' b jb tb mb rec G M L' qs := by
  have hl := live_ok h j hj (tab j) (hd.fits hj) (hd.may hj) (hd.tab.zero hj)
  rw [if_neg hk] at hl
  have HL := Lib.hid hl
  have H := Lib.hid h
  obtain ⟨y, hy⟩ : ∃ y, y = ({ tab j with z := z } : Im) := ⟨_, rfl⟩
  have HRZ := Lib.hid fun V qs' (hV : ISys w V b jb tb mb rec G M L qs') => resizable_ok hV (hd.own.ino j hj).fit11 (hd.own.nd j hj) (hd.bits hj) z hz
  have HRE := Lib.hid fun V qs' (hV : ISys w V b jb tb mb rec G M L qs') => resize_ok hV hd hj hk z hz h64
  have HS := Lib.hid fun V qs' (hV : ISys w V b jb tb mb rec G M L qs') => longer_any hV hd hj hk z hz h64 hge hy
  have HP := Lib.hid fun V => pages_any z V (by omega)
  have hp1 : 1 ≤ pagesN z := by unfold pagesN; omega
  have hp36 : pagesN z ≤ 36 := by unfold pagesN; omega
  have hpw : IntKind.i64.wrap ((pagesN z : Int) - 1) = ((pagesN z - 1 : Nat) : Int) := by rw [IntWalk.i64_in _ (by omega)]; omega
  obtain ⟨x, hxe⟩ : ∃ x, x = tab j := ⟨_, rfl⟩
  rw [← hxe] at HL HRZ HRE hy
  have HY := Lib.hid hy
  generalize pagesN z - 1 = pm at *
  generalize pagesN z = pn at *
  clear h hl hd hk hz h64 hge hxe hy hp1 hp36
  go_enter Tryz.func117, Tryz.ntmps117
  go_wp2_with fail
  refine HL.out.mono ?_
  rintro e w1 ⟨rfl, hb⟩
  obtain ⟨w2, hs1, h2⟩ := (H.out.below hb).fresh x
  have H2 := Lib.hid h2
  obtain ⟨x0, x1, x2, x3, x4, x5, x6, x7⟩ := Boxes.cells (h2.ino0 (i := 0) rfl)
  clear hb h2
  go_wp2_with fail
  refine (HRZ.out _ _ H2.out).mono ?_
  rintro e w3 ⟨rfl, hb⟩
  have H3 := Lib.hid (H2.out.below hb)
  clear x0 x1 x2 x3 x4 x5 x6 x7 hb
  obtain ⟨x0, x1, x2, x3, x4, x5, x6, x7⟩ := Boxes.cells (H3.out.ino0 (i := 0) (p := w1.heap.size) (x := x) rfl)
  obtain ⟨w4, hs4, h4⟩ := H3.out.fresh x
  have H4 := Lib.hid h4
  obtain ⟨y0, y1, y2, y3, y4, y5, y6, y7⟩ := Boxes.cells (h4.ino0 (i := 0) rfl)
  have h5 := h4.setZ (i := 0) rfl z
  have H5 := Lib.hid (show ISys w (w4.setCell ⟨w3.heap.size, 2, none⟩ (.int .u32 (z : Int))) b jb tb mb rec G M L (inoR w3.heap.size y :: inoR w1.heap.size x :: qs) by rw [HY.out]; exact h5)
  have fz := frozen_of_row w4 w3.heap.size 2 _ _ (h4.ino0 (i := 0) rfl)
  clear h4 h5
  go_upto_region 9 with fail
  generalize hW5 : w4.setCell ⟨w3.heap.size, 2, none⟩ (.int .u32 (z : Int)) = w5 at *
  clear hW5 x0 x1 x2 x3 x4 x5 x6 x7 y0 y1 y2 y3 y4 y5 y6 y7 hs1 hs4
  have hbx := H5.out.ino0 (i := 0) (p := w3.heap.size) (x := y) rfl
  obtain ⟨y0, y1, y2, y3, y4, y5, y6, y7⟩ := Boxes.cells hbx
  go_cut [11] from 31 to 36 (fun s11 wx => ∃ r : Int, s11 = .int .i64 r ∧ (r = 0 ∨ r = 4) ∧ ISys w wx b jb tb mb rec G M L (inoR w3.heap.size y :: inoR w1.heap.size x :: qs))
  case first =>
    go_region_held3 (fun W' => W'.cell? ⟨w3.heap.size, 0, none⟩ = some (.int .u8 y.k) ∧ W'.cell? ⟨w3.heap.size, 1, none⟩ = some (w16 y.n) ∧ W'.cell? ⟨w3.heap.size, 2, none⟩ = some (.int .u32 y.z) ∧ W'.cell? ⟨w3.heap.size, 3, none⟩ = some (w16 y.d0) ∧ W'.cell? ⟨w3.heap.size, 4, none⟩ = some (w16 y.d1) ∧ W'.cell? ⟨w3.heap.size, 5, none⟩ = some (w16 y.d2) ∧ W'.cell? ⟨w3.heap.size, 6, none⟩ = some (w16 y.d3) ∧ W'.cell? ⟨w3.heap.size, 7, none⟩ = some (w16 y.i))
      (first | exact ⟨y0, y1, y2, y3, y4, y5, y6, y7⟩ | go_keep)
      (first | (go_at_call 72; ((with_reducible refine (HP.out _).mono ?_); rintro e w1 ⟨rfl, rfl⟩))
             | (go_at_call 46; ((with_reducible refine (HS.out _ _ (by first | with_reducible exact H5.out.drew | with_reducible exact H5.out)).mono ?_); rintro e w6 ⟨r, rfl, hr, hb⟩; have HBq := Lib.hid (below_of_drew hb); have HRr := Lib.hid hr; obtain ⟨y0, y1, y2, y3, y4, y5, y6, y7⟩ := Boxes.cells ((H5.out.below HBq.out).ino0 (i := 0) (p := w3.heap.size) (x := y) rfl); clear hb hr)))
    all_goals (go_wp2_with fail; go_meet)
    all_goals exact ⟨r, rfl, HRr.out, H5.out.below HBq.out⟩
  case rest =>
    obtain ⟨r, rfl, hr, h6⟩ := hcut
    have H6 := Lib.hid h6
    obtain ⟨x0, x1, x2, x3, x4, x5, x6, x7⟩ := Boxes.cells (h6.ino0 (i := 1) (p := w1.heap.size) (x := x) rfl)
    clear h6
    rcases hr with rfl | rfl
    all_goals
      go_wp2_with fail
      refine (HRE.out _ _ H6.out).mono ?_
      rintro e w7 ⟨r, L1, rfl, hp, h7⟩
      have H7 := Lib.hid h7
      have HPo := Lib.hid hp
      clear x0 x1 x2 x3 x4 x5 x6 x7 h7 hp
      go_wp2_with fail
      go_ret
      exact ⟨r, L1, rfl, HPo.out, H7.out.drop.drop⟩
end
end Go.Proofs.YtnfiapjdkjbdhaaGreat
