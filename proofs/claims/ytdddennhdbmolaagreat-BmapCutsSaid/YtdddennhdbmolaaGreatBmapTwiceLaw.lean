/- Layer 9 (bmap): Twice. Written by tools/genbmaplaw.py. -/
import Derived.Test.YtdddennhdbmolaaGreatBmapKeepsLaw
import Derived.Deep.CutRange
namespace Go.Proofs.YtdddennhdbmolaaGreat
open Go.RowKit Go.Maps Go.Lib
set_option linter.unusedVariables false
set_option linter.unusedSimpArgs false
set_option maxRecDepth 10000
theorem u8_of9 {n : Int} (h : (Lit.int .u8 n).wf = true) : ∃ k : Nat, n = (k : Int) ∧ k < 256 := by
  have : 0 ≤ n ∧ n < 256 := by
    simp [Lit.wf, IntKind.min, IntKind.max, IntKind.signed, IntKind.bits] at h
    omega
  exact ⟨n.toNat, by omega, by omega⟩
theorem cutX_all (x : Im) : cutX x 36 = x := by unfold cutX; rw [if_neg (by omega)]
theorem freeV_all {x : Im} {l : List Nat} (h : Kp x l) : freeV x l 36 = [] := by
  unfold freeV
  rw [List.drop_of_length_le (by rw [vecL_length h.ll]; omega), if_pos (.inr (by omega))]
  rfl
theorem cutX_twice (x : Im) {n m : Nat} (h : n ≤ m) : cutX (cutX x n) m = cutX x n := by
  unfold cutX
  by_cases h4 : n ≤ 4
  · rw [if_pos h4]
    by_cases m4 : m ≤ 4
    · rw [if_pos m4]
      unfold Im.cut
      simp only [Im.mk.injEq]
      refine ⟨trivial, trivial, trivial, ?_, ?_, ?_, ?_, trivial⟩ <;> (repeat' split) <;> first | rfl | omega
    · rw [if_neg m4]
  · rw [if_neg h4, if_neg (by omega)]
theorem cutX_ind {x : Im} (hx : x.i = 16) (n : Nat) : (cutX x n).i = 0 ∨ 4 < n := by
  unfold cutX
  by_cases h4 : n ≤ 4
  · rw [if_pos h4]; exact .inl rfl
  · exact .inr (by omega)
theorem freeV_twice {y : Im} {l V : List Nat} {n m : Nat} (hv : vecL y l = keepV V n) (hi : y.i = 0 ∨ 4 < n) (hV : V.length = 36) (h : n ≤ m) (hn : n ≤ 36) : freeV y l m = [] := by
  unfold freeV
  rw [hv, if_pos (by omega), List.append_nil]
  unfold keepV
  rw [List.drop_append, List.length_take, hV, List.drop_of_length_le (by rw [List.length_take, hV]; omega), List.nil_append, List.drop_replicate]
  apply List.filter_eq_nil_iff.2
  intro z hz
  rw [List.eq_of_mem_replicate hz]
  simp
set_option maxHeartbeats 4000000 in
set_option maxRecDepth 50000 in
theorem walk_BmapTwice (w : World) (v : Value) (l : List BSt) (pages more : Int) (hv : BSteps w v l) (hs : ∀ x ∈ l, fineB x) (hn : l.length ≤ maxLen) (hpg : (Lit.int .u8 pages).wf = true) (hmr : (Lit.int .u8 more).wf = true) :
    Calls Tryz.prog 6 #[v, .int .u8 pages, .int .u8 more] w fun e w' => e = .returned (.bool true) ∧ Below w.heap.size w w' := by
  have HLong := Lib.hid (long9_any v l w hv hs hn)
  obtain ⟨A, cp, rfl, hc⟩ := hv
  have HC := Lib.hid hc
  have HS := Lib.hid hs
  have HAl := Lib.hid (fun V => alive9_any V)
  clear hc hs
  unfold maxLen at hn
  go_enter Tryz.func6, Tryz.ntmps6
  go_wp2_with fail
  refine HLong.out.mono ?_
  rintro e w1 ⟨⟨r, rfl, hr⟩, rfl⟩
  clear HLong
  cases r
  case true =>
    go_wp2_with fail
    refine (HAl.out _).mono ?_
    rintro e w1 ⟨rfl, hb⟩
    have HB := Lib.hid hb
    clear hb
    go_wp2_with fail
    go_ret
    exact ⟨rfl, HB.out⟩
  have hlen := hr rfl
  clear hr
  go_wp2_with fail
  refine (fresh9_any w).mono ?_
  rintro e w2 ⟨b, jb, tb, rfl, h2⟩
  have h3 := h2.geo.ino fr16
  have e1 : (w2.alloc (.cells #[.int .i64 8, .int .i64 16, .int .i64 40] 23)).heap.size = w2.heap.size + 1 := by simp
  rw [e1] at h3
  have h3 : Fr w ((w2.alloc (.cells #[.int .i64 8, .int .i64 16, .int .i64 40] 23)).alloc (.cells #[.int .u8 fr16.k, w16 fr16.n, .int .u32 fr16.z, w16 fr16.d0, w16 fr16.d1, w16 fr16.d2, w16 fr16.d3, w16 fr16.i] 28)) b jb tb (List.replicate 32 0) [geoR w2.heap.size 8 16 40, inoR (w2.heap.size + 1) fr16] := h3
  clear e1 h2
  go_wp2_with fail
  generalize hW : ((w2.alloc (.cells #[.int .i64 8, .int .i64 16, .int .i64 40] 23)).alloc (.cells #[.int .u8 fr16.k, w16 fr16.n, .int .u32 fr16.z, w16 fr16.d0, w16 fr16.d1, w16 fr16.d2, w16 fr16.d3, w16 fr16.i] 28)) = w3 at *
  clear hW
  obtain ⟨g, hg⟩ : ∃ g, g = w2.heap.size := ⟨_, rfl⟩
  rw [← hg] at h3 ⊢
  obtain ⟨q, hq⟩ : ∃ q, q = g + 1 := ⟨_, rfl⟩
  rw [← hq] at h3 ⊢
  have n1 : g ≠ q := by omega
  clear hg hq
  have H3 := Lib.hid h3
  clear h3
  go_loopw [11] (fun i wr => ∃ (k : Nat) (x : Im) (ll : List Nat), k ≤ l.length ∧ i = .int .i64 k ∧ Fr w wr b jb tb ll [geoR g 8 16 40, inoR q x] ∧ Kp x ll ∧ x.i = 16) (fun i _ => l.length - (Go.RowKit.intOf i).toNat)
  case atStart => exact ⟨0, fr16, List.replicate 32 0, Nat.zero_le _, rfl, H3.out, fr16_kp, rfl⟩
  case round =>
    clear H3
    obtain ⟨k, x, ll, hk, rfl, hF, hKp, hxi⟩ := hrel
    have HF := Lib.hid hF
    have HK := Lib.hid hKp
    have HX := Lib.hid hxi
    clear hF hKp hxi
    by_cases hlt : k < l.length
    · obtain ⟨aa, sv, rfl, x0, x1, x2, x3, x4⟩ := HC.out k _ (List.getElem?_eq_getElem hlt)
      have hfine := (HS.out l[k] (List.getElem_mem _)).1
      clear x0 x3 x4
      unfold behind at x1 x2
      generalize l[k] = s at *
      have hkI : (k : Int) < (l.length : Int) := by omega
      obtain ⟨p0, p1, p36⟩ := pageN_any s.page
      obtain ⟨c1, c16⟩ := blockN_any s.b hfine
      have pw : IntKind.i64.wrap (pageN s.page : Int) = (pageN s.page : Int) := IntWalk.i64_in _ (by omega)
      have kk : ∀ V ll qs, Fr w V b jb tb ll (geoR g 8 16 40 :: inoR q x :: qs) → V.cell? ⟨g, 0, none⟩ = some (.int .i64 8) ∧ V.cell? ⟨g, 1, none⟩ = some (.int .i64 16) ∧ V.cell? ⟨g, 2, none⟩ = some (.int .i64 40) ∧ V.cell? ⟨q, 0, none⟩ = some (.int .u8 x.k) ∧ V.cell? ⟨q, 1, none⟩ = some (w16 x.n) ∧ V.cell? ⟨q, 2, none⟩ = some (.int .u32 x.z) ∧ V.cell? ⟨q, 3, none⟩ = some (w16 x.d0) ∧ V.cell? ⟨q, 4, none⟩ = some (w16 x.d1) ∧ V.cell? ⟨q, 5, none⟩ = some (w16 x.d2) ∧ V.cell? ⟨q, 6, none⟩ = some (w16 x.d3) ∧ V.cell? ⟨q, 7, none⟩ = some (w16 x.i) ∧ V.cell? ⟨(aa.add (k * 4)).block, (aa.add (k * 4)).off + 1, none⟩ = some (.int .i64 s.page) ∧ V.cell? ⟨(aa.add (k * 4)).block, (aa.add (k * 4)).off + 2, none⟩ = some (w16 s.b) := fun V ll qs h => by
        obtain ⟨g0, g1, g2⟩ := geo_cells (h.sys.mem (i := 3) rfl)
        obtain ⟨i0, i1, i2, i3, i4, i5, i6, i7⟩ := ino_cells (h.sys.mem (i := 4) rfl)
        exact ⟨g0, g1, g2, i0, i1, i2, i3, i4, i5, i6, i7, (h.sys.all.cell (World.block_lt_of_cell? w _ x1)).trans x1, (h.sys.all.cell (World.block_lt_of_cell? w _ x2)).trans x2⟩
      have kd : ∀ V ll qs, Fr w V b jb tb ll (geoR g 8 16 40 :: inoR q x :: qs) → V.drew.cell? ⟨g, 0, none⟩ = some (.int .i64 8) ∧ V.drew.cell? ⟨g, 1, none⟩ = some (.int .i64 16) ∧ V.drew.cell? ⟨g, 2, none⟩ = some (.int .i64 40) ∧ V.drew.cell? ⟨q, 0, none⟩ = some (.int .u8 x.k) ∧ V.drew.cell? ⟨q, 1, none⟩ = some (w16 x.n) ∧ V.drew.cell? ⟨q, 2, none⟩ = some (.int .u32 x.z) ∧ V.drew.cell? ⟨q, 3, none⟩ = some (w16 x.d0) ∧ V.drew.cell? ⟨q, 4, none⟩ = some (w16 x.d1) ∧ V.drew.cell? ⟨q, 5, none⟩ = some (w16 x.d2) ∧ V.drew.cell? ⟨q, 6, none⟩ = some (w16 x.d3) ∧ V.drew.cell? ⟨q, 7, none⟩ = some (w16 x.i) ∧ V.drew.cell? ⟨(aa.add (k * 4)).block, (aa.add (k * 4)).off + 1, none⟩ = some (.int .i64 s.page) ∧ V.drew.cell? ⟨(aa.add (k * 4)).block, (aa.add (k * 4)).off + 2, none⟩ = some (w16 s.b) := fun V ll qs h => kk _ ll qs (h.below ((Below.refl _ _).drew))
      have kl : ∀ V ll qs o, Fr w V b jb tb ll (geoR g 8 16 40 :: inoR q x :: qs) → (V.alloc o).cell? ⟨g, 0, none⟩ = some (.int .i64 8) ∧ (V.alloc o).cell? ⟨g, 1, none⟩ = some (.int .i64 16) ∧ (V.alloc o).cell? ⟨g, 2, none⟩ = some (.int .i64 40) ∧ (V.alloc o).cell? ⟨q, 0, none⟩ = some (.int .u8 x.k) ∧ (V.alloc o).cell? ⟨q, 1, none⟩ = some (w16 x.n) ∧ (V.alloc o).cell? ⟨q, 2, none⟩ = some (.int .u32 x.z) ∧ (V.alloc o).cell? ⟨q, 3, none⟩ = some (w16 x.d0) ∧ (V.alloc o).cell? ⟨q, 4, none⟩ = some (w16 x.d1) ∧ (V.alloc o).cell? ⟨q, 5, none⟩ = some (w16 x.d2) ∧ (V.alloc o).cell? ⟨q, 6, none⟩ = some (w16 x.d3) ∧ (V.alloc o).cell? ⟨q, 7, none⟩ = some (w16 x.i) ∧ (V.alloc o).cell? ⟨(aa.add (k * 4)).block, (aa.add (k * 4)).off + 1, none⟩ = some (.int .i64 s.page) ∧ (V.alloc o).cell? ⟨(aa.add (k * 4)).block, (aa.add (k * 4)).off + 2, none⟩ = some (w16 s.b) := fun V ll qs o h => kk _ ll qs (h.below ((Below.refl _ _).alloc (Nat.le_refl _) o))
      have km : ∀ V ll qs o, Fr w V b jb tb ll (geoR g 8 16 40 :: inoR q x :: qs) → (V.alloc o).drew.cell? ⟨g, 0, none⟩ = some (.int .i64 8) ∧ (V.alloc o).drew.cell? ⟨g, 1, none⟩ = some (.int .i64 16) ∧ (V.alloc o).drew.cell? ⟨g, 2, none⟩ = some (.int .i64 40) ∧ (V.alloc o).drew.cell? ⟨q, 0, none⟩ = some (.int .u8 x.k) ∧ (V.alloc o).drew.cell? ⟨q, 1, none⟩ = some (w16 x.n) ∧ (V.alloc o).drew.cell? ⟨q, 2, none⟩ = some (.int .u32 x.z) ∧ (V.alloc o).drew.cell? ⟨q, 3, none⟩ = some (w16 x.d0) ∧ (V.alloc o).drew.cell? ⟨q, 4, none⟩ = some (w16 x.d1) ∧ (V.alloc o).drew.cell? ⟨q, 5, none⟩ = some (w16 x.d2) ∧ (V.alloc o).drew.cell? ⟨q, 6, none⟩ = some (w16 x.d3) ∧ (V.alloc o).drew.cell? ⟨q, 7, none⟩ = some (w16 x.i) ∧ (V.alloc o).drew.cell? ⟨(aa.add (k * 4)).block, (aa.add (k * 4)).off + 1, none⟩ = some (.int .i64 s.page) ∧ (V.alloc o).drew.cell? ⟨(aa.add (k * 4)).block, (aa.add (k * 4)).off + 2, none⟩ = some (w16 s.b) := fun V ll qs o h => kk _ ll qs (h.below (((Below.refl _ _).alloc (Nat.le_refl _) o).drew))
      have kf : ∀ V ll (p : Nat) (z y : Im), Fr w V b jb tb ll (geoR g 8 16 40 :: inoR q x :: [inoR p z]) → Fr w ((((((((V.setCell ⟨p, 0, none⟩ (.int .u8 y.k)).setCell ⟨p, 1, none⟩ (w16 y.n)).setCell ⟨p, 2, none⟩ (.int .u32 y.z)).setCell ⟨p, 3, none⟩ (w16 y.d0)).setCell ⟨p, 4, none⟩ (w16 y.d1)).setCell ⟨p, 5, none⟩ (w16 y.d2)).setCell ⟨p, 6, none⟩ (w16 y.d3)).setCell ⟨p, 7, none⟩ (w16 y.i)) b jb tb ll (geoR g 8 16 40 :: inoR q x :: [inoR p y]) := fun V ll p z y h => h.setIno (i := 2) rfl y
      have kt : ∀ V ll (p : Nat) (z y : Im), Fr w V b jb tb ll (geoR g 8 16 40 :: inoR q x :: [inoR p z]) → ((((((((V.setCell ⟨p, 0, none⟩ (.int .u8 y.k)).setCell ⟨p, 1, none⟩ (w16 y.n)).setCell ⟨p, 2, none⟩ (.int .u32 y.z)).setCell ⟨p, 3, none⟩ (w16 y.d0)).setCell ⟨p, 4, none⟩ (w16 y.d1)).setCell ⟨p, 5, none⟩ (w16 y.d2)).setCell ⟨p, 6, none⟩ (w16 y.d3)).setCell ⟨p, 7, none⟩ (w16 y.i)).cell? ⟨g, 0, none⟩ = some (.int .i64 8) ∧ ((((((((V.setCell ⟨p, 0, none⟩ (.int .u8 y.k)).setCell ⟨p, 1, none⟩ (w16 y.n)).setCell ⟨p, 2, none⟩ (.int .u32 y.z)).setCell ⟨p, 3, none⟩ (w16 y.d0)).setCell ⟨p, 4, none⟩ (w16 y.d1)).setCell ⟨p, 5, none⟩ (w16 y.d2)).setCell ⟨p, 6, none⟩ (w16 y.d3)).setCell ⟨p, 7, none⟩ (w16 y.i)).cell? ⟨g, 1, none⟩ = some (.int .i64 16) ∧ ((((((((V.setCell ⟨p, 0, none⟩ (.int .u8 y.k)).setCell ⟨p, 1, none⟩ (w16 y.n)).setCell ⟨p, 2, none⟩ (.int .u32 y.z)).setCell ⟨p, 3, none⟩ (w16 y.d0)).setCell ⟨p, 4, none⟩ (w16 y.d1)).setCell ⟨p, 5, none⟩ (w16 y.d2)).setCell ⟨p, 6, none⟩ (w16 y.d3)).setCell ⟨p, 7, none⟩ (w16 y.i)).cell? ⟨g, 2, none⟩ = some (.int .i64 40) ∧ ((((((((V.setCell ⟨p, 0, none⟩ (.int .u8 y.k)).setCell ⟨p, 1, none⟩ (w16 y.n)).setCell ⟨p, 2, none⟩ (.int .u32 y.z)).setCell ⟨p, 3, none⟩ (w16 y.d0)).setCell ⟨p, 4, none⟩ (w16 y.d1)).setCell ⟨p, 5, none⟩ (w16 y.d2)).setCell ⟨p, 6, none⟩ (w16 y.d3)).setCell ⟨p, 7, none⟩ (w16 y.i)).cell? ⟨q, 0, none⟩ = some (.int .u8 x.k) ∧ ((((((((V.setCell ⟨p, 0, none⟩ (.int .u8 y.k)).setCell ⟨p, 1, none⟩ (w16 y.n)).setCell ⟨p, 2, none⟩ (.int .u32 y.z)).setCell ⟨p, 3, none⟩ (w16 y.d0)).setCell ⟨p, 4, none⟩ (w16 y.d1)).setCell ⟨p, 5, none⟩ (w16 y.d2)).setCell ⟨p, 6, none⟩ (w16 y.d3)).setCell ⟨p, 7, none⟩ (w16 y.i)).cell? ⟨q, 1, none⟩ = some (w16 x.n) ∧ ((((((((V.setCell ⟨p, 0, none⟩ (.int .u8 y.k)).setCell ⟨p, 1, none⟩ (w16 y.n)).setCell ⟨p, 2, none⟩ (.int .u32 y.z)).setCell ⟨p, 3, none⟩ (w16 y.d0)).setCell ⟨p, 4, none⟩ (w16 y.d1)).setCell ⟨p, 5, none⟩ (w16 y.d2)).setCell ⟨p, 6, none⟩ (w16 y.d3)).setCell ⟨p, 7, none⟩ (w16 y.i)).cell? ⟨q, 2, none⟩ = some (.int .u32 x.z) ∧ ((((((((V.setCell ⟨p, 0, none⟩ (.int .u8 y.k)).setCell ⟨p, 1, none⟩ (w16 y.n)).setCell ⟨p, 2, none⟩ (.int .u32 y.z)).setCell ⟨p, 3, none⟩ (w16 y.d0)).setCell ⟨p, 4, none⟩ (w16 y.d1)).setCell ⟨p, 5, none⟩ (w16 y.d2)).setCell ⟨p, 6, none⟩ (w16 y.d3)).setCell ⟨p, 7, none⟩ (w16 y.i)).cell? ⟨q, 3, none⟩ = some (w16 x.d0) ∧ ((((((((V.setCell ⟨p, 0, none⟩ (.int .u8 y.k)).setCell ⟨p, 1, none⟩ (w16 y.n)).setCell ⟨p, 2, none⟩ (.int .u32 y.z)).setCell ⟨p, 3, none⟩ (w16 y.d0)).setCell ⟨p, 4, none⟩ (w16 y.d1)).setCell ⟨p, 5, none⟩ (w16 y.d2)).setCell ⟨p, 6, none⟩ (w16 y.d3)).setCell ⟨p, 7, none⟩ (w16 y.i)).cell? ⟨q, 4, none⟩ = some (w16 x.d1) ∧ ((((((((V.setCell ⟨p, 0, none⟩ (.int .u8 y.k)).setCell ⟨p, 1, none⟩ (w16 y.n)).setCell ⟨p, 2, none⟩ (.int .u32 y.z)).setCell ⟨p, 3, none⟩ (w16 y.d0)).setCell ⟨p, 4, none⟩ (w16 y.d1)).setCell ⟨p, 5, none⟩ (w16 y.d2)).setCell ⟨p, 6, none⟩ (w16 y.d3)).setCell ⟨p, 7, none⟩ (w16 y.i)).cell? ⟨q, 5, none⟩ = some (w16 x.d2) ∧ ((((((((V.setCell ⟨p, 0, none⟩ (.int .u8 y.k)).setCell ⟨p, 1, none⟩ (w16 y.n)).setCell ⟨p, 2, none⟩ (.int .u32 y.z)).setCell ⟨p, 3, none⟩ (w16 y.d0)).setCell ⟨p, 4, none⟩ (w16 y.d1)).setCell ⟨p, 5, none⟩ (w16 y.d2)).setCell ⟨p, 6, none⟩ (w16 y.d3)).setCell ⟨p, 7, none⟩ (w16 y.i)).cell? ⟨q, 6, none⟩ = some (w16 x.d3) ∧ ((((((((V.setCell ⟨p, 0, none⟩ (.int .u8 y.k)).setCell ⟨p, 1, none⟩ (w16 y.n)).setCell ⟨p, 2, none⟩ (.int .u32 y.z)).setCell ⟨p, 3, none⟩ (w16 y.d0)).setCell ⟨p, 4, none⟩ (w16 y.d1)).setCell ⟨p, 5, none⟩ (w16 y.d2)).setCell ⟨p, 6, none⟩ (w16 y.d3)).setCell ⟨p, 7, none⟩ (w16 y.i)).cell? ⟨q, 7, none⟩ = some (w16 x.i) ∧ ((((((((V.setCell ⟨p, 0, none⟩ (.int .u8 y.k)).setCell ⟨p, 1, none⟩ (w16 y.n)).setCell ⟨p, 2, none⟩ (.int .u32 y.z)).setCell ⟨p, 3, none⟩ (w16 y.d0)).setCell ⟨p, 4, none⟩ (w16 y.d1)).setCell ⟨p, 5, none⟩ (w16 y.d2)).setCell ⟨p, 6, none⟩ (w16 y.d3)).setCell ⟨p, 7, none⟩ (w16 y.i)).cell? ⟨(aa.add (k * 4)).block, (aa.add (k * 4)).off + 1, none⟩ = some (.int .i64 s.page) ∧ ((((((((V.setCell ⟨p, 0, none⟩ (.int .u8 y.k)).setCell ⟨p, 1, none⟩ (w16 y.n)).setCell ⟨p, 2, none⟩ (.int .u32 y.z)).setCell ⟨p, 3, none⟩ (w16 y.d0)).setCell ⟨p, 4, none⟩ (w16 y.d1)).setCell ⟨p, 5, none⟩ (w16 y.d2)).setCell ⟨p, 6, none⟩ (w16 y.d3)).setCell ⟨p, 7, none⟩ (w16 y.i)).cell? ⟨(aa.add (k * 4)).block, (aa.add (k * 4)).off + 2, none⟩ = some (w16 s.b) := fun V ll p z y h => kk _ ll _ (kf _ _ _ _ _ h)
      have ky : ∀ V (p : Nat) (z : Im), ∀ {ll}, Fr w V b jb tb ll (geoR g 8 16 40 :: inoR q x :: [inoR p z]) → InoAt V p z := fun V p z ll h => h.sys.mem (i := 5) rfl
      have ka : ∀ V, Fr w V b jb tb ll (geoR g 8 16 40 :: inoR q x :: []) → Fr w (V.alloc (.cells #[.int .u8 0, .int .u16 0, .int .u32 0, .int .u16 0, .int .u16 0, .int .u16 0, .int .u16 0, .int .u16 0] 28)) b jb tb ll (geoR g 8 16 40 :: inoR q x :: [inoR V.heap.size Im.nought]) := fun V h => h.ino Im.nought
      have kb : ∀ V qs, Fr w V b jb tb ll (geoR g 8 16 40 :: inoR q x :: qs) → Fr w V.drew b jb tb ll (geoR g 8 16 40 :: inoR q x :: qs) := fun V qs h => h.below ((Below.refl _ _).drew)
      have kad : ∀ V, Fr w V b jb tb ll (geoR g 8 16 40 :: inoR q x :: []) → Fr w (V.alloc (.cells #[.int .u8 0, .int .u16 0, .int .u32 0, .int .u16 0, .int .u16 0, .int .u16 0, .int .u16 0, .int .u16 0] 28)).drew b jb tb ll (geoR g 8 16 40 :: inoR q x :: [inoR V.heap.size Im.nought]) := fun V h => (ka V h).below ((Below.refl _ _).drew)
      have kn : ∀ V ll (y : Im), Fr w V b jb tb ll (geoR g 8 16 40 :: inoR q x :: []) → Fr w (V.alloc (.cells #[.int .u8 y.k, w16 y.n, .int .u32 y.z, w16 y.d0, w16 y.d1, w16 y.d2, w16 y.d3, w16 y.i] 28)) b jb tb ll (geoR g 8 16 40 :: inoR q x :: [inoR V.heap.size y]) := fun V ll y h => h.ino y
      have ks : ∀ V qs, Fr w V b jb tb ll (geoR g 8 16 40 :: inoR q x :: qs) → Calls Tryz.prog 10 #[devp tb, smallV, x.v, .int .i64 (pageN s.page : Int), w16 (s.b % 16)] V fun e w' => ∃ x' l', e = .returned (.tuple #[x'.v, .int .i64 0]) ∧ Fr w w' b jb tb l' (geoR g 8 16 40 :: inoR q x :: qs) ∧ Kp x' l' ∧ x'.i = 16 := fun V qs h =>
        (fr_set h HK.out HX.out (pageN s.page) (s.b % 16) p36 c16).mono fun e w' hx => by
          obtain ⟨x', l', h1, h2, h3, h4, -⟩ := hx
          exact ⟨x', l', h1, h2, h3, h4⟩
      obtain ⟨g0, g1, g2, i0, i1, i2, i3, i4, i5, i6, i7, y1, y2⟩ := kk _ _ _ HF.out
      have KK := Lib.hid kk
      have KD := Lib.hid kd
      have KL := Lib.hid kl
      have KM := Lib.hid km
      have KF := Lib.hid kf
      have KT := Lib.hid kt
      have KY := Lib.hid ky
      have KA := Lib.hid ka
      have KB := Lib.hid kb
      have KAD := Lib.hid kad
      have KN := Lib.hid kn
      have KS := Lib.hid ks
      clear kk kd kl km kf kt ky ka kb kad kn ks x1 x2 p36 c16 HK HX
      generalize pageN s.page = pn at *
      generalize s.b % 16 = bn at *
      go_upto_region 9 with fail
      go_cut [12, 13] from 35 to 64 (fun s1 s2 wx => ∃ (p : Nat) (x' : Im) (l' : List Nat), s1 = .pointer (some ⟨p, 0, none⟩) ∧ s2 = .int .i64 0 ∧ Fr w wx b jb tb l' (geoR g 8 16 40 :: inoR q x :: [inoR p x']) ∧ Kp x' l' ∧ x'.i = 16)
      case first =>
        go_region_held3 (fun W' => W'.cell? ⟨g, 0, none⟩ = some (.int .i64 8) ∧ W'.cell? ⟨g, 1, none⟩ = some (.int .i64 16) ∧ W'.cell? ⟨g, 2, none⟩ = some (.int .i64 40) ∧ W'.cell? ⟨q, 0, none⟩ = some (.int .u8 x.k) ∧ W'.cell? ⟨q, 1, none⟩ = some (w16 x.n) ∧ W'.cell? ⟨q, 2, none⟩ = some (.int .u32 x.z) ∧ W'.cell? ⟨q, 3, none⟩ = some (w16 x.d0) ∧ W'.cell? ⟨q, 4, none⟩ = some (w16 x.d1) ∧ W'.cell? ⟨q, 5, none⟩ = some (w16 x.d2) ∧ W'.cell? ⟨q, 6, none⟩ = some (w16 x.d3) ∧ W'.cell? ⟨q, 7, none⟩ = some (w16 x.i) ∧ W'.cell? ⟨(aa.add (k * 4)).block, (aa.add (k * 4)).off + 1, none⟩ = some (.int .i64 s.page) ∧ W'.cell? ⟨(aa.add (k * 4)).block, (aa.add (k * 4)).off + 2, none⟩ = some (w16 s.b))
          (first | with_reducible exact ⟨g0, g1, g2, i0, i1, i2, i3, i4, i5, i6, i7, y1, y2⟩ | with_reducible exact KK.out _ _ _ HF.out | with_reducible exact KD.out _ _ _ HF.out | with_reducible exact KL.out _ _ _ _ HF.out | with_reducible exact KM.out _ _ _ _ HF.out | with_reducible exact KT.out _ _ _ _ _ HF.out)
          (first | (go_at_call 10; ((with_reducible refine (KS.out _ _ (by first | with_reducible exact HF.out | with_reducible exact KA.out _ HF.out | with_reducible exact KB.out _ _ HF.out | with_reducible exact KAD.out _ HF.out)).mono ?_); rintro e w4 ⟨x', l', rfl, hF, hk', hi'⟩; have HF := Lib.hid hF; have HK' := Lib.hid hk'; have HI' := Lib.hid hi'; obtain ⟨g0, g1, g2, i0, i1, i2, i3, i4, i5, i6, i7, y1, y2⟩ := KK.out _ _ _ HF.out; (try (obtain ⟨z0, z1, z2, z3, z4, z5, z6, z7⟩ := ino_cells (KY.out _ _ _ HF.out); have fz := ino_frozen (KY.out _ _ _ HF.out))); clear hF hk' hi')))
        all_goals (go_wp2_with fail; go_meet)
        all_goals refine ⟨_, _, _, rfl, rfl, ?_, HK'.out, HI'.out⟩
        all_goals first | with_reducible exact KF.out _ _ _ _ _ HF.out | with_reducible exact KN.out _ _ _ HF.out
      case rest =>
        obtain ⟨p, x', l', rfl, rfl, hF', hk', hi'⟩ := hcut
        have HF' := Lib.hid hF'
        have HK' := Lib.hid hk'
        have HI' := Lib.hid hi'
        obtain ⟨z0, z1, z2, z3, z4, z5, z6, z7⟩ := ino_cells (hF'.sys.mem (i := 5) rfl)
        obtain ⟨i0, i1, i2, i3, i4, i5, i6, i7⟩ := ino_cells (hF'.sys.mem (i := 4) rfl)
        have fy := ino_frozen (hF'.sys.mem (i := 4) rfl)
        have H7 := Lib.hid ((hF'.setIno (i := 1) (p := q) rfl x').take9 2)
        clear hF' hk' hi' HF KK KD KL KM KF KT KY KA KB KAD KN KS
        go_wp2_with fail
        go_roundw
        case rel => exact ⟨k + 1, x', l', by omega, by simp, H7.out, HK'.out, HI'.out⟩
        case measure => simp [Go.RowKit.intOf]; omega
    · obtain rfl : k = l.length := by omega
      obtain ⟨pg, rfl, hpl⟩ := u8_of9 hpg
      obtain ⟨mr, rfl, hml⟩ := u8_of9 hmr
      have t1 : ((pg : Int)).tmod 37 = ((pg % 37 : Nat) : Int) := by rw [Int.tmod_eq_emod_of_nonneg (by omega)]; omega
      obtain ⟨n, hn1⟩ : ∃ n, n = pg % 37 := ⟨_, rfl⟩
      have hn36 : n ≤ 36 := by omega
      rw [← hn1] at t1
      obtain ⟨m, hm1⟩ : ∃ m, m = min (n + mr) 36 := ⟨_, rfl⟩
      have hm36 : m ≤ 36 := by omega
      have hnm : n ≤ m := by omega
      have hmI : min ((n : Int) + (mr : Int)) 36 = (m : Int) := by omega
      clear hn1 hpg hmr
      have h36 := fr_cut HF.out HK.out 36 (by omega)
      rw [cutX_all, freeV_all HK.out] at h36
      have H36 := Lib.hid h36
      obtain ⟨g0, g1, g2⟩ := geo_cells (HF.out.sys.mem (i := 3) rfl)
      obtain ⟨i0, i1, i2, i3, i4, i5, i6, i7⟩ := ino_cells (HF.out.sys.mem (i := 4) rfl)
      clear h36 HF
      go_wp2_with fail
      refine H36.out.mono ?_
      rintro e w5 ⟨v1, l1, rfl, hu1, -, h5, hk5, -⟩
      obtain ⟨A1, cc1, rfl, -⟩ := hu1
      simp only [List.length_nil]
      have h6 := h5.ino x
      obtain ⟨p5, hp5⟩ : ∃ p, p = w5.heap.size := ⟨_, rfl⟩
      rw [← hp5] at h6
      have h6 : Fr w (w5.alloc (.cells #[.int .u8 x.k, w16 x.n, .int .u32 x.z, w16 x.d0, w16 x.d1, w16 x.d2, w16 x.d3, w16 x.i] 28)) b jb tb l1 [geoR g 8 16 40, inoR q x, inoR p5 x] := h6
      clear g0 g1 g2 i0 i1 i2 i3 i4 i5 i6 i7 H36 h5
      obtain ⟨g0, g1, g2⟩ := geo_cells (h6.sys.mem (i := 3) rfl)
      obtain ⟨i0, i1, i2, i3, i4, i5, i6, i7⟩ := ino_cells (h6.sys.mem (i := 4) rfl)
      have hC2 := fr_cut h6 hk5 n hn36
      have hVL := vecL_length (x := x) hk5.ll
      have hyi := cutX_ind HX.out n
      have hyy := cutX_twice x hnm
      generalize cutX x n = y at *
      have H2 := Lib.hid hC2
      have HY := Lib.hid hyy
      have HVL := Lib.hid hVL
      have HYI := Lib.hid hyi
      clear hC2 hyy hVL hyi h6 hk5 HX HK
      go_wp2_with fail
      rw [← hp5]
      clear hp5
      refine H2.out.mono ?_
      rintro e w6 ⟨v2, l2, rfl, -, -, h7, hk7, hv7⟩
      have h8 := h7.ino y
      obtain ⟨p6, hp6⟩ : ∃ p, p = w6.heap.size := ⟨_, rfl⟩
      rw [← hp6] at h8
      have h8 : Fr w (w6.alloc (.cells #[.int .u8 y.k, w16 y.n, .int .u32 y.z, w16 y.d0, w16 y.d1, w16 y.d2, w16 y.d3, w16 y.i] 28)) b jb tb l2 [geoR g 8 16 40, inoR q x, inoR p5 x, inoR p6 y] := h8
      clear g0 g1 g2 i0 i1 i2 i3 i4 i5 i6 i7 H2 h7
      obtain ⟨g0, g1, g2⟩ := geo_cells (h8.sys.mem (i := 3) rfl)
      have hC3 := fr_cut h8 hk7 m hm36
      rw [HY.out, freeV_twice hv7 HYI.out HVL.out hnm hn36] at hC3
      have H3 := Lib.hid hC3
      clear hC3 h8 hk7 hv7 HY HYI HVL
      go_wp2_with fail
      rw [← hp6, ← hm1]
      clear hp6
      refine H3.out.mono ?_
      rintro e w7 ⟨v3, l3, rfl, hu3, -, h9, -, -⟩
      obtain ⟨A3, cc3, rfl, -⟩ := hu3
      simp only [List.length_nil]
      have h10 := h9.ino y
      obtain ⟨p7, hp7⟩ : ∃ p, p = w7.heap.size := ⟨_, rfl⟩
      rw [← hp7] at h10
      have h10 : Fr w (w7.alloc (.cells #[.int .u8 y.k, w16 y.n, .int .u32 y.z, w16 y.d0, w16 y.d1, w16 y.d2, w16 y.d3, w16 y.i] 28)) b jb tb l3 [geoR g 8 16 40, inoR q x, inoR p5 x, inoR p6 y, inoR p7 y] := h10
      clear g0 g1 g2 H3 h9
      obtain ⟨i0, i1, i2, i3, i4, i5, i6, i7⟩ := ino_cells (h10.sys.mem (i := 4) rfl)
      obtain ⟨j0, j1, j2, j3, j4, j5, j6, j7⟩ := ino_cells (h10.sys.mem (i := 5) rfl)
      obtain ⟨k0, k1, k2, k3, k4, k5, k6, k7⟩ := ino_cells (h10.sys.mem (i := 6) rfl)
      have H10 := Lib.hid h10
      have ex : ∀ V, (Op.equalIn 10000 28 x.v x.v).run Tryz.prog V = .ok true V := fun V => by
        have := eq_im x x V
        rwa [decide_eq_true rfl] at this
      have ey : ∀ V, (Op.equalIn 10000 28 y.v y.v).run Tryz.prog V = .ok true V := fun V => by
        have := eq_im y y V
        rwa [decide_eq_true rfl] at this
      clear h10
      go_wp2_with fail
      refine (HAl.out _).mono ?_
      rintro e w8 ⟨rfl, hb⟩
      have H11 := Lib.hid (H10.out.below hb)
      clear hb H10
      go_wp2_with fail
      go_ret
      exact ⟨rfl, H11.out.all⟩
end Go.Proofs.YtdddennhdbmolaaGreat
