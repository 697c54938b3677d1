/- Layer 9 (bmap): Cuts. Written by tools/genbmaplaw.py. -/
import Derived.Test.YtdddennhdbmolaaGreatBmapTwiceLaw
import Derived.Deep.CutRange
namespace Go.Proofs.YtdddennhdbmolaaGreat
open Go.RowKit Go.Maps Go.Lib
set_option linter.unusedVariables false
set_option linter.unusedSimpArgs false
set_option maxRecDepth 10000
/-- A map that counts. -/
def QM (W : World) (m : Nat) (c : Nat → Int) : Prop := ∃ f, QMap Tryz.prog 24 .u16 W m 65536 f ∧ ∀ i, (f i).getD (.int .i64 0) = .int .i64 (c i)
theorem zeroInt9 (W : World) : (zeroValue 3).run Tryz.prog W = .ok (.int .i64 0) W := zeroInt W
theorem QM.made (W : World) : QM (W.alloc (.map #[] 0)) W.heap.size (fun _ => 0) := ⟨_, QMap.made W Tryz.prog 24 .u16 65536, fun i => rfl⟩
theorem QM.get {W : World} {m : Nat} {c : Nat → Int} (h : QM W m c) {i : Nat} (hi : i < 65536) : (Instr.lookup 62 (.map (some m)) (.int .u16 (i : Int)) false).run Tryz.prog W = .ok (.int .i64 (c i)) W := by
  obtain ⟨f, h1, h2⟩ := h
  have := h1.look (t := 62) Tryz.underlying24 Tryz.underlying62 (zeroInt9 W) fits_u16 hi
  rwa [h2] at this
theorem QM.put {W : World} {m : Nat} {c : Nat → Int} (h : QM W m c) {i : Nat} (hi : i < 65536) (d : Int) {w4 : World} (hm : w4.heap.size ≤ m) (hb : Below w4.heap.size w4 W) : ∃ W', (Instr.mapUpdate 62 (.map (some m)) (.int .u16 (i : Int)) (.int .i64 d)).run Tryz.prog W = .ok () W' ∧ QM W' m (updQ c i d) ∧ Below w4.heap.size w4 W' := by
  obtain ⟨f, h1, h2⟩ := h
  obtain ⟨W', hr, hq, hg⟩ := h1.store (t := 62) Tryz.underlying24 Tryz.underlying62 (by omega) fits_u16 hi (.int .i64 d)
  refine ⟨W', hr, ⟨_, hq, fun j => ?_⟩, hb.trans ((Only.of_grown (S := fun k => k = m) hg fun q e => by cases e; rfl).below hb.size fun k hk => by rw [hk]; exact hm)⟩
  unfold updQ
  split
  · rfl
  · exact h2 j
theorem cut_counts {x y : Im} {l l2 : List Nat} {n : Nat} (hx : x.i = 16) (hl : l.length = 32) (hn : n ≤ 36) (hy : y = cutX x n) (hv : vecL y l2 = keepV (vecL x l) n) :
    (∀ i, (freeV x l 0).count i = (freeV x l n).count i + (freeV y l2 0).count i) ∧ (freeV x l 0).length = (freeV x l n).length + (freeV y l2 0).length ∧ (freeV x l 0).length ≤ 37 ∧ ((y.i ≠ 0) ↔ 4 < n) := by
  have h36 := vecL_length (x := x) hl
  have hsp : (vecL x l).filter (fun b => b != 0) = ((vecL x l).take n).filter (fun b => b != 0) ++ ((vecL x l).drop n).filter (fun b => b != 0) := by
    rw [← List.filter_append, List.take_append_drop]
  have hz : (vecL y l2).filter (fun b => b != 0) = ((vecL x l).take n).filter (fun b => b != 0) := by
    rw [hv]
    unfold keepV
    rw [List.filter_append]
    have : (List.replicate (36 - n) 0).filter (fun b => b != 0) = [] := by
      apply List.filter_eq_nil_iff.2
      intro z hz
      rw [List.eq_of_mem_replicate hz]
      simp
    rw [this, List.append_nil]
  have hle : ((vecL x l).filter (fun b => b != 0)).length ≤ 36 := by
    have := List.length_filter_le (fun b => b != 0) (vecL x l)
    omega
  have ha : freeV x l 0 = (vecL x l).filter (fun b => b != 0) ++ [16] := by
    unfold freeV
    rw [if_neg (by omega), List.drop_zero, hx]
  by_cases h4 : n ≤ 4
  · have hyi : y.i = 0 := by rw [hy]; unfold cutX; rw [if_pos h4]; rfl
    have hf : freeV x l n = ((vecL x l).drop n).filter (fun b => b != 0) ++ [16] := by
      unfold freeV
      rw [if_neg (by omega), hx]
    have hg : freeV y l2 0 = ((vecL x l).take n).filter (fun b => b != 0) := by
      unfold freeV
      rw [if_pos (.inl hyi), List.drop_zero, hz, List.append_nil]
    rw [ha, hf, hg, hsp]
    rw [hsp, List.length_append] at hle
    refine ⟨fun i => by simp only [List.count_append]; omega, by simp only [List.length_append]; omega, by simp only [List.length_append, List.length_singleton]; omega, by omega⟩
  · have hyx : y = x := by rw [hy]; unfold cutX; rw [if_neg h4]
    have hf : freeV x l n = ((vecL x l).drop n).filter (fun b => b != 0) := by
      unfold freeV
      rw [if_pos (.inr (by omega)), List.append_nil]
    have hg : freeV y l2 0 = ((vecL x l).take n).filter (fun b => b != 0) ++ [16] := by
      unfold freeV
      rw [if_neg (by rw [hyx]; omega), List.drop_zero, hz, hyx, hx]
    rw [ha, hf, hg, hsp]
    rw [hsp, List.length_append] at hle
    refine ⟨fun i => by simp only [List.count_append]; omega, by simp only [List.length_append]; omega, by simp only [List.length_append, List.length_singleton]; omega, by rw [hyx]; omega⟩
theorem keep_tail {y : Im} {l2 V : List Nat} {n p : Nat} (hv : vecL y l2 = keepV V n) (hV : V.length = 36) (hp : n ≤ p) (hn : n ≤ 36) : (vecL y l2).getD p 0 = 0 := by
  rw [hv]
  unfold keepV
  rw [List.getD_eq_getElem?_getD, List.getElem?_append_right (by rw [List.length_take, hV]; omega), List.getElem?_replicate]
  split <;> rfl
theorem count_take {l : List Nat} {k : Nat} (hk : k < l.length) (i : Nat) : ((l.take (k + 1)).count i : Int) = ((l.take k).count i : Int) + if i = l[k] then 1 else 0 := by
  rw [List.take_succ_eq_append_getElem hk, List.count_append, List.count_singleton]
  by_cases e : i = l[k]
  · simp [e]
  · have : ¬ (l[k] = i) := fun h => e h.symm
    simp [e, this]
theorem free_lt {x : Im} {l : List Nat} (h : Kp x l) (n : Nat) : ∀ z ∈ freeV x l n, z < 65536 := by
  intro z hz
  unfold freeV at hz
  rcases List.mem_append.1 hz with h1 | h1
  · have h2 := List.mem_of_mem_drop (List.mem_filter.1 h1).1
    unfold vecL at h2
    rcases List.mem_append.1 h2 with h3 | h3
    · have := h.d0; have := h.d1; have := h.d2; have := h.d3
      unfold Im.dir at h3
      simp only [List.mem_cons, List.mem_nil_iff, or_false] at h3
      omega
    · split at h3
      · rw [List.eq_of_mem_replicate h3]; omega
      · have := h.lt z h3; omega
  · have := h.i
    split at h1
    · cases h1
    · rw [List.mem_singleton.1 h1]; omega
set_option maxHeartbeats 4000000 in
set_option maxRecDepth 50000 in
theorem walk_BmapCuts (w : World) (v : Value) (l : List BSt) (pages : Int) (hv : BSteps w v l) (hs : ∀ x ∈ l, fineB x) (hn : l.length ≤ maxLen) (hpg : (Lit.int .u8 pages).wf = true) :
    Calls Tryz.prog 5 #[v, .int .u8 pages] w fun e w' => e = .returned (.bool true) ∧ Below w.heap.size w w' := by
  have HLong := Lib.hid (long9_any v l w hv hs hn)
  obtain ⟨A, cp, rfl, hc⟩ := hv
  have HC := Lib.hid hc
  have HS := Lib.hid hs
  have HAl := Lib.hid (fun V => alive9_any V)
  clear hc hs
  unfold maxLen at hn
  go_enter Tryz.func5, Tryz.ntmps5
  go_wp2_with fail
  refine HLong.out.mono ?_
  rintro e w1 ⟨⟨r, rfl, hr⟩, rfl⟩
  clear HLong
  cases r
  case true =>
    go_wp2_with fail
    refine (HAl.out _).mono ?_
    rintro e w1 ⟨rfl, hb⟩
    have HB := Lib.hid hb
    clear hb
    go_wp2_with fail
    go_ret
    exact ⟨rfl, HB.out⟩
  have hlen := hr rfl
  clear hr
  go_wp2_with fail
  refine (fresh9_any w).mono ?_
  rintro e w2 ⟨b, jb, tb, rfl, h2⟩
  have h3 := h2.geo.ino fr16
  have e1 : (w2.alloc (.cells #[.int .i64 8, .int .i64 16, .int .i64 40] 23)).heap.size = w2.heap.size + 1 := by simp
  rw [e1] at h3
  have h3 : Fr w ((w2.alloc (.cells #[.int .i64 8, .int .i64 16, .int .i64 40] 23)).alloc (.cells #[.int .u8 fr16.k, w16 fr16.n, .int .u32 fr16.z, w16 fr16.d0, w16 fr16.d1, w16 fr16.d2, w16 fr16.d3, w16 fr16.i] 28)) b jb tb (List.replicate 32 0) [geoR w2.heap.size 8 16 40, inoR (w2.heap.size + 1) fr16] := h3
  clear e1 h2
  go_wp2_with fail
  generalize hW : ((w2.alloc (.cells #[.int .i64 8, .int .i64 16, .int .i64 40] 23)).alloc (.cells #[.int .u8 fr16.k, w16 fr16.n, .int .u32 fr16.z, w16 fr16.d0, w16 fr16.d1, w16 fr16.d2, w16 fr16.d3, w16 fr16.i] 28)) = w3 at *
  clear hW
  obtain ⟨g, hg⟩ : ∃ g, g = w2.heap.size := ⟨_, rfl⟩
  rw [← hg] at h3 ⊢
  obtain ⟨q, hq⟩ : ∃ q, q = g + 1 := ⟨_, rfl⟩
  rw [← hq] at h3 ⊢
  have n1 : g ≠ q := by omega
  clear hg hq
  have H3 := Lib.hid h3
  clear h3
  go_loopw [9] (fun i wr => ∃ (k : Nat) (x : Im) (ll : List Nat), k ≤ l.length ∧ i = .int .i64 k ∧ Fr w wr b jb tb ll [geoR g 8 16 40, inoR q x] ∧ Kp x ll ∧ x.i = 16) (fun i _ => l.length - (Go.RowKit.intOf i).toNat)
  case atStart => exact ⟨0, fr16, List.replicate 32 0, Nat.zero_le _, rfl, H3.out, fr16_kp, rfl⟩
  case round =>
    clear H3
    obtain ⟨k, x, ll, hk, rfl, hF, hKp, hxi⟩ := hrel
    have HF := Lib.hid hF
    have HK := Lib.hid hKp
    have HX := Lib.hid hxi
    clear hF hKp hxi
    by_cases hlt : k < l.length
    · obtain ⟨aa, sv, rfl, x0, x1, x2, x3, x4⟩ := HC.out k _ (List.getElem?_eq_getElem hlt)
      have hfine := (HS.out l[k] (List.getElem_mem _)).1
      clear x0 x3 x4
      unfold behind at x1 x2
      generalize l[k] = s at *
      have hkI : (k : Int) < (l.length : Int) := by omega
      obtain ⟨p0, p1, p36⟩ := pageN_any s.page
      obtain ⟨c1, c16⟩ := blockN_any s.b hfine
      have pw : IntKind.i64.wrap (pageN s.page : Int) = (pageN s.page : Int) := IntWalk.i64_in _ (by omega)
      have kk : ∀ V ll qs, Fr w V b jb tb ll (geoR g 8 16 40 :: inoR q x :: qs) → V.cell? ⟨g, 0, none⟩ = some (.int .i64 8) ∧ V.cell? ⟨g, 1, none⟩ = some (.int .i64 16) ∧ V.cell? ⟨g, 2, none⟩ = some (.int .i64 40) ∧ V.cell? ⟨q, 0, none⟩ = some (.int .u8 x.k) ∧ V.cell? ⟨q, 1, none⟩ = some (w16 x.n) ∧ V.cell? ⟨q, 2, none⟩ = some (.int .u32 x.z) ∧ V.cell? ⟨q, 3, none⟩ = some (w16 x.d0) ∧ V.cell? ⟨q, 4, none⟩ = some (w16 x.d1) ∧ V.cell? ⟨q, 5, none⟩ = some (w16 x.d2) ∧ V.cell? ⟨q, 6, none⟩ = some (w16 x.d3) ∧ V.cell? ⟨q, 7, none⟩ = some (w16 x.i) ∧ V.cell? ⟨(aa.add (k * 4)).block, (aa.add (k * 4)).off + 1, none⟩ = some (.int .i64 s.page) ∧ V.cell? ⟨(aa.add (k * 4)).block, (aa.add (k * 4)).off + 2, none⟩ = some (w16 s.b) := fun V ll qs h => by
        obtain ⟨g0, g1, g2⟩ := geo_cells (h.sys.mem (i := 3) rfl)
        obtain ⟨i0, i1, i2, i3, i4, i5, i6, i7⟩ := ino_cells (h.sys.mem (i := 4) rfl)
        exact ⟨g0, g1, g2, i0, i1, i2, i3, i4, i5, i6, i7, (h.sys.all.cell (World.block_lt_of_cell? w _ x1)).trans x1, (h.sys.all.cell (World.block_lt_of_cell? w _ x2)).trans x2⟩
      have kd : ∀ V ll qs, Fr w V b jb tb ll (geoR g 8 16 40 :: inoR q x :: qs) → V.drew.cell? ⟨g, 0, none⟩ = some (.int .i64 8) ∧ V.drew.cell? ⟨g, 1, none⟩ = some (.int .i64 16) ∧ V.drew.cell? ⟨g, 2, none⟩ = some (.int .i64 40) ∧ V.drew.cell? ⟨q, 0, none⟩ = some (.int .u8 x.k) ∧ V.drew.cell? ⟨q, 1, none⟩ = some (w16 x.n) ∧ V.drew.cell? ⟨q, 2, none⟩ = some (.int .u32 x.z) ∧ V.drew.cell? ⟨q, 3, none⟩ = some (w16 x.d0) ∧ V.drew.cell? ⟨q, 4, none⟩ = some (w16 x.d1) ∧ V.drew.cell? ⟨q, 5, none⟩ = some (w16 x.d2) ∧ V.drew.cell? ⟨q, 6, none⟩ = some (w16 x.d3) ∧ V.drew.cell? ⟨q, 7, none⟩ = some (w16 x.i) ∧ V.drew.cell? ⟨(aa.add (k * 4)).block, (aa.add (k * 4)).off + 1, none⟩ = some (.int .i64 s.page) ∧ V.drew.cell? ⟨(aa.add (k * 4)).block, (aa.add (k * 4)).off + 2, none⟩ = some (w16 s.b) := fun V ll qs h => kk _ ll qs (h.below ((Below.refl _ _).drew))
      have kl : ∀ V ll qs o, Fr w V b jb tb ll (geoR g 8 16 40 :: inoR q x :: qs) → (V.alloc o).cell? ⟨g, 0, none⟩ = some (.int .i64 8) ∧ (V.alloc o).cell? ⟨g, 1, none⟩ = some (.int .i64 16) ∧ (V.alloc o).cell? ⟨g, 2, none⟩ = some (.int .i64 40) ∧ (V.alloc o).cell? ⟨q, 0, none⟩ = some (.int .u8 x.k) ∧ (V.alloc o).cell? ⟨q, 1, none⟩ = some (w16 x.n) ∧ (V.alloc o).cell? ⟨q, 2, none⟩ = some (.int .u32 x.z) ∧ (V.alloc o).cell? ⟨q, 3, none⟩ = some (w16 x.d0) ∧ (V.alloc o).cell? ⟨q, 4, none⟩ = some (w16 x.d1) ∧ (V.alloc o).cell? ⟨q, 5, none⟩ = some (w16 x.d2) ∧ (V.alloc o).cell? ⟨q, 6, none⟩ = some (w16 x.d3) ∧ (V.alloc o).cell? ⟨q, 7, none⟩ = some (w16 x.i) ∧ (V.alloc o).cell? ⟨(aa.add (k * 4)).block, (aa.add (k * 4)).off + 1, none⟩ = some (.int .i64 s.page) ∧ (V.alloc o).cell? ⟨(aa.add (k * 4)).block, (aa.add (k * 4)).off + 2, none⟩ = some (w16 s.b) := fun V ll qs o h => kk _ ll qs (h.below ((Below.refl _ _).alloc (Nat.le_refl _) o))
      have km : ∀ V ll qs o, Fr w V b jb tb ll (geoR g 8 16 40 :: inoR q x :: qs) → (V.alloc o).drew.cell? ⟨g, 0, none⟩ = some (.int .i64 8) ∧ (V.alloc o).drew.cell? ⟨g, 1, none⟩ = some (.int .i64 16) ∧ (V.alloc o).drew.cell? ⟨g, 2, none⟩ = some (.int .i64 40) ∧ (V.alloc o).drew.cell? ⟨q, 0, none⟩ = some (.int .u8 x.k) ∧ (V.alloc o).drew.cell? ⟨q, 1, none⟩ = some (w16 x.n) ∧ (V.alloc o).drew.cell? ⟨q, 2, none⟩ = some (.int .u32 x.z) ∧ (V.alloc o).drew.cell? ⟨q, 3, none⟩ = some (w16 x.d0) ∧ (V.alloc o).drew.cell? ⟨q, 4, none⟩ = some (w16 x.d1) ∧ (V.alloc o).drew.cell? ⟨q, 5, none⟩ = some (w16 x.d2) ∧ (V.alloc o).drew.cell? ⟨q, 6, none⟩ = some (w16 x.d3) ∧ (V.alloc o).drew.cell? ⟨q, 7, none⟩ = some (w16 x.i) ∧ (V.alloc o).drew.cell? ⟨(aa.add (k * 4)).block, (aa.add (k * 4)).off + 1, none⟩ = some (.int .i64 s.page) ∧ (V.alloc o).drew.cell? ⟨(aa.add (k * 4)).block, (aa.add (k * 4)).off + 2, none⟩ = some (w16 s.b) := fun V ll qs o h => kk _ ll qs (h.below (((Below.refl _ _).alloc (Nat.le_refl _) o).drew))
      have kf : ∀ V ll (p : Nat) (z y : Im), Fr w V b jb tb ll (geoR g 8 16 40 :: inoR q x :: [inoR p z]) → Fr w ((((((((V.setCell ⟨p, 0, none⟩ (.int .u8 y.k)).setCell ⟨p, 1, none⟩ (w16 y.n)).setCell ⟨p, 2, none⟩ (.int .u32 y.z)).setCell ⟨p, 3, none⟩ (w16 y.d0)).setCell ⟨p, 4, none⟩ (w16 y.d1)).setCell ⟨p, 5, none⟩ (w16 y.d2)).setCell ⟨p, 6, none⟩ (w16 y.d3)).setCell ⟨p, 7, none⟩ (w16 y.i)) b jb tb ll (geoR g 8 16 40 :: inoR q x :: [inoR p y]) := fun V ll p z y h => h.setIno (i := 2) rfl y
      have kt : ∀ V ll (p : Nat) (z y : Im), Fr w V b jb tb ll (geoR g 8 16 40 :: inoR q x :: [inoR p z]) → ((((((((V.setCell ⟨p, 0, none⟩ (.int .u8 y.k)).setCell ⟨p, 1, none⟩ (w16 y.n)).setCell ⟨p, 2, none⟩ (.int .u32 y.z)).setCell ⟨p, 3, none⟩ (w16 y.d0)).setCell ⟨p, 4, none⟩ (w16 y.d1)).setCell ⟨p, 5, none⟩ (w16 y.d2)).setCell ⟨p, 6, none⟩ (w16 y.d3)).setCell ⟨p, 7, none⟩ (w16 y.i)).cell? ⟨g, 0, none⟩ = some (.int .i64 8) ∧ ((((((((V.setCell ⟨p, 0, none⟩ (.int .u8 y.k)).setCell ⟨p, 1, none⟩ (w16 y.n)).setCell ⟨p, 2, none⟩ (.int .u32 y.z)).setCell ⟨p, 3, none⟩ (w16 y.d0)).setCell ⟨p, 4, none⟩ (w16 y.d1)).setCell ⟨p, 5, none⟩ (w16 y.d2)).setCell ⟨p, 6, none⟩ (w16 y.d3)).setCell ⟨p, 7, none⟩ (w16 y.i)).cell? ⟨g, 1, none⟩ = some (.int .i64 16) ∧ ((((((((V.setCell ⟨p, 0, none⟩ (.int .u8 y.k)).setCell ⟨p, 1, none⟩ (w16 y.n)).setCell ⟨p, 2, none⟩ (.int .u32 y.z)).setCell ⟨p, 3, none⟩ (w16 y.d0)).setCell ⟨p, 4, none⟩ (w16 y.d1)).setCell ⟨p, 5, none⟩ (w16 y.d2)).setCell ⟨p, 6, none⟩ (w16 y.d3)).setCell ⟨p, 7, none⟩ (w16 y.i)).cell? ⟨g, 2, none⟩ = some (.int .i64 40) ∧ ((((((((V.setCell ⟨p, 0, none⟩ (.int .u8 y.k)).setCell ⟨p, 1, none⟩ (w16 y.n)).setCell ⟨p, 2, none⟩ (.int .u32 y.z)).setCell ⟨p, 3, none⟩ (w16 y.d0)).setCell ⟨p, 4, none⟩ (w16 y.d1)).setCell ⟨p, 5, none⟩ (w16 y.d2)).setCell ⟨p, 6, none⟩ (w16 y.d3)).setCell ⟨p, 7, none⟩ (w16 y.i)).cell? ⟨q, 0, none⟩ = some (.int .u8 x.k) ∧ ((((((((V.setCell ⟨p, 0, none⟩ (.int .u8 y.k)).setCell ⟨p, 1, none⟩ (w16 y.n)).setCell ⟨p, 2, none⟩ (.int .u32 y.z)).setCell ⟨p, 3, none⟩ (w16 y.d0)).setCell ⟨p, 4, none⟩ (w16 y.d1)).setCell ⟨p, 5, none⟩ (w16 y.d2)).setCell ⟨p, 6, none⟩ (w16 y.d3)).setCell ⟨p, 7, none⟩ (w16 y.i)).cell? ⟨q, 1, none⟩ = some (w16 x.n) ∧ ((((((((V.setCell ⟨p, 0, none⟩ (.int .u8 y.k)).setCell ⟨p, 1, none⟩ (w16 y.n)).setCell ⟨p, 2, none⟩ (.int .u32 y.z)).setCell ⟨p, 3, none⟩ (w16 y.d0)).setCell ⟨p, 4, none⟩ (w16 y.d1)).setCell ⟨p, 5, none⟩ (w16 y.d2)).setCell ⟨p, 6, none⟩ (w16 y.d3)).setCell ⟨p, 7, none⟩ (w16 y.i)).cell? ⟨q, 2, none⟩ = some (.int .u32 x.z) ∧ ((((((((V.setCell ⟨p, 0, none⟩ (.int .u8 y.k)).setCell ⟨p, 1, none⟩ (w16 y.n)).setCell ⟨p, 2, none⟩ (.int .u32 y.z)).setCell ⟨p, 3, none⟩ (w16 y.d0)).setCell ⟨p, 4, none⟩ (w16 y.d1)).setCell ⟨p, 5, none⟩ (w16 y.d2)).setCell ⟨p, 6, none⟩ (w16 y.d3)).setCell ⟨p, 7, none⟩ (w16 y.i)).cell? ⟨q, 3, none⟩ = some (w16 x.d0) ∧ ((((((((V.setCell ⟨p, 0, none⟩ (.int .u8 y.k)).setCell ⟨p, 1, none⟩ (w16 y.n)).setCell ⟨p, 2, none⟩ (.int .u32 y.z)).setCell ⟨p, 3, none⟩ (w16 y.d0)).setCell ⟨p, 4, none⟩ (w16 y.d1)).setCell ⟨p, 5, none⟩ (w16 y.d2)).setCell ⟨p, 6, none⟩ (w16 y.d3)).setCell ⟨p, 7, none⟩ (w16 y.i)).cell? ⟨q, 4, none⟩ = some (w16 x.d1) ∧ ((((((((V.setCell ⟨p, 0, none⟩ (.int .u8 y.k)).setCell ⟨p, 1, none⟩ (w16 y.n)).setCell ⟨p, 2, none⟩ (.int .u32 y.z)).setCell ⟨p, 3, none⟩ (w16 y.d0)).setCell ⟨p, 4, none⟩ (w16 y.d1)).setCell ⟨p, 5, none⟩ (w16 y.d2)).setCell ⟨p, 6, none⟩ (w16 y.d3)).setCell ⟨p, 7, none⟩ (w16 y.i)).cell? ⟨q, 5, none⟩ = some (w16 x.d2) ∧ ((((((((V.setCell ⟨p, 0, none⟩ (.int .u8 y.k)).setCell ⟨p, 1, none⟩ (w16 y.n)).setCell ⟨p, 2, none⟩ (.int .u32 y.z)).setCell ⟨p, 3, none⟩ (w16 y.d0)).setCell ⟨p, 4, none⟩ (w16 y.d1)).setCell ⟨p, 5, none⟩ (w16 y.d2)).setCell ⟨p, 6, none⟩ (w16 y.d3)).setCell ⟨p, 7, none⟩ (w16 y.i)).cell? ⟨q, 6, none⟩ = some (w16 x.d3) ∧ ((((((((V.setCell ⟨p, 0, none⟩ (.int .u8 y.k)).setCell ⟨p, 1, none⟩ (w16 y.n)).setCell ⟨p, 2, none⟩ (.int .u32 y.z)).setCell ⟨p, 3, none⟩ (w16 y.d0)).setCell ⟨p, 4, none⟩ (w16 y.d1)).setCell ⟨p, 5, none⟩ (w16 y.d2)).setCell ⟨p, 6, none⟩ (w16 y.d3)).setCell ⟨p, 7, none⟩ (w16 y.i)).cell? ⟨q, 7, none⟩ = some (w16 x.i) ∧ ((((((((V.setCell ⟨p, 0, none⟩ (.int .u8 y.k)).setCell ⟨p, 1, none⟩ (w16 y.n)).setCell ⟨p, 2, none⟩ (.int .u32 y.z)).setCell ⟨p, 3, none⟩ (w16 y.d0)).setCell ⟨p, 4, none⟩ (w16 y.d1)).setCell ⟨p, 5, none⟩ (w16 y.d2)).setCell ⟨p, 6, none⟩ (w16 y.d3)).setCell ⟨p, 7, none⟩ (w16 y.i)).cell? ⟨(aa.add (k * 4)).block, (aa.add (k * 4)).off + 1, none⟩ = some (.int .i64 s.page) ∧ ((((((((V.setCell ⟨p, 0, none⟩ (.int .u8 y.k)).setCell ⟨p, 1, none⟩ (w16 y.n)).setCell ⟨p, 2, none⟩ (.int .u32 y.z)).setCell ⟨p, 3, none⟩ (w16 y.d0)).setCell ⟨p, 4, none⟩ (w16 y.d1)).setCell ⟨p, 5, none⟩ (w16 y.d2)).setCell ⟨p, 6, none⟩ (w16 y.d3)).setCell ⟨p, 7, none⟩ (w16 y.i)).cell? ⟨(aa.add (k * 4)).block, (aa.add (k * 4)).off + 2, none⟩ = some (w16 s.b) := fun V ll p z y h => kk _ ll _ (kf _ _ _ _ _ h)
      have ky : ∀ V (p : Nat) (z : Im), ∀ {ll}, Fr w V b jb tb ll (geoR g 8 16 40 :: inoR q x :: [inoR p z]) → InoAt V p z := fun V p z ll h => h.sys.mem (i := 5) rfl
      have ka : ∀ V, Fr w V b jb tb ll (geoR g 8 16 40 :: inoR q x :: []) → Fr w (V.alloc (.cells #[.int .u8 0, .int .u16 0, .int .u32 0, .int .u16 0, .int .u16 0, .int .u16 0, .int .u16 0, .int .u16 0] 28)) b jb tb ll (geoR g 8 16 40 :: inoR q x :: [inoR V.heap.size Im.nought]) := fun V h => h.ino Im.nought
      have kb : ∀ V qs, Fr w V b jb tb ll (geoR g 8 16 40 :: inoR q x :: qs) → Fr w V.drew b jb tb ll (geoR g 8 16 40 :: inoR q x :: qs) := fun V qs h => h.below ((Below.refl _ _).drew)
      have kad : ∀ V, Fr w V b jb tb ll (geoR g 8 16 40 :: inoR q x :: []) → Fr w (V.alloc (.cells #[.int .u8 0, .int .u16 0, .int .u32 0, .int .u16 0, .int .u16 0, .int .u16 0, .int .u16 0, .int .u16 0] 28)).drew b jb tb ll (geoR g 8 16 40 :: inoR q x :: [inoR V.heap.size Im.nought]) := fun V h => (ka V h).below ((Below.refl _ _).drew)
      have kn : ∀ V ll (y : Im), Fr w V b jb tb ll (geoR g 8 16 40 :: inoR q x :: []) → Fr w (V.alloc (.cells #[.int .u8 y.k, w16 y.n, .int .u32 y.z, w16 y.d0, w16 y.d1, w16 y.d2, w16 y.d3, w16 y.i] 28)) b jb tb ll (geoR g 8 16 40 :: inoR q x :: [inoR V.heap.size y]) := fun V ll y h => h.ino y
      have ks : ∀ V qs, Fr w V b jb tb ll (geoR g 8 16 40 :: inoR q x :: qs) → Calls Tryz.prog 10 #[devp tb, smallV, x.v, .int .i64 (pageN s.page : Int), w16 (s.b % 16)] V fun e w' => ∃ x' l', e = .returned (.tuple #[x'.v, .int .i64 0]) ∧ Fr w w' b jb tb l' (geoR g 8 16 40 :: inoR q x :: qs) ∧ Kp x' l' ∧ x'.i = 16 := fun V qs h =>
        (fr_set h HK.out HX.out (pageN s.page) (s.b % 16) p36 c16).mono fun e w' hx => by
          obtain ⟨x', l', h1, h2, h3, h4, -⟩ := hx
          exact ⟨x', l', h1, h2, h3, h4⟩
      obtain ⟨g0, g1, g2, i0, i1, i2, i3, i4, i5, i6, i7, y1, y2⟩ := kk _ _ _ HF.out
      have KK := Lib.hid kk
      have KD := Lib.hid kd
      have KL := Lib.hid kl
      have KM := Lib.hid km
      have KF := Lib.hid kf
      have KT := Lib.hid kt
      have KY := Lib.hid ky
      have KA := Lib.hid ka
      have KB := Lib.hid kb
      have KAD := Lib.hid kad
      have KN := Lib.hid kn
      have KS := Lib.hid ks
      clear kk kd kl km kf kt ky ka kb kad kn ks x1 x2 p36 c16 HK HX
      generalize pageN s.page = pn at *
      generalize s.b % 16 = bn at *
      go_upto_region 9 with fail
      go_cut [10, 11] from 39 to 68 (fun s1 s2 wx => ∃ (p : Nat) (x' : Im) (l' : List Nat), s1 = .pointer (some ⟨p, 0, none⟩) ∧ s2 = .int .i64 0 ∧ Fr w wx b jb tb l' (geoR g 8 16 40 :: inoR q x :: [inoR p x']) ∧ Kp x' l' ∧ x'.i = 16)
      case first =>
        go_region_held3 (fun W' => W'.cell? ⟨g, 0, none⟩ = some (.int .i64 8) ∧ W'.cell? ⟨g, 1, none⟩ = some (.int .i64 16) ∧ W'.cell? ⟨g, 2, none⟩ = some (.int .i64 40) ∧ W'.cell? ⟨q, 0, none⟩ = some (.int .u8 x.k) ∧ W'.cell? ⟨q, 1, none⟩ = some (w16 x.n) ∧ W'.cell? ⟨q, 2, none⟩ = some (.int .u32 x.z) ∧ W'.cell? ⟨q, 3, none⟩ = some (w16 x.d0) ∧ W'.cell? ⟨q, 4, none⟩ = some (w16 x.d1) ∧ W'.cell? ⟨q, 5, none⟩ = some (w16 x.d2) ∧ W'.cell? ⟨q, 6, none⟩ = some (w16 x.d3) ∧ W'.cell? ⟨q, 7, none⟩ = some (w16 x.i) ∧ W'.cell? ⟨(aa.add (k * 4)).block, (aa.add (k * 4)).off + 1, none⟩ = some (.int .i64 s.page) ∧ W'.cell? ⟨(aa.add (k * 4)).block, (aa.add (k * 4)).off + 2, none⟩ = some (w16 s.b))
          (first | with_reducible exact ⟨g0, g1, g2, i0, i1, i2, i3, i4, i5, i6, i7, y1, y2⟩ | with_reducible exact KK.out _ _ _ HF.out | with_reducible exact KD.out _ _ _ HF.out | with_reducible exact KL.out _ _ _ _ HF.out | with_reducible exact KM.out _ _ _ _ HF.out | with_reducible exact KT.out _ _ _ _ _ HF.out)
          (first | (go_at_call 10; ((with_reducible refine (KS.out _ _ (by first | with_reducible exact HF.out | with_reducible exact KA.out _ HF.out | with_reducible exact KB.out _ _ HF.out | with_reducible exact KAD.out _ HF.out)).mono ?_); rintro e w4 ⟨x', l', rfl, hF, hk', hi'⟩; have HF := Lib.hid hF; have HK' := Lib.hid hk'; have HI' := Lib.hid hi'; obtain ⟨g0, g1, g2, i0, i1, i2, i3, i4, i5, i6, i7, y1, y2⟩ := KK.out _ _ _ HF.out; (try (obtain ⟨z0, z1, z2, z3, z4, z5, z6, z7⟩ := ino_cells (KY.out _ _ _ HF.out); have fz := ino_frozen (KY.out _ _ _ HF.out))); clear hF hk' hi')))
        all_goals (go_wp2_with fail; go_meet)
        all_goals refine ⟨_, _, _, rfl, rfl, ?_, HK'.out, HI'.out⟩
        all_goals first | with_reducible exact KF.out _ _ _ _ _ HF.out | with_reducible exact KN.out _ _ _ HF.out
      case rest =>
        obtain ⟨p, x', l', rfl, rfl, hF', hk', hi'⟩ := hcut
        have HF' := Lib.hid hF'
        have HK' := Lib.hid hk'
        have HI' := Lib.hid hi'
        obtain ⟨z0, z1, z2, z3, z4, z5, z6, z7⟩ := ino_cells (hF'.sys.mem (i := 5) rfl)
        obtain ⟨i0, i1, i2, i3, i4, i5, i6, i7⟩ := ino_cells (hF'.sys.mem (i := 4) rfl)
        have fy := ino_frozen (hF'.sys.mem (i := 4) rfl)
        have H7 := Lib.hid ((hF'.setIno (i := 1) (p := q) rfl x').take9 2)
        clear hF' hk' hi' HF KK KD KL KM KF KT KY KA KB KAD KN KS
        go_wp2_with fail
        go_roundw
        case rel => exact ⟨k + 1, x', l', by omega, by simp, H7.out, HK'.out, HI'.out⟩
        case measure => simp [Go.RowKit.intOf]; omega
    · obtain rfl : k = l.length := by omega
      obtain ⟨pg, rfl, hpl⟩ := u8_of9 hpg
      have t1 : ((pg : Int)).tmod 37 = ((pg % 37 : Nat) : Int) := by rw [Int.tmod_eq_emod_of_nonneg (by omega)]; omega
      obtain ⟨n, hn1⟩ : ∃ n, n = pg % 37 := ⟨_, rfl⟩
      have hn36 : n ≤ 36 := by omega
      rw [← hn1] at t1
      clear hn1 hpg
      have HA := Lib.hid (fr_all HF.out HK.out)
      obtain ⟨g0, g1, g2⟩ := geo_cells (HF.out.sys.mem (i := 3) rfl)
      obtain ⟨i0, i1, i2, i3, i4, i5, i6, i7⟩ := ino_cells (HF.out.sys.mem (i := 4) rfl)
      go_wp2_with fail
      refine HA.out.mono ?_
      rintro e w5 ⟨va, rfl, hua, hb⟩
      have H5 := Lib.hid (HF.out.below hb)
      have HUA := Lib.hid hua
      clear g0 g1 g2 i0 i1 i2 i3 i4 i5 i6 i7 HA hb HF hua
      obtain ⟨g0, g1, g2⟩ := geo_cells (H5.out.sys.mem (i := 3) rfl)
      obtain ⟨i0, i1, i2, i3, i4, i5, i6, i7⟩ := ino_cells (H5.out.sys.mem (i := 4) rfl)
      have HCut := Lib.hid (fr_cut H5.out HK.out n hn36)
      go_wp2_with fail
      refine HCut.out.mono ?_
      rintro e w6 ⟨vf, l2, rfl, huf, hkeep, h6, hk6, hv6⟩
      have hua := hkeep _ _ HUA.out
      obtain ⟨y, hy⟩ : ∃ y, y = cutX x n := ⟨_, rfl⟩
      rw [← hy] at hk6 hv6 ⊢
      obtain ⟨cc1, cc2, cc3, cc4⟩ := cut_counts HX.out HK.out.ll hn36 hy hv6
      have hEnd := fun p (hp : n ≤ p) => keep_tail hv6 (vecL_length HK.out.ll) hp hn36
      have hLa := free_lt HK.out 0
      have hLf := free_lt HK.out n
      have hLg := free_lt hk6 0
      have h7 := h6.ino y
      obtain ⟨p7, hp7⟩ : ∃ p, p = w6.heap.size := ⟨_, rfl⟩
      rw [← hp7] at h7
      have h7 : Fr w (w6.alloc (.cells #[.int .u8 y.k, w16 y.n, .int .u32 y.z, w16 y.d0, w16 y.d1, w16 y.d2, w16 y.d3, w16 y.i] 28)) b jb tb l2 [geoR g 8 16 40, inoR q x, inoR p7 y] := h7
      have HAll := Lib.hid (fr_all h7 hk6)
      have HUA := Lib.hid (hua.below9 ((Below.refl _ _).alloc (Nat.le_refl _) (.cells #[.int .u8 y.k, w16 y.n, .int .u32 y.z, w16 y.d0, w16 y.d1, w16 y.d2, w16 y.d3, w16 y.i] 28)))
      have HUF := Lib.hid (huf.below9 ((Below.refl _ _).alloc (Nat.le_refl _) (.cells #[.int .u8 y.k, w16 y.n, .int .u32 y.z, w16 y.d0, w16 y.d1, w16 y.d2, w16 y.d3, w16 y.i] 28)))
      clear g0 g1 g2 i0 i1 i2 i3 i4 i5 i6 i7 HCut hkeep h6 hua huf hy H5
      generalize freeV x ll 0 = La at *
      generalize freeV x ll n = Lf at *
      generalize freeV y l2 0 = Lg at *
      obtain ⟨g0, g1, g2⟩ := geo_cells (h7.sys.mem (i := 3) rfl)
      have H7 := Lib.hid h7
      have HK6 := Lib.hid hk6
      have C1 := Lib.hid cc1
      have HEnd := Lib.hid hEnd
      have Lat := Lib.hid hLa
      have Lft := Lib.hid hLf
      have Lgt := Lib.hid hLg
      clear cc1 hEnd h7 hk6 hLa hLf hLg hv6 HK HX
      go_wp2_with fail
      rw [← hp7]
      clear hp7
      refine HAll.out.mono ?_
      rintro e w8 ⟨vg, rfl, hug, hb⟩
      have H8 := Lib.hid (H7.out.below hb)
      have hua := HUA.out.below9 hb
      have huf := HUF.out.below9 hb
      clear g0 g1 g2 HAll H7 HUA HUF hb
      obtain ⟨Aa, ca, rfl, ha⟩ := hua
      obtain ⟨Af, cf, rfl, hf⟩ := huf
      obtain ⟨Ag, cg, rfl, hgg⟩ := hug
      have Ha := Lib.hid ha
      have Hf := Lib.hid hf
      have Hg := Lib.hid hgg
      clear ha hf hgg
      obtain ⟨j0, j1, j2, j3, j4, j5, j6, j7⟩ := ino_cells (H8.out.sys.mem (i := 5) rfl)
      have hs : (Lf.length : Int) + (Lg.length : Int) = (La.length : Int) := by omega
      have hl1 : Lf.length ≤ 37 := by omega
      have hl2 : Lg.length ≤ 37 := by omega
      obtain ⟨bb, hbb⟩ : ∃ bb, bb = decide ((4 : Int) < (n : Int)) := ⟨_, rfl⟩
      have hyb : ((y.i : Int) != 0) = bb := by
        rw [hbb, Bool.eq_iff_iff, decide_eq_true_iff, bne_iff_ne]; omega
      have hbb' := hbb.symm
      clear hbb cc4 cc2
      have hmm := @run_makeMap Tryz.prog
      go_wp2_with fail
      clear hmm j0 j1 j2 j3 j4 j5 j6 j7 hyb hbb' hs
      go_loopw [21] (fun i wr => ∃ k : Nat, k ≤ La.length ∧ i = .int .i64 k ∧ QM wr w8.heap.size (fun i => ((La.take k).count i : Int)) ∧ Below w8.heap.size w8 wr) (fun i _ => La.length - (Go.RowKit.intOf i).toNat)
      case atStart => exact ⟨0, Nat.zero_le _, rfl, QM.made w8, (Below.refl _ _).alloc (Nat.le_refl _) _⟩
      case round =>
        obtain ⟨k, hk, rfl, hq, hb⟩ := hrel
        by_cases hlt : k < La.length
        · have hcc3 := cc3
          obtain ⟨aa, rfl, hcell⟩ := Ha.out k _ (List.getElem?_eq_getElem hlt)
          have hz := Lat.out La[k] (List.getElem_mem _)
          have hct := count_take hlt
          have hcw := (hb.cell (World.block_lt_of_cell? w8 _ hcell)).trans hcell
          have hle := List.count_le_length (a := La[k]) (l := La.take k)
          have hle1 := List.length_take_le k La
          have hle2 := List.count_le_length (a := La[k]) (l := La)
          have hle3 := List.count_le_length (a := La[k]) (l := Lf)
          have hkI : (k : Int) < (La.length : Int) := by omega
          have q1 := hq.get hz
          obtain ⟨W', r7, s7, b7⟩ := hq.put hz (((La.take k).count La[k] : Int) + 1) (Nat.le_refl _) hb
          have hbd : -100 ≤ ((La.take k).count La[k] : Int) ∧ ((La.take k).count La[k] : Int) ≤ 100 := by omega
          have hfin : QM W' w8.heap.size (fun i => ((La.take (k + 1)).count i : Int)) := by
            have e : updQ (fun i => ((La.take k).count i : Int)) La[k] (((La.take k).count La[k] : Int) + 1) = fun i => ((La.take (k + 1)).count i : Int) := by
              funext i
              have := hct i
              unfold updQ
              split
              · rename_i e; subst e; rw [if_pos rfl] at this; (try simp only); omega
              · rename_i e; rw [if_neg e] at this; (try simp only); omega
            rw [← e]; exact s7
          have HFin := Lib.hid hfin
          have HB7 := Lib.hid b7
          clear hfin s7 b7 hcell hct hle hle1 hle2 hle3 hq hb
          try simp only at q1 r7
          generalize ((La.take k).count La[k] : Int) = cz at *
          generalize La[k] = z at *
          go_wp2_with fail
          go_roundw
          case rel => exact ⟨k + 1, by omega, by simp, HFin.out, HB7.out⟩
          case measure => simp [Go.RowKit.intOf]; omega
        · obtain rfl : k = La.length := by omega
          rw [List.take_length] at hq
          have HQ1 := Lib.hid hq
          have HB1 := Lib.hid hb
          clear hq hb
          go_wp2_with fail
          go_loopw [22] (fun i wr => ∃ k : Nat, k ≤ Lf.length ∧ i = .int .i64 k ∧ QM wr w8.heap.size (fun i => ((La.count i : Int) - ((Lf.take k).count i : Int))) ∧ Below w8.heap.size w8 wr) (fun i _ => Lf.length - (Go.RowKit.intOf i).toNat)
          case atStart => exact ⟨0, Nat.zero_le _, rfl, by simpa using HQ1.out, HB1.out⟩
          case round =>
            clear HQ1 HB1
            obtain ⟨k, hk, rfl, hq, hb⟩ := hrel
            by_cases hlt : k < Lf.length
            · have hcc3 := cc3
              obtain ⟨aa, rfl, hcell⟩ := Hf.out k _ (List.getElem?_eq_getElem hlt)
              have hz := Lft.out Lf[k] (List.getElem_mem _)
              have hct := count_take hlt
              have hcw := (hb.cell (World.block_lt_of_cell? w8 _ hcell)).trans hcell
              have hle := List.count_le_length (a := Lf[k]) (l := Lf.take k)
              have hle1 := List.length_take_le k Lf
              have hle2 := List.count_le_length (a := Lf[k]) (l := La)
              have hle3 := List.count_le_length (a := Lf[k]) (l := Lf)
              have hkI : (k : Int) < (Lf.length : Int) := by omega
              have q1 := hq.get hz
              obtain ⟨W', r7, s7, b7⟩ := hq.put hz (((La.count Lf[k] : Int) - ((Lf.take k).count Lf[k] : Int)) - 1) (Nat.le_refl _) hb
              have hbd : -100 ≤ ((La.count Lf[k] : Int) - ((Lf.take k).count Lf[k] : Int)) ∧ ((La.count Lf[k] : Int) - ((Lf.take k).count Lf[k] : Int)) ≤ 100 := by omega
              have hfin : QM W' w8.heap.size (fun i => ((La.count i : Int) - ((Lf.take (k + 1)).count i : Int))) := by
                have e : updQ (fun i => ((La.count i : Int) - ((Lf.take k).count i : Int))) Lf[k] (((La.count Lf[k] : Int) - ((Lf.take k).count Lf[k] : Int)) - 1) = fun i => ((La.count i : Int) - ((Lf.take (k + 1)).count i : Int)) := by
                  funext i
                  have := hct i
                  unfold updQ
                  split
                  · rename_i e; subst e; rw [if_pos rfl] at this; (try simp only); omega
                  · rename_i e; rw [if_neg e] at this; (try simp only); omega
                rw [← e]; exact s7
              have HFin := Lib.hid hfin
              have HB7 := Lib.hid b7
              clear hfin s7 b7 hcell hct hle hle1 hle2 hle3 hq hb
              try simp only at q1 r7
              generalize ((La.count Lf[k] : Int) - ((Lf.take k).count Lf[k] : Int)) = cz at *
              generalize Lf[k] = z at *
              go_wp2_with fail
              go_roundw
              case rel => exact ⟨k + 1, by omega, by simp, HFin.out, HB7.out⟩
              case measure => simp [Go.RowKit.intOf]; omega
            · obtain rfl : k = Lf.length := by omega
              rw [List.take_length] at hq
              have HQ1 := Lib.hid hq
              have HB1 := Lib.hid hb
              clear hq hb
              go_wp2_with fail
              go_loopw [23] (fun i wr => ∃ k : Nat, k ≤ Lg.length ∧ i = .int .i64 k ∧ QM wr w8.heap.size (fun i => ((La.count i : Int) - (Lf.count i : Int) - ((Lg.take k).count i : Int))) ∧ Below w8.heap.size w8 wr) (fun i _ => Lg.length - (Go.RowKit.intOf i).toNat)
              case atStart => exact ⟨0, Nat.zero_le _, rfl, by simpa using HQ1.out, HB1.out⟩
              case round =>
                clear HQ1 HB1
                obtain ⟨k, hk, rfl, hq, hb⟩ := hrel
                by_cases hlt : k < Lg.length
                · have hcc3 := cc3
                  obtain ⟨aa, rfl, hcell⟩ := Hg.out k _ (List.getElem?_eq_getElem hlt)
                  have hz := Lgt.out Lg[k] (List.getElem_mem _)
                  have hct := count_take hlt
                  have hcw := (hb.cell (World.block_lt_of_cell? w8 _ hcell)).trans hcell
                  have hle := List.count_le_length (a := Lg[k]) (l := Lg.take k)
                  have hle1 := List.length_take_le k Lg
                  have hle2 := List.count_le_length (a := Lg[k]) (l := La)
                  have hle3 := List.count_le_length (a := Lg[k]) (l := Lf)
                  have hkI : (k : Int) < (Lg.length : Int) := by omega
                  have q1 := hq.get hz
                  obtain ⟨W', r7, s7, b7⟩ := hq.put hz (((La.count Lg[k] : Int) - (Lf.count Lg[k] : Int) - ((Lg.take k).count Lg[k] : Int)) - 1) (Nat.le_refl _) hb
                  have hbd : -100 ≤ ((La.count Lg[k] : Int) - (Lf.count Lg[k] : Int) - ((Lg.take k).count Lg[k] : Int)) ∧ ((La.count Lg[k] : Int) - (Lf.count Lg[k] : Int) - ((Lg.take k).count Lg[k] : Int)) ≤ 100 := by omega
                  have hfin : QM W' w8.heap.size (fun i => ((La.count i : Int) - (Lf.count i : Int) - ((Lg.take (k + 1)).count i : Int))) := by
                    have e : updQ (fun i => ((La.count i : Int) - (Lf.count i : Int) - ((Lg.take k).count i : Int))) Lg[k] (((La.count Lg[k] : Int) - (Lf.count Lg[k] : Int) - ((Lg.take k).count Lg[k] : Int)) - 1) = fun i => ((La.count i : Int) - (Lf.count i : Int) - ((Lg.take (k + 1)).count i : Int)) := by
                      funext i
                      have := hct i
                      unfold updQ
                      split
                      · rename_i e; subst e; rw [if_pos rfl] at this; (try simp only); omega
                      · rename_i e; rw [if_neg e] at this; (try simp only); omega
                    rw [← e]; exact s7
                  have HFin := Lib.hid hfin
                  have HB7 := Lib.hid b7
                  clear hfin s7 b7 hcell hct hle hle1 hle2 hle3 hq hb
                  try simp only at q1 r7
                  generalize ((La.count Lg[k] : Int) - (Lf.count Lg[k] : Int) - ((Lg.take k).count Lg[k] : Int)) = cz at *
                  generalize Lg[k] = z at *
                  go_wp2_with fail
                  go_roundw
                  case rel => exact ⟨k + 1, by omega, by simp, HFin.out, HB7.out⟩
                  case measure => simp [Go.RowKit.intOf]; omega
                · obtain rfl : k = Lg.length := by omega
                  rw [List.take_length] at hq
                  have hq0 : QM wr w8.heap.size (fun _ => 0) := by
                    have e : (fun i => ((La.count i : Int) - (Lf.count i : Int) - (Lg.count i : Int))) = fun _ => 0 := by
                      funext i
                      have := C1.out i
                      omega
                    rw [← e]; exact hq
                  have HQ1 := Lib.hid hq0
                  have H9 := Lib.hid (H8.out.below hb)
                  clear hq hb hq0 H8 Ha Hf Hg
                  go_wp2_with fail
                  go_loopw [24] (fun i wx => ∃ k : Nat, k ≤ 17 ∧ i = .int .u16 k ∧ wx = wr) (fun i _ => 17 - (Go.RowKit.intOf i).toNat)
                  case atStart => exact ⟨0, by omega, rfl, rfl⟩
                  case round =>
                    obtain ⟨k, hk, rfl, rfl⟩ := hrel
                    by_cases hlt : k < 17
                    · have q1 := HQ1.out.get (i := k) (by omega)
                      have hkI : (k : Int) ≤ 16 := by omega
                      go_wp2_with fail
                      go_roundw
                      case rel => exact ⟨k + 1, by omega, by simp, by trivial⟩
                      case measure => simp [Go.RowKit.intOf]; omega
                    · obtain rfl : k = 17 := by omega
                      go_wp2_with fail
                      (try rw [show ((17 : Nat) : Int) = 17 from rfl])
                      go_loopw [25] (fun i wx => ∃ p : Nat, n ≤ p ∧ p ≤ 36 ∧ i = .int .i64 p ∧ Fr w wx b jb tb l2 [geoR g 8 16 40, inoR q x, inoR p7 y]) (fun i _ => 36 - (Go.RowKit.intOf i).toNat)
                      case atStart => exact ⟨n, Nat.le_refl _, hn36, rfl, H9.out⟩
                      case round =>
                        clear H9 HQ1
                        obtain ⟨p, hnp, hp, rfl, hF⟩ := hrel
                        have HF := Lib.hid hF
                        clear hF
                        by_cases hp36 : p < 36
                        · have hG := fr_get HF.out HK6.out p hp36
                          rw [HEnd.out p hnp] at hG
                          have HG := Lib.hid hG
                          obtain ⟨g0, g1, g2⟩ := geo_cells (HF.out.sys.mem (i := 3) rfl)
                          obtain ⟨j0, j1, j2, j3, j4, j5, j6, j7⟩ := ino_cells (HF.out.sys.mem (i := 5) rfl)
                          have ppI : (p : Int) < 36 := by omega
                          clear hG
                          go_wp2_with fail
                          refine HG.out.mono ?_
                          rintro e w9 ⟨rfl, hb⟩
                          have H9 := Lib.hid (HF.out.below hb)
                          clear hb HF HG g0 g1 g2 j0 j1 j2 j3 j4 j5 j6 j7
                          go_wp2_with fail
                          go_roundw
                          case rel => first | exact ⟨p + 1, by omega, by omega, by simp, H9.out⟩ | exact ⟨_, .int .i64 ((p : Int) + 1), _, _, _, _, _, _, _, _, _, _, _, _, _, _, _, _, _, _, _, _, ⟨p + 1, by omega, by omega, by simp, H9.out⟩, rfl⟩
                          case measure => simp [Go.RowKit.intOf]; omega
                        · obtain rfl : p = 36 := by omega
                          go_wp2_with fail
                          refine (HAl.out _).mono ?_
                          rintro e w9 ⟨rfl, hb⟩
                          have H11 := Lib.hid (HF.out.below hb)
                          clear hb HF
                          go_wp2_with fail
                          go_ret
                          exact ⟨rfl, H11.out.all⟩
end Go.Proofs.YtdddennhdbmolaaGreat
