/- Layer 9 (bmap): an inode with an indirect block, made. -/
import Derived.Test.YtdddennhdbmolaaGreatBmapL2
namespace Go.Proofs.YtdddennhdbmolaaGreat
open Go.RowKit Go.Maps Go.Lib
set_option linter.unusedVariables false
set_option linter.unusedSimpArgs false
set_option maxRecDepth 10000
theorem results_two (fn : Func) (h : fn.results = #[.tmp 0, .cell 1 23, .cell 2 28, .tmp 3]) {P : Program} (tmps : Array Value) (w : World) (g k : Nat) (u v : Value)
    (hp : tmps.getD 1 undef = .pointer (some ⟨g, 0, none⟩)) (hl : (loadVar 23 ⟨g, 0, none⟩).run P w = .ok u w) (hq : tmps.getD 2 undef = .pointer (some ⟨k, 0, none⟩)) (hm : (loadVar 28 ⟨k, 0, none⟩).run P w = .ok v w) :
    (results fn tmps).run P w = .ok (.tuple #[tmps.getD 0 undef, u, v, tmps.getD 3 undef]) w := by
  have hp' : tmps[1]?.getD undef = .pointer (some ⟨g, 0, none⟩) := by simpa using hp
  have hq' : tmps[2]?.getD undef = .pointer (some ⟨k, 0, none⟩) := by simpa using hq
  simp [results, h, hp', hq', asAddr, hl, hm]
def fr0 : Im := ⟨1, 0, 2304, 0, 0, 0, 0, 0⟩
def fr16 : Im := ⟨1, 0, 2304, 0, 0, 0, 0, 16⟩
theorem fr0_fits : fr0.fits := by simp [Im.fits, fr0]
theorem fr0_fit : fitB smallG fr0 16 ∧ (16 : Nat) ≠ 0 ∧ fr0.i = 0 := ⟨by simp [fitB, fr0, smallG], by decide, rfl⟩
theorem fr0_wr : wrE 63 (capL 40) [] ((secB smallG 16 : Nat) : Int) (List.replicate 64 0) = 0 := by decide
theorem fr0_tell : tellL (List.replicate 32 0) = List.replicate 64 0 := by decide
theorem fr0_bg : bgE 63 (capL 40) smallG [] fr0 16 = 0 ∧ bgX fr0 16 0 = fr16 ∧ bgL 63 (capL 40) smallG [] fr0 16 = frL (List.replicate 32 0) := by
  refine ⟨by unfold bgE; rw [if_pos fr0_fit, fr0_wr], rfl, ?_⟩
  unfold bgL
  rw [if_pos fr0_fit]
  unfold wrL
  rw [if_pos fr0_wr]
  unfold frL
  rw [fr0_tell]
  rfl
theorem fr16_kp : Kp fr16 (List.replicate 32 0) := ⟨rfl, rfl, rfl, by decide, by decide, by decide, by decide, .inr rfl, rfl, fun y hy => by rw [List.eq_of_mem_replicate hy]; omega⟩
theorem fr16_vec : vecL fr16 (List.replicate 32 0) = List.replicate 36 0 := by decide
theorem ino_cells {W : World} {p : Nat} {x : Im} (h : InoAt W p x) : W.cell? ⟨p, 0, none⟩ = some (.int .u8 x.k) ∧ W.cell? ⟨p, 1, none⟩ = some (w16 x.n) ∧ W.cell? ⟨p, 2, none⟩ = some (.int .u32 x.z) ∧ W.cell? ⟨p, 3, none⟩ = some (w16 x.d0) ∧ W.cell? ⟨p, 4, none⟩ = some (w16 x.d1) ∧ W.cell? ⟨p, 5, none⟩ = some (w16 x.d2) ∧ W.cell? ⟨p, 6, none⟩ = some (w16 x.d3) ∧ W.cell? ⟨p, 7, none⟩ = some (w16 x.i) :=
  ⟨cell_of_row W p 0 _ _ _ h, cell_of_row W p 1 _ _ _ h, cell_of_row W p 2 _ _ _ h, cell_of_row W p 3 _ _ _ h, cell_of_row W p 4 _ _ _ h, cell_of_row W p 5 _ _ _ h, cell_of_row W p 6 _ _ _ h, cell_of_row W p 7 _ _ _ h⟩
theorem ino_new (W : World) (x : Im) : InoAt (W.alloc (.cells #[.int .u8 x.k, w16 x.n, .int .u32 x.z, w16 x.d0, w16 x.d1, w16 x.d2, w16 x.d3, w16 x.i] 28)) W.heap.size x := heap_alloc_new W _
/-! Boxes that are held beside a transaction. -/
theorem geo_kept {W W' : World} {p : Nat} {i b j : Int} (h : GeoAt W p i b j) (hb : W'.heap[p]? = W.heap[p]?) : GeoAt W' p i b j := hb.trans h
theorem ino_kept {W W' : World} {p : Nat} {x : Im} (h : InoAt W p x) (hb : W'.heap[p]? = W.heap[p]?) : InoAt W' p x := hb.trans h
def geoR (p : Nat) (i b j : Int) : Res := memR (fun k => k = p) (fun W => GeoAt W p i b j) fun W W' h hb => geo_kept h (hb p rfl)
def inoR (p : Nat) (x : Im) : Res := memR (fun k => k = p) (fun W => InoAt W p x) fun W W' h hb => ino_kept h (hb p rfl)
/-- A row of cells. -/
def RowIs (W : World) (p : Nat) (l : List Nat) (ty : TypeId) : Prop := W.heap[p]? = some (.cells (numV l).toArray ty (0, 0))
def rowR (p : Nat) (l : List Nat) (ty : TypeId) : Res := memR (fun k => k = p) (fun W => RowIs W p l ty) fun W W' h hb => (hb p rfl).trans h
section
variable {w W : World} {rs : List Res}
theorem Sys.geo (h : Sys w W rs) (i b j : Int) : Sys w (W.alloc (.cells #[.int .i64 i, .int .i64 b, .int .i64 j] 23)) (rs ++ [geoR W.heap.size i b j]) :=
  h.addMem ((Below.refl _ W).alloc (Nat.le_refl _) _) (geo_new W i b j) fun k hk => by rw [hk]; exact ⟨Nat.le_refl _, by simp⟩
theorem Sys.ino (h : Sys w W rs) (x : Im) : Sys w (W.alloc (.cells #[.int .u8 x.k, w16 x.n, .int .u32 x.z, w16 x.d0, w16 x.d1, w16 x.d2, w16 x.d3, w16 x.i] 28)) (rs ++ [inoR W.heap.size x]) :=
  h.addMem ((Below.refl _ W).alloc (Nat.le_refl _) _) (ino_new W x) fun k hk => by rw [hk]; exact ⟨Nat.le_refl _, by simp⟩
theorem Sys.row9 (h : Sys w W rs) (l : List Nat) (ty : TypeId) : Sys w (W.alloc (.cells (numV l).toArray ty)) (rs ++ [rowR W.heap.size l ty]) :=
  h.addMem ((Below.refl _ W).alloc (Nat.le_refl _) _) (heap_alloc_new W _) fun k hk => by rw [hk]; exact ⟨Nat.le_refl _, by simp⟩
/-- One box turns. -/
theorem Sys.turn1 (h : Sys w W rs) {i p : Nat} {P : World → Prop} {hP : ∀ W W', P W → (∀ k, k = p → W'.heap[k]? = W.heap[k]?) → P W'} (hi : rs[i]? = some (memR (fun k => k = p) P hP)) {W' : World} (ho : Only (fun k => k = p) W W')
    {Q : World → Prop} {hQ : ∀ W W', Q W → (∀ k, k = p → W'.heap[k]? = W.heap[k]?) → Q W'} (hq : Q W') : Sys w W' (rs.set i (memR (fun k => k = p) Q hQ)) := by
  obtain ⟨S, ⟨h1, h2, h3⟩, -, -, hs, -⟩ := h.use hi
  exact hs W' (memR (fun k => k = p) Q hQ) S ⟨ho.os, ho.tape, ho.output, ho.size, fun k hk hS => ho.block k hk fun e => hS ((h1 k).2 e)⟩ ⟨h1, fun k hk => Nat.lt_of_lt_of_le (h2 k hk) ho.size, hq⟩ fun k hk => .inl hk
/-- An inode stored into its box. -/
theorem Sys.setIno (h : Sys w W rs) {i p : Nat} {x : Im} (hi : rs[i]? = some (inoR p x)) (y : Im) : ∃ W', (inoStore (.pointer (some ⟨p, 0, none⟩)) y.v).run Tryz.prog W = .ok () W' ∧ Sys w W' (rs.set i (inoR p y)) ∧ Only (fun k => k = p) W W' := by
  obtain ⟨W', h1, h2, h3, h4⟩ := ino_store (h.mem hi) y
  have hb := h4 p (Nat.le_refl _)
  have ho : Only (fun k => k = p) W W' := ⟨hb.os, hb.tape, hb.output, (Array.getElem?_eq_some_iff.1 h2).1 |> fun _ => by
    have := h4 0 (Nat.zero_le _); exact this.size, fun k hk hne => h3 k hne⟩
  exact ⟨W', h1, h.turn1 hi ho h2, ho⟩
end
section
variable {w W : World} {rs : List Res}
theorem Sys.pick9 (h : Sys w W rs) (is : List Nat) (hn : is.Nodup) (qs : List Res) (hl : qs.length = is.length) (hq : ∀ j (hj : j < is.length), qs[j]? = rs[is[j]]?) : Sys w W qs := by
  obtain ⟨S, h⟩ := h
  have hget : ∀ j, j < is.length → is.getD j 0 = is[j]! := fun j hj => by simp [hj]
  have hlt : ∀ j (hj : j < is.length), is[j] < rs.length := fun j hj => by
    have h1 := hq j hj
    rw [List.getElem?_eq_getElem (by omega)] at h1
    exact idx_lt h1.symm
  have hS : ∀ j (hj : j < is.length), S (is.getD j 0) = S is[j] := fun j hj => by rw [List.getD_eq_getElem?_getD, List.getElem?_eq_getElem hj]; rfl
  refine ⟨fun j => S (is.getD j 0), h.keeps, fun j r hj => ?_, fun j hj k hk => ?_, fun a b ha hb hne k hk hk2 => ?_⟩
  · have hjl : j < is.length := by have := idx_lt hj; omega
    rw [hS j hjl]
    exact h.at_ _ _ ((hq j hjl).symm.trans hj)
  · have hjl : j < is.length := by omega
    rw [hS j hjl] at hk
    exact h.new _ (hlt j hjl) k hk
  · have h1 : a < is.length := by omega
    have h2 : b < is.length := by omega
    rw [hS a h1] at hk
    rw [hS b h2] at hk2
    refine h.apart _ _ (hlt a h1) (hlt b h2) (fun e => hne ?_) k hk hk2
    have hp := List.pairwise_iff_getElem.1 (List.nodup_iff_pairwise_ne.1 hn)
    rcases Nat.lt_or_gt_of_ne hne with h3 | h3
    · exact absurd e (hp a b h1 h2 h3)
    · exact absurd e.symm (hp b a h2 h1 h3)
end
theorem set_geo3 {W : World} {p : Nat} {i b j : Int} (h : GeoAt W p i b j) (i' b' j' : Int) : GeoAt (((W.setCell ⟨p, 0, none⟩ (.int .i64 i')).setCell ⟨p, 1, none⟩ (.int .i64 b')).setCell ⟨p, 2, none⟩ (.int .i64 j')) p i' b' j' :=
  heap_setCell_same _ p 2 _ _ _ (heap_setCell_same _ p 1 _ _ _ (heap_setCell_same W p 0 _ _ _ h))
theorem row8_set {W : World} {p : Nat} {t : TypeId} {a0 a1 a2 a3 a4 a5 a6 a7 : Value} (h : W.heap[p]? = some (.cells #[a0, a1, a2, a3, a4, a5, a6, a7] t (0, 0))) (b0 b1 b2 b3 b4 b5 b6 b7 : Value) :
    ((((((((W.setCell ⟨p, 0, none⟩ b0).setCell ⟨p, 1, none⟩ b1).setCell ⟨p, 2, none⟩ b2).setCell ⟨p, 3, none⟩ b3).setCell ⟨p, 4, none⟩ b4).setCell ⟨p, 5, none⟩ b5).setCell ⟨p, 6, none⟩ b6).setCell ⟨p, 7, none⟩ b7).heap[p]? = some (.cells #[b0, b1, b2, b3, b4, b5, b6, b7] t (0, 0)) := by
  have h0 : (W.setCell ⟨p, 0, none⟩ b0).heap[p]? = some (.cells #[b0, a1, a2, a3, a4, a5, a6, a7] t (0, 0)) := heap_setCell_same _ p 0 _ t b0 h
  have h1 : ((W.setCell ⟨p, 0, none⟩ b0).setCell ⟨p, 1, none⟩ b1).heap[p]? = some (.cells #[b0, b1, a2, a3, a4, a5, a6, a7] t (0, 0)) := heap_setCell_same _ p 1 _ t b1 h0
  have h2 : (((W.setCell ⟨p, 0, none⟩ b0).setCell ⟨p, 1, none⟩ b1).setCell ⟨p, 2, none⟩ b2).heap[p]? = some (.cells #[b0, b1, b2, a3, a4, a5, a6, a7] t (0, 0)) := heap_setCell_same _ p 2 _ t b2 h1
  have h3 : ((((W.setCell ⟨p, 0, none⟩ b0).setCell ⟨p, 1, none⟩ b1).setCell ⟨p, 2, none⟩ b2).setCell ⟨p, 3, none⟩ b3).heap[p]? = some (.cells #[b0, b1, b2, b3, a4, a5, a6, a7] t (0, 0)) := heap_setCell_same _ p 3 _ t b3 h2
  have h4 : (((((W.setCell ⟨p, 0, none⟩ b0).setCell ⟨p, 1, none⟩ b1).setCell ⟨p, 2, none⟩ b2).setCell ⟨p, 3, none⟩ b3).setCell ⟨p, 4, none⟩ b4).heap[p]? = some (.cells #[b0, b1, b2, b3, b4, a5, a6, a7] t (0, 0)) := heap_setCell_same _ p 4 _ t b4 h3
  have h5 : ((((((W.setCell ⟨p, 0, none⟩ b0).setCell ⟨p, 1, none⟩ b1).setCell ⟨p, 2, none⟩ b2).setCell ⟨p, 3, none⟩ b3).setCell ⟨p, 4, none⟩ b4).setCell ⟨p, 5, none⟩ b5).heap[p]? = some (.cells #[b0, b1, b2, b3, b4, b5, a6, a7] t (0, 0)) := heap_setCell_same _ p 5 _ t b5 h4
  have h6 : (((((((W.setCell ⟨p, 0, none⟩ b0).setCell ⟨p, 1, none⟩ b1).setCell ⟨p, 2, none⟩ b2).setCell ⟨p, 3, none⟩ b3).setCell ⟨p, 4, none⟩ b4).setCell ⟨p, 5, none⟩ b5).setCell ⟨p, 6, none⟩ b6).heap[p]? = some (.cells #[b0, b1, b2, b3, b4, b5, b6, a7] t (0, 0)) := heap_setCell_same _ p 6 _ t b6 h5
  have h7 : ((((((((W.setCell ⟨p, 0, none⟩ b0).setCell ⟨p, 1, none⟩ b1).setCell ⟨p, 2, none⟩ b2).setCell ⟨p, 3, none⟩ b3).setCell ⟨p, 4, none⟩ b4).setCell ⟨p, 5, none⟩ b5).setCell ⟨p, 6, none⟩ b6).setCell ⟨p, 7, none⟩ b7).heap[p]? = some (.cells #[b0, b1, b2, b3, b4, b5, b6, b7] t (0, 0)) := heap_setCell_same _ p 7 _ t b7 h6
  exact h7
theorem set_ino8 {W : World} {p : Nat} {x : Im} (h : InoAt W p x) (y : Im) : InoAt ((((((((W.setCell ⟨p, 0, none⟩ (.int .u8 y.k)).setCell ⟨p, 1, none⟩ (w16 y.n)).setCell ⟨p, 2, none⟩ (.int .u32 y.z)).setCell ⟨p, 3, none⟩ (w16 y.d0)).setCell ⟨p, 4, none⟩ (w16 y.d1)).setCell ⟨p, 5, none⟩ (w16 y.d2)).setCell ⟨p, 6, none⟩ (w16 y.d3)).setCell ⟨p, 7, none⟩ (w16 y.i)) p y :=
  row8_set h _ _ _ _ _ _ _ _
theorem only_set (p : Nat) (W V : World) (h : Only (fun k => k = p) W V) (q : Nat) (v : Value) : Only (fun k => k = p) W (V.setCell ⟨p, q, none⟩ v) := h.trans (Only.setCell (fun k => k = p) V ⟨p, q, none⟩ v rfl) fun j hj => .inl hj
theorem geo_frozen {W : World} {p : Nat} {i b j : Int} (h : GeoAt W p i b j) (k : Nat) : W.frozen? ⟨p, k, none⟩ = false := frozen_of_row _ _ k _ _ h
theorem ino_frozen {W : World} {p : Nat} {x : Im} (h : InoAt W p x) (k : Nat) : W.frozen? ⟨p, k, none⟩ = false := frozen_of_row _ _ k _ _ h
set_option maxHeartbeats 2000000 in
set_option maxRecDepth 50000 in
theorem fresh9_any (w : World) : Calls Tryz.prog 21 #[] w fun e w' => ∃ b jb tb, e = .returned (.tuple #[devp tb, smallV, fr16.v, .bool true]) ∧ Fr w w' b jb tb (List.replicate 32 0) [] := by
  have HS := Lib.hid fun V => small_any V
  obtain ⟨b1, b2, b3⟩ := fr0_bg
  have B1 := Lib.hid b1
  have B2 := Lib.hid b2
  have B3 := Lib.hid b3
  clear b1 b2 b3
  have h0 := ((Sys.start w).geo 0 0 0).ino Im.nought
  have e0 : (w.alloc (.cells #[.int .i64 0, .int .i64 0, .int .i64 0] 23)).heap.size = w.heap.size + 1 := by simp
  rw [e0] at h0
  have h0 : Sys w ((w.alloc (.cells #[.int .i64 0, .int .i64 0, .int .i64 0] 23)).alloc (.cells #[.int .u8 0, .int .u16 0, .int .u32 0, .int .u16 0, .int .u16 0, .int .u16 0, .int .u16 0, .int .u16 0] 28)) [geoR w.heap.size 0 0 0, inoR (w.heap.size + 1) Im.nought] := h0
  clear e0
  generalize hW : ((w.alloc (.cells #[.int .i64 0, .int .i64 0, .int .i64 0] 23)).alloc (.cells #[.int .u8 0, .int .u16 0, .int .u32 0, .int .u16 0, .int .u16 0, .int .u16 0, .int .u16 0, .int .u16 0] 28)) = W0 at *
  have H0 := Lib.hid h0
  have HW := Lib.hid hW
  clear h0 hW
  go_enter Tryz.func21, Tryz.ntmps21
  go_wp2_with fail
  rw [HW.out]
  clear HW
  refine (HS.out _).mono ?_
  rintro e w1 ⟨rfl, hb⟩
  have h1 := (H0.out.below hb).geo 8 16 40
  have g1 := geo_cells (show GeoAt (w1.alloc (.cells #[.int .i64 8, .int .i64 16, .int .i64 40] 23)) w1.heap.size 8 16 40 from geo_new w1 8 16 40)
  have H1 := Lib.hid (sys_made9 h1 smallG smallG_ok)
  obtain ⟨g, hg⟩ : ∃ g, g = w1.heap.size := ⟨_, rfl⟩
  have hgl : w.heap.size + 1 < g := by have := (H0.out.mem (i := 1) rfl : InoAt _ _ _).lt; have := hb.size; omega
  clear hb H0 h1
  go_wp2_with fail
  refine H1.out.mono ?_
  rintro e w3 ⟨b, jb, tb, rfl, h3⟩
  rw [← hg] at h3 ⊢
  clear hg g1 H1 w1
  have h3 : Sys w w3 [geoR w.heap.size 0 0 0, inoR (w.heap.size + 1) Im.nought, geoR g 8 16 40, devR b (dev0 63), jourR jb b 1 40 0, txR tb b jb 63 []] := h3
  have h3' : TxSys w w3 [geoR w.heap.size 0 0 0, inoR (w.heap.size + 1) Im.nought, geoR g 8 16 40, devR b (dev0 63), jourR jb b 1 40 0, txR tb b jb 63 []] 5 3 4 tb b jb 1 40 0 (dev0 63) [] := ⟨h3, rfl, rfl, rfl, by decide, by decide, by decide, rfl, Nat.zero_le _, by decide, by decide, WrOk.nil _ _⟩
  obtain ⟨g0, g1, g2⟩ := geo_cells (h3.mem (i := 2) rfl)
  have hB := bbeg_tx h3' smallG_ok fr0 fr0_fits 16 (by decide)
  have e63 : (dev0 63).n = 63 := rfl
  rw [e63, B1.out, B2.out, B3.out] at hB
  have HB := Lib.hid hB
  clear h3 h3' hB e63 B1 B2 B3 HS
  go_wp2_with fail
  refine HB.out.mono ?_
  rintro e w4 ⟨rfl, h4⟩
  have h4 : TxSys w w4 [geoR w.heap.size 0 0 0, inoR (w.heap.size + 1) Im.nought, geoR g 8 16 40, devR b (dev0 63), jourR jb b 1 40 0, txR tb b jb 63 (frL (List.replicate 32 0))] 5 3 4 tb b jb 1 40 0 (dev0 63) (frL (List.replicate 32 0)) := h4
  have H4 := Lib.hid h4
  have h5 := h4.sys.ino fr16
  have hql : g < w4.heap.size := (h4.sys.mem (i := 2) rfl : GeoAt _ _ _ _ _).lt
  obtain ⟨q, hq⟩ : ∃ q, q = w4.heap.size := ⟨_, rfl⟩
  rw [← hq] at h5 hql
  have n1 : q ≠ w.heap.size := by omega
  have n2 : q ≠ w.heap.size + 1 := by omega
  have n3 : g ≠ w.heap.size := by omega
  have n4 : g ≠ w.heap.size + 1 := by omega
  clear HB g0 g1 g2
  go_wp2_with fail
  rw [← hq]
  generalize (w4.alloc (.cells #[.int .u8 fr16.k, w16 fr16.n, .int .u32 fr16.z, w16 fr16.d0, w16 fr16.d1, w16 fr16.d2, w16 fr16.d3, w16 fr16.i] 28)) = w5 at *
  have h5 : Sys w w5 [geoR w.heap.size 0 0 0, inoR (w.heap.size + 1) Im.nought, geoR g 8 16 40, devR b (dev0 63), jourR jb b 1 40 0, txR tb b jb 63 (frL (List.replicate 32 0)), inoR q fr16] := h5
  have H5 := Lib.hid h5
  obtain ⟨g0, g1, g2⟩ := geo_cells (h5.mem (i := 2) rfl)
  obtain ⟨x0, x1, x2, x3, x4, x5, x6, x7⟩ := ino_cells (h5.mem (i := 6) rfl)
  obtain ⟨a0, a1, a2⟩ := geo_cells (h5.mem (i := 0) rfl)
  obtain ⟨y0, y1, y2, y3, y4, y5, y6, y7⟩ := ino_cells (h5.mem (i := 1) rfl)
  have L1 := Lib.hid (h5.mem (i := 0) rfl)
  have L2 := Lib.hid (h5.mem (i := 1) rfl)
  have fa := geo_frozen L1.out
  have fy := ino_frozen L2.out
  have HK := Lib.hid h4.ok
  clear h4 hq H4 h5
  go_region
  go_wp2_with fail
  have s1 := H5.out.turn1 (i := 0) rfl (only_set w.heap.size _ _ (only_set w.heap.size _ _ (only_set w.heap.size _ _ (Only.refl _ w5) 0 (.int .i64 8)) 1 (.int .i64 16)) 2 (.int .i64 40)) (hQ := fun W W' h hb => geo_kept h (hb _ rfl)) (set_geo3 L1.out 8 16 40)
  have s1 : Sys w _ [geoR w.heap.size 8 16 40, inoR (w.heap.size + 1) Im.nought, geoR g 8 16 40, devR b (dev0 63), jourR jb b 1 40 0, txR tb b jb 63 (frL (List.replicate 32 0)), inoR q fr16] := s1
  have k2 := s1.mem (i := 1) rfl
  have s2 := s1.turn1 (i := 1) rfl (only_set (w.heap.size + 1) _ _ (only_set (w.heap.size + 1) _ _ (only_set (w.heap.size + 1) _ _ (only_set (w.heap.size + 1) _ _ (only_set (w.heap.size + 1) _ _ (only_set (w.heap.size + 1) _ _ (only_set (w.heap.size + 1) _ _ (only_set (w.heap.size + 1) _ _ (Only.refl _ _) 0 (.int .u8 fr16.k)) 1 (w16 fr16.n)) 2 (.int .u32 fr16.z)) 3 (w16 fr16.d0)) 4 (w16 fr16.d1)) 5 (w16 fr16.d2)) 6 (w16 fr16.d3)) 7 (w16 fr16.i)) (hQ := fun W W' h hb => ino_kept h (hb _ rfl)) (set_ino8 k2 fr16)
  have s2 : Sys w _ [geoR w.heap.size 8 16 40, inoR (w.heap.size + 1) fr16, geoR g 8 16 40, devR b (dev0 63), jourR jb b 1 40 0, txR tb b jb 63 (frL (List.replicate 32 0)), inoR q fr16] := s2
  have s3 := s2.below (below_drewN (Below.refl _ _) 1)
  have k3 := s3.mem (i := 0) rfl
  have k4 := s3.mem (i := 1) rfl
  have s4 := s3.pick9 [3, 4, 5] (by decide) [devR b (dev0 63), jourR jb b 1 40 0, txR tb b jb 63 (frL (List.replicate 32 0))] rfl (fun j hj => by
    match j, hj with
    | 0, _ | 1, _ | 2, _ => rfl)
  have hok := WrOk.nil 63 37
  refine bodyPost_ret (v := .tuple #[devp tb, smallV, fr16.v, .bool true]) ?_ rfl ⟨b, jb, tb, rfl, ⟨s4, rfl, rfl, rfl, by decide, by decide, by decide, rfl, Nat.zero_le _, by decide, by decide, HK.out⟩⟩
  exact results_two _ rfl _ _ w.heap.size (w.heap.size + 1) _ _ rfl (load_geo _ _ _ _ _ k3) rfl (ino_var k4)
end Go.Proofs.YtdddennhdbmolaaGreat
