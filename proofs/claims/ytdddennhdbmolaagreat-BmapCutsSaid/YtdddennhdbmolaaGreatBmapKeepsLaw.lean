/- Layer 9 (bmap): what was set is got, and other pages' blocks stay. -/
import Derived.Test.YtdddennhdbmolaaGreatBmapL4
namespace Go.Proofs.YtdddennhdbmolaaGreat
open Go.RowKit Go.Maps Go.Lib
set_option linter.unusedVariables false
set_option linter.unusedSimpArgs false
set_option maxRecDepth 10000
/-- Which page a step tells. -/
def pageN (x : Int) : Nat := ((IntKind.u64.wrap x).tmod 36).toNat
theorem pageN_any (x : Int) : wrap64 ((IntKind.u64.wrap x).tmod 36) = (pageN x : Int) ∧ (IntKind.u64.wrap x).tmod 36 = (pageN x : Int) ∧ pageN x < 36 := by
  have h0 : 0 ≤ IntKind.u64.wrap x := by rw [IntKind.wrap_u64]; omega
  have h1 : (IntKind.u64.wrap x).tmod 36 = (IntKind.u64.wrap x) % 36 := Int.tmod_eq_emod_of_nonneg h0
  unfold pageN
  rw [h1]
  have h2 := Int.emod_nonneg (IntKind.u64.wrap x) (show (36 : Int) ≠ 0 by decide)
  have h3 := Int.emod_lt_of_pos (IntKind.u64.wrap x) (show (0 : Int) < 36 by decide)
  generalize (IntKind.u64.wrap x) % 36 = y at *
  have e1 : wrap64 y = y := IntWalk.wrap64_in _ (by omega)
  rw [e1]
  omega
theorem blockN_any (b : Nat) (hb : b < 65536) : ((b : Int)).tmod 16 = ((b % 16 : Nat) : Int) ∧ b % 16 ≤ 16 := by
  have h1 : ((b : Int)).tmod 16 = (b : Int) % 16 := Int.tmod_eq_emod_of_nonneg (by omega)
  rw [h1]
  omega
section
variable {w W : World} {b jb tb : Nat} {x : Im} {l : List Nat} {rs : List Res}
theorem Fr.geo (h : Fr w W b jb tb l rs) : Fr w (W.alloc (.cells #[.int .i64 8, .int .i64 16, .int .i64 40] 23)) b jb tb l (rs ++ [geoR W.heap.size 8 16 40]) :=
  { h with sys := h.sys.geo 8 16 40, ht := rfl, hi := rfl, hj := rfl }
theorem Fr.ino (h : Fr w W b jb tb l rs) (x : Im) : Fr w (W.alloc (.cells #[.int .u8 x.k, w16 x.n, .int .u32 x.z, w16 x.d0, w16 x.d1, w16 x.d2, w16 x.d3, w16 x.i] 28)) b jb tb l (rs ++ [inoR W.heap.size x]) :=
  { h with sys := h.sys.ino x, ht := rfl, hi := rfl, hj := rfl }
theorem Fr.row (h : Fr w W b jb tb l rs) (r : List Nat) (ty : TypeId) : Fr w (W.alloc (.cells (numV r).toArray ty)) b jb tb l (rs ++ [rowR W.heap.size r ty]) :=
  { h with sys := h.sys.row9 r ty, ht := rfl, hi := rfl, hj := rfl }
theorem row_set9 {W : World} {p : Nat} {r : List Nat} {ty : TypeId} (h : RowIs W p r ty) (q c : Nat) : RowIs (W.setCell ⟨p, q, none⟩ (w16 c)) p (r.set q c) ty := by
  unfold RowIs at h ⊢
  rw [heap_setCell_same W p q _ _ _ h]
  congr 3
  simp [numV, List.map_set]
theorem row_cell9 {W : World} {p : Nat} {r : List Nat} {ty : TypeId} (h : RowIs W p r ty) {q : Nat} (hq : q < r.length) : W.cell? ⟨p, q, none⟩ = some (w16 (r.getD q 0)) := by
  rw [cell_of_row W p q _ _ _ h]
  simp [numV, List.getElem?_eq_getElem hq, List.getD_eq_getElem?_getD]
theorem row_frozen9 {W : World} {p : Nat} {r : List Nat} {ty : TypeId} (h : RowIs W p r ty) (q : Nat) : W.frozen? ⟨p, q, none⟩ = false := frozen_of_row _ _ q _ _ h
/-- An inode's box, stored into. -/
theorem Fr.setIno (h : Fr w W b jb tb l rs) {i p : Nat} {x : Im} (hi : rs[i]? = some (inoR p x)) (y : Im) : Fr w ((((((((W.setCell ⟨p, 0, none⟩ (.int .u8 y.k)).setCell ⟨p, 1, none⟩ (w16 y.n)).setCell ⟨p, 2, none⟩ (.int .u32 y.z)).setCell ⟨p, 3, none⟩ (w16 y.d0)).setCell ⟨p, 4, none⟩ (w16 y.d1)).setCell ⟨p, 5, none⟩ (w16 y.d2)).setCell ⟨p, 6, none⟩ (w16 y.d3)).setCell ⟨p, 7, none⟩ (w16 y.i)) b jb tb l (rs.set i (inoR p y)) :=
  { h with sys := al_store h.sys (i := i + 3) hi y, ht := rfl, hi := rfl, hj := rfl }
theorem Fr.setRow (h : Fr w W b jb tb l rs) {i p : Nat} {r : List Nat} {ty : TypeId} (hi : rs[i]? = some (rowR p r ty)) (q c : Nat) : Fr w (W.setCell ⟨p, q, none⟩ (w16 c)) b jb tb l (rs.set i (rowR p (r.set q c) ty)) :=
  { h with sys := h.sys.turn1 (i := i + 3) hi (only_set p _ _ (Only.refl _ _) q (w16 c)) (hQ := fun W W' h hb => (hb p rfl).trans h) (row_set9 (h.sys.mem (i := i + 3) hi) q c), ht := rfl, hi := rfl, hj := rfl }
theorem Fr.take9 (h : Fr w W b jb tb l rs) (m : Nat) : Fr w W b jb tb l (rs.take m) := { h with sys := h.sys.take (m + 3), ht := rfl, hi := rfl, hj := rfl }
end
set_option maxHeartbeats 4000000 in
set_option maxRecDepth 50000 in
theorem walk_BmapKeeps (w : World) (v : Value) (l : List BSt) (hv : BSteps w v l) (hs : ∀ x ∈ l, fineB x) (hn : l.length ≤ maxLen) :
    Calls Tryz.prog 4 #[v] w fun e w' => e = .returned (.bool true) ∧ Below w.heap.size w w' := by
  have HLong := Lib.hid (long9_any v l w hv hs hn)
  obtain ⟨A, cp, rfl, hc⟩ := hv
  have HC := Lib.hid hc
  have HS := Lib.hid hs
  have HAl := Lib.hid (fun V => alive9_any V)
  clear hc hs
  unfold maxLen at hn
  go_enter Tryz.func4, Tryz.ntmps4
  go_wp2_with fail
  refine HLong.out.mono ?_
  rintro e w1 ⟨⟨r, rfl, hr⟩, rfl⟩
  clear HLong
  cases r
  case true =>
    go_wp2_with fail
    refine (HAl.out _).mono ?_
    rintro e w1 ⟨rfl, hb⟩
    have HB := Lib.hid hb
    clear hb
    go_wp2_with fail
    go_ret
    exact ⟨rfl, HB.out⟩
  have hlen := hr rfl
  clear hr
  go_wp2_with fail
  refine (fresh9_any w).mono ?_
  rintro e w2 ⟨b, jb, tb, rfl, h2⟩
  have H2 := Lib.hid h2
  clear h2
  have h3 := (H2.out.geo.ino fr16).row (List.replicate 36 0) 60
  have e1 : (w2.alloc (.cells #[.int .i64 8, .int .i64 16, .int .i64 40] 23)).heap.size = w2.heap.size + 1 := by simp
  have e2 : ((w2.alloc (.cells #[.int .i64 8, .int .i64 16, .int .i64 40] 23)).alloc (.cells #[.int .u8 fr16.k, w16 fr16.n, .int .u32 fr16.z, w16 fr16.d0, w16 fr16.d1, w16 fr16.d2, w16 fr16.d3, w16 fr16.i] 28)).heap.size = w2.heap.size + 1 + 1 := by simp
  rw [e1, e2] at h3
  have h3 : Fr w (((w2.alloc (.cells #[.int .i64 8, .int .i64 16, .int .i64 40] 23)).alloc (.cells #[.int .u8 fr16.k, w16 fr16.n, .int .u32 fr16.z, w16 fr16.d0, w16 fr16.d1, w16 fr16.d2, w16 fr16.d3, w16 fr16.i] 28)).alloc (.cells #[.int .u16 0, .int .u16 0, .int .u16 0, .int .u16 0, .int .u16 0, .int .u16 0, .int .u16 0, .int .u16 0, .int .u16 0, .int .u16 0, .int .u16 0, .int .u16 0, .int .u16 0, .int .u16 0, .int .u16 0, .int .u16 0, .int .u16 0, .int .u16 0, .int .u16 0, .int .u16 0, .int .u16 0, .int .u16 0, .int .u16 0, .int .u16 0, .int .u16 0, .int .u16 0, .int .u16 0, .int .u16 0, .int .u16 0, .int .u16 0, .int .u16 0, .int .u16 0, .int .u16 0, .int .u16 0, .int .u16 0, .int .u16 0] 60)) b jb tb (List.replicate 32 0) [geoR w2.heap.size 8 16 40, inoR (w2.heap.size + 1) fr16, rowR (w2.heap.size + 1 + 1) (List.replicate 36 0) 60] := h3
  clear e1 e2 H2
  go_wp2_with fail
  generalize hW : (((w2.alloc (.cells #[.int .i64 8, .int .i64 16, .int .i64 40] 23)).alloc (.cells #[.int .u8 fr16.k, w16 fr16.n, .int .u32 fr16.z, w16 fr16.d0, w16 fr16.d1, w16 fr16.d2, w16 fr16.d3, w16 fr16.i] 28)).alloc (.cells #[.int .u16 0, .int .u16 0, .int .u16 0, .int .u16 0, .int .u16 0, .int .u16 0, .int .u16 0, .int .u16 0, .int .u16 0, .int .u16 0, .int .u16 0, .int .u16 0, .int .u16 0, .int .u16 0, .int .u16 0, .int .u16 0, .int .u16 0, .int .u16 0, .int .u16 0, .int .u16 0, .int .u16 0, .int .u16 0, .int .u16 0, .int .u16 0, .int .u16 0, .int .u16 0, .int .u16 0, .int .u16 0, .int .u16 0, .int .u16 0, .int .u16 0, .int .u16 0, .int .u16 0, .int .u16 0, .int .u16 0, .int .u16 0] 60)) = w3 at *
  clear hW
  obtain ⟨g, hg⟩ : ∃ g, g = w2.heap.size := ⟨_, rfl⟩
  rw [← hg] at h3 ⊢
  obtain ⟨q, hq⟩ : ∃ q, q = g + 1 := ⟨_, rfl⟩
  obtain ⟨a, ha⟩ : ∃ a, a = q + 1 := ⟨_, rfl⟩
  rw [← hq, ← ha] at h3 ⊢
  have n1 : g ≠ q := by omega
  have n2 : g ≠ a := by omega
  have n3 : q ≠ a := by omega
  clear hg hq ha
  have H3 := Lib.hid h3
  clear h3
  go_loopw [8] (fun i wr => ∃ (k : Nat) (x : Im) (ll : List Nat), k ≤ l.length ∧ i = .int .i64 k ∧ Fr w wr b jb tb ll [geoR g 8 16 40, inoR q x, rowR a (vecL x ll) 60] ∧ Kp x ll ∧ x.i = 16) (fun i _ => l.length - (Go.RowKit.intOf i).toNat)
  case atStart => exact ⟨0, fr16, List.replicate 32 0, Nat.zero_le _, rfl, by rw [fr16_vec]; exact H3.out, fr16_kp, rfl⟩
  case round =>
    clear H3
    obtain ⟨k, x, ll, hk, rfl, hF, hKp, hxi⟩ := hrel
    have HF := Lib.hid hF
    have HK := Lib.hid hKp
    have HX := Lib.hid hxi
    clear hF hKp hxi
    by_cases hlt : k < l.length
    · obtain ⟨aa, sv, rfl, x0, x1, x2, x3, x4⟩ := HC.out k _ (List.getElem?_eq_getElem hlt)
      have hfine := (HS.out l[k] (List.getElem_mem _)).1
      clear x0 x3 x4
      unfold behind at x1 x2
      generalize l[k] = s at *
      have y1 := (HF.out.sys.all.cell (World.block_lt_of_cell? w _ x1)).trans x1
      have y2 := (HF.out.sys.all.cell (World.block_lt_of_cell? w _ x2)).trans x2
      clear x1 x2
      have hkI : (k : Int) < (l.length : Int) := by omega
      obtain ⟨-, p1, p36⟩ := pageN_any s.page
      obtain ⟨c1, c16⟩ := blockN_any s.b hfine
      have hS := fr_set HF.out HK.out HX.out (pageN s.page) (s.b % 16) p36 c16
      have HSet := Lib.hid hS
      obtain ⟨g0, g1, g2⟩ := geo_cells (HF.out.sys.mem (i := 3) rfl)
      obtain ⟨i0, i1, i2, i3, i4, i5, i6, i7⟩ := ino_cells (HF.out.sys.mem (i := 4) rfl)
      clear hS
      generalize pageN s.page = pn at *
      generalize s.b % 16 = bn at *
      generalize s.page = sp at *
      generalize s.b = sb at *
      have pI : (pn : Int) < 36 := by omega
      have HVL := Lib.hid (vecL_length (x := x) HK.out.ll)
      go_wp2_with fail
      refine HSet.out.mono ?_
      rintro e w5 ⟨x', l', rfl, h5, hk', hi', hv'⟩
      have h6 := h5.ino x'
      have HK' := Lib.hid hk'
      have HI' := Lib.hid hi'
      have HV' := Lib.hid hv'
      clear g0 g1 g2 i0 i1 i2 i3 i4 i5 i6 i7 HSet HF HK HX h5 hk' hi' hv' y1 y2
      obtain ⟨i0, i1, i2, i3, i4, i5, i6, i7⟩ := ino_cells (h6.sys.mem (i := 4) rfl)
      have fy := ino_frozen (h6.sys.mem (i := 4) rfl)
      have H7 := Lib.hid (h6.setIno (i := 1) (p := q) rfl x')
      obtain ⟨p6, hp6⟩ : ∃ p, p = w5.heap.size := ⟨_, rfl⟩
      rw [← hp6] at H7
      clear h6 hp6
      go_upto_region 16 with fail
      generalize (((((((((w5.alloc (.cells #[.int .u8 x'.k, w16 x'.n, .int .u32 x'.z, w16 x'.d0, w16 x'.d1, w16 x'.d2, w16 x'.d3, w16 x'.i] 28)).setCell ⟨q, 0, none⟩ (.int .u8 x'.k)).setCell ⟨q, 1, none⟩ (w16 x'.n)).setCell ⟨q, 2, none⟩ (.int .u32 x'.z)).setCell ⟨q, 3, none⟩ (w16 x'.d0)).setCell ⟨q, 4, none⟩ (w16 x'.d1)).setCell ⟨q, 5, none⟩ (w16 x'.d2)).setCell ⟨q, 6, none⟩ (w16 x'.d3)).setCell ⟨q, 7, none⟩ (w16 x'.i)) = w7 at *
      have H7 := Lib.hid (show Fr w w7 b jb tb l' [geoR g 8 16 40, inoR q x', rowR a (vecL x ll) 60, inoR p6 x'] from H7.out)
      have r0 := row_cell9 (H7.out.sys.mem (i := 5) rfl) (q := pn) (by rw [HVL.out]; exact p36)
      have rf := row_frozen9 (H7.out.sys.mem (i := 5) rfl) pn
      have h8 := (H7.out.setRow (i := 2) rfl pn bn).take9 3
      have h8 : Fr w (w7.setCell ⟨a, pn, none⟩ (w16 bn)) b jb tb l' [geoR g 8 16 40, inoR q x', rowR a (vecL x' l') 60] := by rw [HV'.out]; exact h8
      have H8 := Lib.hid h8
      clear h8 H7 i0 i1 i2 i3 i4 i5 i6 i7 fy HV' HVL
      go_wp2_with fail
      clear r0 rf
      generalize (w7.setCell ⟨a, pn, none⟩ (w16 bn)) = w8 at *
      have HVL' := Lib.hid (vecL_length (x := x') HK'.out.ll)
      go_loopw [13] (fun i wr => ∃ pp : Nat, pp ≤ 36 ∧ i = .int .i64 pp ∧ Fr w wr b jb tb l' [geoR g 8 16 40, inoR q x', rowR a (vecL x' l') 60]) (fun i _ => 36 - (Go.RowKit.intOf i).toNat)
      case atStart => exact ⟨0, Nat.zero_le _, rfl, H8.out⟩
      case round =>
        clear H8
        obtain ⟨pp, hpp, rfl, hF⟩ := hrel
        have HF := Lib.hid hF
        clear hF
        by_cases hp36 : pp < 36
        · have hG := fr_get HF.out HK'.out pp hp36
          have HG := Lib.hid hG
          obtain ⟨g0, g1, g2⟩ := geo_cells (HF.out.sys.mem (i := 3) rfl)
          obtain ⟨i0, i1, i2, i3, i4, i5, i6, i7⟩ := ino_cells (HF.out.sys.mem (i := 4) rfl)
          have ppI : (pp : Int) < 36 := by omega
          clear hG
          go_wp2_with fail
          refine HG.out.mono ?_
          rintro e w9 ⟨rfl, hb⟩
          have H9 := Lib.hid (HF.out.below hb)
          have r0 := row_cell9 (H9.out.sys.mem (i := 5) rfl) (q := pp) (by rw [HVL'.out]; exact hp36)
          clear hb HF HG g0 g1 g2 i0 i1 i2 i3 i4 i5 i6 i7
          generalize (vecL x' l').getD pp 0 = val at *
          go_wp2_with fail
          go_roundw
          case rel => exact ⟨pp + 1, by omega, by simp, H9.out⟩
          case measure => simp [Go.RowKit.intOf]; omega
        · obtain rfl : pp = 36 := by omega
          go_wp2_with fail
          go_roundw
          case rel => exact ⟨k + 1, x', l', by omega, by simp, HF.out, HK'.out, HI'.out⟩
          case measure => simp [Go.RowKit.intOf]; omega
    · obtain rfl : k = l.length := by omega
      obtain ⟨i0, i1, i2, i3, i4, i5, i6, i7⟩ := ino_cells (HF.out.sys.mem (i := 4) rfl)
      rw [HX.out] at i7
      go_wp2_with fail
      refine (HAl.out _).mono ?_
      rintro e w5 ⟨rfl, hb⟩
      have H6 := Lib.hid (HF.out.below hb)
      clear hb HF
      go_wp2_with fail
      go_ret
      exact ⟨rfl, H6.out.all⟩
end Go.Proofs.YtdddennhdbmolaaGreat
