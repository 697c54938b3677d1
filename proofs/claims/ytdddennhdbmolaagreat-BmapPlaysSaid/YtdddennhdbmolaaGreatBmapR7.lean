/- Layer 9 (bmap), the document's answers: Cut. Written by tools/genbmapr7.py. -/
import Derived.Test.YtdddennhdbmolaaGreatBmapR6
namespace Go.Proofs.YtdddennhdbmolaaGreat
open Go.RowKit Go.Maps Go.Lib
set_option linter.unusedVariables false
set_option linter.unusedSimpArgs false
set_option maxRecDepth 10000
attribute [local go_sem ↓] ino_store_fold
attribute [local go_sem ↓] dir_store_fold
attribute [local go_sem ↓] num_append_fold
set_option maxHeartbeats 2000000 in
theorem rcut_no (r : Value) (G : Gm) (hG : G.ok) (x : Im) (hxf : x.fits) (p : Int) (hbad : ¬ (fitB G x 0 ∧ cutP p)) (w : World) :
    Calls Tryz.prog 39 #[r, gv G, x.v, .int .i64 p] w fun e w' => e = .returned (.tuple #[Im.nought.v, .slice none 0 0, .int .i64 2]) ∧ Below w.heap.size w w' := by
  obtain ⟨hGe, hX, hZ, hB⟩ := box_giz w G.i G.b G.j x
  generalize hW : (((w.alloc (.cells #[.int .i64 G.i, .int .i64 G.b, .int .i64 G.j] 23)).alloc (.cells #[.int .u8 x.k, w16 x.n, .int .u32 x.z, w16 x.d0, w16 x.d1, w16 x.d2, w16 x.d3, w16 x.i] 28)).alloc (.cells #[.int .u8 0, .int .u16 0, .int .u32 0, .int .u16 0, .int .u16 0, .int .u16 0, .int .u16 0, .int .u16 0] 28)) = W0 at *
  obtain ⟨g0, g1, g2, x0, x1, x2, x3, x4, x5, x6, x7⟩ := Boxes.of hGe hX
  have HG := Lib.hid hGe
  have HX := Lib.hid hX
  have HZ := Lib.hid hZ
  have HB := Lib.hid hB
  have HW := Lib.hid hW
  clear hW hGe hX hZ hB
  by_cases hf : fitB G x 0
  · have hM := fun V => refMay9_any G hG x hxf 0 (by first | omega | assumption) V
    rw [decide_eq_true hf] at hM
    have HM := Lib.hid (show ∀ V, Calls Tryz.prog 58 #[gv G, x.v, .int .u16 0] V fun e w' => e = .returned (.bool true) ∧ Below V.heap.size V w' from hM)
    clear hM
    by_cases h0 : p < 0
    · have hd0 : decide (p < 0) = true := decide_eq_true h0
      clear hbad h0 hf hG hxf
      go_enter Tryz.func39, Tryz.ntmps39
      go_wp2_with fail
      rw [HW.out]
      clear HW
      refine (HM.out _).mono ?_
      rintro e w1 ⟨rfl, hb⟩
      have HB1 := Lib.hid hb
      have HG1 := Lib.hid (HG.out.below HB1.out)
      have HX1 := Lib.hid (HX.out.below HB1.out HX.out.lt)
      obtain ⟨g0, g1, g2, x0, x1, x2, x3, x4, x5, x6, x7⟩ := Boxes.of HG1.out HX1.out
      have HZ1 := Lib.hid (HZ.out.below HB1.out HZ.out.lt)
      clear hb
      obtain ⟨w2, hs, hz, -, hb2⟩ := ino_store HZ1.out Im.nought
      have hs2 : (inoStore (.pointer (some ⟨w.heap.size + 1 + 1, 0, none⟩)) (.agg #[.int .u8 0, .int .u16 0, .int .u32 0, .int .u16 0, .int .u16 0, .int .u16 0, .int .u16 0, .int .u16 0])).run Tryz.prog w1 = .ok () w2 := hs
      have HZ2 := Lib.hid hz
      have HB2 := Lib.hid ((HB.out.trans (HB1.out.mono HB.out.size)).trans (hb2 _ (by omega)))
      clear hs hz hb2
      go_wp2_with fail
      refine bodyPost_ret (v := .tuple #[Im.nought.v, .slice none 0 0, .int .i64 2]) ?_ rfl ⟨rfl, HB2.out⟩
      exact results_row_tmp2 (p := 8) (q := 9) (s := 10) rfl _ _ (w.heap.size + 1 + 1) _ rfl (ino_var HZ2.out)
    · have hd0 : decide (p < 0) = false := decide_eq_false h0
      have h36 : 36 < p := by
        have h2 : ¬ cutP p := fun e => hbad ⟨hf, e⟩
        unfold cutP at h2
        omega
      have hd1 : decide (36 < p) = true := decide_eq_true h36
      clear hbad h0 hf hG hxf
      go_enter Tryz.func39, Tryz.ntmps39
      go_wp2_with fail
      rw [HW.out]
      clear HW
      refine (HM.out _).mono ?_
      rintro e w1 ⟨rfl, hb⟩
      have HB1 := Lib.hid hb
      have HG1 := Lib.hid (HG.out.below HB1.out)
      have HX1 := Lib.hid (HX.out.below HB1.out HX.out.lt)
      obtain ⟨g0, g1, g2, x0, x1, x2, x3, x4, x5, x6, x7⟩ := Boxes.of HG1.out HX1.out
      have HZ1 := Lib.hid (HZ.out.below HB1.out HZ.out.lt)
      clear hb
      obtain ⟨w2, hs, hz, -, hb2⟩ := ino_store HZ1.out Im.nought
      have hs2 : (inoStore (.pointer (some ⟨w.heap.size + 1 + 1, 0, none⟩)) (.agg #[.int .u8 0, .int .u16 0, .int .u32 0, .int .u16 0, .int .u16 0, .int .u16 0, .int .u16 0, .int .u16 0])).run Tryz.prog w1 = .ok () w2 := hs
      have HZ2 := Lib.hid hz
      have HB2 := Lib.hid ((HB.out.trans (HB1.out.mono HB.out.size)).trans (hb2 _ (by omega)))
      clear hs hz hb2
      go_wp2_with fail
      refine bodyPost_ret (v := .tuple #[Im.nought.v, .slice none 0 0, .int .i64 2]) ?_ rfl ⟨rfl, HB2.out⟩
      exact results_row_tmp2 (p := 8) (q := 9) (s := 10) rfl _ _ (w.heap.size + 1 + 1) _ rfl (ino_var HZ2.out)
  · have hM := fun V => refMay9_any G hG x hxf 0 (by first | omega | assumption) V
    rw [decide_eq_false hf] at hM
    have HM := Lib.hid (show ∀ V, Calls Tryz.prog 58 #[gv G, x.v, .int .u16 0] V fun e w' => e = .returned (.bool false) ∧ Below V.heap.size V w' from hM)
    clear hM
    clear hbad hf hG hxf
    go_enter Tryz.func39, Tryz.ntmps39
    go_wp2_with fail
    rw [HW.out]
    clear HW
    refine (HM.out _).mono ?_
    rintro e w1 ⟨rfl, hb⟩
    have HB1 := Lib.hid hb
    have HG1 := Lib.hid (HG.out.below HB1.out)
    have HX1 := Lib.hid (HX.out.below HB1.out HX.out.lt)
    obtain ⟨g0, g1, g2, x0, x1, x2, x3, x4, x5, x6, x7⟩ := Boxes.of HG1.out HX1.out
    have HZ1 := Lib.hid (HZ.out.below HB1.out HZ.out.lt)
    clear hb
    obtain ⟨w2, hs, hz, -, hb2⟩ := ino_store HZ1.out Im.nought
    have hs2 : (inoStore (.pointer (some ⟨w.heap.size + 1 + 1, 0, none⟩)) (.agg #[.int .u8 0, .int .u16 0, .int .u32 0, .int .u16 0, .int .u16 0, .int .u16 0, .int .u16 0, .int .u16 0])).run Tryz.prog w1 = .ok () w2 := hs
    have HZ2 := Lib.hid hz
    have HB2 := Lib.hid ((HB.out.trans (HB1.out.mono HB.out.size)).trans (hb2 _ (by omega)))
    clear hs hz hb2
    go_wp2_with fail
    refine bodyPost_ret (v := .tuple #[Im.nought.v, .slice none 0 0, .int .i64 2]) ?_ rfl ⟨rfl, HB2.out⟩
    exact results_row_tmp2 (p := 8) (q := 9) (s := 10) rfl _ _ (w.heap.size + 1 + 1) _ rfl (ino_var HZ2.out)
theorem zap_u16s {w V : World} {n D c : Nat} {cs fl : List Nat} {vf : Value} (h : Zap n w D 24 cs vf fl V) {m : Nat} (hm : cs.length = m) : U16s V (.slice (some ⟨D, 0, none⟩) m c) cs := by
  subst hm
  exact ⟨_, _, rfl, fun j q hj => ⟨_, rfl, by rw [addr_add0]; exact (h.cell hj).1⟩⟩
theorem ownN_form {W : World} {base n : Nat} {v : Value} {l : List Value} (h : W.ownsRow base 24 1 v n l) : ∃ A c, v = .slice A n c := by
  rcases h.2 with ⟨rfl, rfl⟩ | ⟨g, cap, cur, hv, -⟩
  · exact ⟨none, 0, rfl⟩
  · exact ⟨_, _, hv⟩
/-- What a cut leaves of the direct ones, in four. -/
theorem zap_four (x : Im) {p k : Nat} (hpk : p ≤ k) (hk : k ≤ 4 ∨ k = p) : ∃ e0 e1 e2 e3, zapL x.dir p k = [e0, e1, e2, e3] := by
  have hl : (zapL x.dir p k).length = 4 := by
    rcases hk with h | h
    · exact zapL_length x.dir hpk h
    · subst h; rw [zapL_start]; rfl
  match h : zapL x.dir p k, hl with
  | [a, b, c, d], _ => exact ⟨a, b, c, d, rfl⟩
/-- What a cut leaves, and answers. -/
def RCut (x : Im) (l : List Nat) (p : Nat) (e0 : Int) (Q : Nat → World → Prop) (m0 : Nat) (w : World) (y : Im) (v : Value) (e1 : Int) (w' : World) : Prop :=
  ((p ≤ 4 ∨ keepL l (p - 4) = l) ∧ e1 = 0 ∧ y = (if p ≤ 4 then x.cut p else x) ∧ U16s w' v (spareL x l p) ∧ Below w.heap.size w w') ∨
  (4 < p ∧ keepL l (p - 4) ≠ l ∧ e1 = e0 ∧ (e0 = 0 → y = x ∧ U16s w' v (spareL x l p)) ∧ (e0 ≠ 0 → y = Im.nought ∧ v = .slice none 0 0) ∧ Q w.heap.size w' ∧ Only (fun k => k = m0) w w')
set_option maxHeartbeats 8000000 in
theorem rcut_ok (rb : Nat) (G : Gm) (hG : G.ok) (x : Im) (hxf : x.fits) (p : Nat) (hp : p ≤ 36) (hf : fitB G x 0) (l : List Nat) (hl : l.length = 32) (hl0 : x.i = 0 → ∀ b ∈ l, b = 0) (e0 : Int) (w : World) (m0 : Nat) (hm : m0 < w.heap.size) (Q : Nat → World → Prop)
    (hQ : ∀ n V V', w.heap.size ≤ n → Q n V → (∀ k, k < w.heap.size ∨ n ≤ k → V'.heap[k]? = V.heap[k]?) → Q w.heap.size V')
    (hR : ∀ V, Below w.heap.size w V → Calls Tryz.prog 59 #[devp rb, gv G, x.v] V fun e w' => ∃ v, e = .returned (.tuple #[v, .int .i64 0]) ∧ OwnN w' V.heap.size v l ∧ Below V.heap.size V w')
    (hT : 4 < p → keepL l (p - 4) ≠ l → ∀ V v, Below w.heap.size w V → U16s V v (keepL l (p - 4)) → Calls Tryz.prog 60 #[devp rb, gv G, x.v, v] V fun e w' => e = .returned (.int .i64 e0) ∧ Q V.heap.size w' ∧ Only (fun k => k = m0) V w') :
    Calls Tryz.prog 39 #[devp rb, gv G, x.v, .int .i64 (p : Int)] w fun e w' => ∃ (y : Im) (v : Value) (e1 : Int), e = .returned (.tuple #[y.v, v, .int .i64 e1]) ∧ RCut x l p e0 Q m0 w y v e1 w' := by
  obtain ⟨hGe, hX, hZ, hB⟩ := box_giz w G.i G.b G.j x
  generalize hW : (((w.alloc (.cells #[.int .i64 G.i, .int .i64 G.b, .int .i64 G.j] 23)).alloc (.cells #[.int .u8 x.k, w16 x.n, .int .u32 x.z, w16 x.d0, w16 x.d1, w16 x.d2, w16 x.d3, w16 x.i] 28)).alloc (.cells #[.int .u8 0, .int .u16 0, .int .u32 0, .int .u16 0, .int .u16 0, .int .u16 0, .int .u16 0, .int .u16 0] 28)) = W0 at *
  obtain ⟨g0, g1, g2, x0, x1, x2, x3, x4, x5, x6, x7⟩ := Boxes.of hGe hX
  have HG := Lib.hid hGe
  have HX := Lib.hid hX
  have HZ := Lib.hid hZ
  have HB := Lib.hid hB
  have HW := Lib.hid hW
  clear hW hGe hX hZ hB
  have hM := fun V => refMay9_any G hG x hxf 0 (by first | omega | assumption) V
  rw [decide_eq_true hf] at hM
  have HM := Lib.hid (show ∀ V, Calls Tryz.prog 58 #[gv G, x.v, .int .u16 0] V fun e w' => e = .returned (.bool true) ∧ Below V.heap.size V w' from hM)
  clear hM
  have HR := Lib.hid hR
  have HT := Lib.hid hT
  have HQ := Lib.hid hQ
  have HL0 := Lib.hid hl0
  have hd0 : decide ((p : Int) < 0) = false := decide_eq_false (by omega)
  have hd1 : decide (36 < (p : Int)) = false := decide_eq_false (by omega)
  clear hR hT hQ hf hG hxf hl0
  go_enter Tryz.func39, Tryz.ntmps39
  go_wp2_with fail
  rw [HW.out]
  clear HW
  refine (HM.out _).mono ?_
  rintro e w1 ⟨rfl, hb⟩
  have HB1 := Lib.hid hb
  have HG1 := Lib.hid (HG.out.below HB1.out)
  have HX1 := Lib.hid (HX.out.below HB1.out HX.out.lt)
  obtain ⟨g0, g1, g2, x0, x1, x2, x3, x4, x5, x6, x7⟩ := Boxes.of HG1.out HX1.out
  have HZ1 := Lib.hid (HZ.out.below HB1.out HZ.out.lt)
  have HW1 := Lib.hid (HB.out.trans (HB1.out.mono HB.out.size))
  have hltZ := HZ1.out.lt
  clear hb
  go_wp2_with fail
  refine (HR.out _ HW1.out).mono ?_
  rintro e w2 ⟨v, rfl, hu, hb⟩
  have hG2 := HG1.out.below hb
  have hX2 := HX1.out.below hb HX1.out.lt
  have hZ2 := HZ1.out.below hb HZ1.out.lt
  have hsz2 := hb.size
  obtain ⟨g, cap, cur, rfl, hgb, hg, hcap, hcs⟩ := own_cells hu (by omega)
  rw [hl] at hcap
  have hgl : g < w2.heap.size := (Array.getElem?_eq_some_iff.1 hg).1
  have hgr : ∀ (j m : Nat), l[j]? = some m → cur[j]? = some (w16 m) := by
    intro j m hj
    obtain ⟨A, c', e, h⟩ := hu.u16s
    cases e
    obtain ⟨a, e, h⟩ := h j m hj
    cases e
    rw [addr_add0, cell_of_row w2 g j _ _ _ hg] at h
    exact h
  have HB2 := Lib.hid (HW1.out.trans (hb.mono HW1.out.size))
  have hnew := fun cs hcs => dir_new w2 cs hcs x.d0 x.d1 x.d2 x.d3
  have hD : (w2.alloc (.cells #[w16 x.d0, w16 x.d1, w16 x.d2, w16 x.d3] 26)).heap[w2.heap.size]? = some (.cells #[w16 x.d0, w16 x.d1, w16 x.d2, w16 x.d3] 26 (0, 0)) := heap_alloc_new w2 _
  have hb3 : Below w2.heap.size w2 (w2.alloc (.cells #[w16 x.d0, w16 x.d1, w16 x.d2, w16 x.d3] 26)) := (Below.refl _ _).alloc (Nat.le_refl _) _
  have HG3 := Lib.hid (hG2.below hb3)
  have HX3 := Lib.hid (hX2.below hb3 hX2.lt)
  have HZ3 := Lib.hid (hZ2.below hb3 hZ2.lt)
  have HB3 := Lib.hid (HB2.out.trans (hb3.mono HB2.out.size))
  have HGr := Lib.hid (⟨cur, (hb3.block g hgl).trans hg, hgr⟩ : ∃ cur, (w2.alloc (.cells #[w16 x.d0, w16 x.d1, w16 x.d2, w16 x.d3] 26)).heap[g]? = some (.cells cur 24 (0, 0)) ∧ ∀ (j m : Nat), l[j]? = some m → cur[j]? = some (w16 m))
  have hs3 : (w2.alloc (.cells #[w16 x.d0, w16 x.d1, w16 x.d2, w16 x.d3] 26)).heap.size = w2.heap.size + 1 := by simp
  have hzap : Zap (w2.heap.size + 1) (w2.alloc (.cells #[w16 x.d0, w16 x.d1, w16 x.d2, w16 x.d3] 26)) w2.heap.size 26 (zapL x.dir p p) (.slice none 0 0) (outL x.dir p p) (w2.alloc (.cells #[w16 x.d0, w16 x.d1, w16 x.d2, w16 x.d3] 26)) := by
    rw [zapL_start, outL_start]
    refine ⟨⟨_, hD, fun j m hj => ?_⟩, World.ownsRow_nil _ _ _ _, rfl, rfl, rfl, Nat.le_refl _, fun k _ _ => rfl⟩
    match j, hj with
    | 0, hj => cases hj; rfl
    | 1, hj => cases hj; rfl
    | 2, hj => cases hj; rfl
    | 3, hj => cases hj; rfl
  have HZap := Lib.hid hzap
  obtain ⟨x0, x1, x2, x3, x4, x5, x6, x7⟩ := Boxes.cells hX2
  obtain ⟨W3, hW3⟩ : ∃ W3, W3 = (w2.alloc (.cells #[w16 x.d0, w16 x.d1, w16 x.d2, w16 x.d3] 26)) := ⟨_, rfl⟩
  rw [← hW3] at HG3 HX3 HZ3 HB3 HGr hs3 HZap
  have HW3 := Lib.hid hW3
  clear hb hb3 hG2 hX2 hZ2 hu hg hgr hD hzap hW3
  rw [hl]
  go_wp2_with fail
  rw [← HW3.out]
  clear HW3 hnew
  go_loopw [13, 15] (fun vf kv wr => ∃ k : Nat, p ≤ k ∧ (k ≤ 4 ∨ k = p) ∧ kv = .int .i64 k ∧ Zap (w2.heap.size + 1) W3 w2.heap.size 26 (zapL x.dir p k) vf (outL x.dir p k) wr) (fun _ kv _ => 4 - (Go.RowKit.intOf kv).toNat)
  case atStart => exact ⟨p, Nat.le_refl _, .inr rfl, rfl, HZap.out⟩
  case round =>
    obtain ⟨k, hpk, hk4, rfl, hz⟩ := hrel
    by_cases hlt : k < 4
    · obtain ⟨b, hbk⟩ : ∃ b, x.dir[k]? = some b := ⟨_, List.getElem?_eq_getElem hlt⟩
      obtain ⟨hkd, hbe⟩ := List.getElem?_eq_some_iff.1 hbk
      have hget := zapL_get x.dir hpk hkd
      rw [hbe] at hget
      have hset := zapL_set x.dir hpk hkd
      have hout := outL_succ x.dir hpk hkd
      rw [hbe] at hout
      have hln := outL_length x.dir p k
      have hzl := zapL_length x.dir hpk (Nat.le_of_lt hkd)
      have HS := Lib.hid hset
      have hI : (k : Int) < 4 := by omega
      obtain ⟨hc, hfr⟩ := hz.cell hget
      by_cases hb0 : b = 0
      · have hz2 := hz.zero (by omega) (j := k) (by rw [hzl]; exact hkd)
        rw [hset] at hz2
        rw [if_pos hb0, List.append_nil] at hout
        have HO := Lib.hid hout
        have HZ2 := Lib.hid hz2
        have hne : ((b : Int) != 0) = false := by rw [hb0]; rfl
        clear hz hz2 hset hout hget hbk hbe hb0
        go_wp2_with fail
        go_roundw
        case rel => exact ⟨k + 1, by omega, by omega, by simp, by rw [HO.out]; exact HZ2.out⟩
        case measure => simp [Go.RowKit.intOf]; omega
      · obtain ⟨v', W', hap, hz2⟩ := hz.app (by omega) (by omega) (by have : x.dir.length = 4 := rfl; omega) b
        obtain ⟨hc2, hfr2⟩ := hz2.cell hget
        have hz3 := hz2.zero (by omega) (j := k) (by rw [hzl]; exact hkd)
        rw [hset] at hz3
        rw [if_neg hb0] at hout
        have HO := Lib.hid hout
        have HZ3' := Lib.hid hz3
        have hne : ((b : Int) != 0) = true := by simp; omega
        clear hz hz2 hz3 hset hout hget hbk hbe hb0
        go_wp2_with fail
        go_roundw
        case rel => exact ⟨k + 1, by omega, by omega, by simp, by rw [HO.out]; exact HZ3'.out⟩
        case measure => simp [Go.RowKit.intOf]; omega
    · obtain ⟨d0, d1, d2, d3, hde⟩ := zap_four x hpk hk4
      obtain ⟨c0, -⟩ := hz.cell (j := 0) (m := d0) (by rw [hde]; rfl)
      obtain ⟨c1, -⟩ := hz.cell (j := 1) (m := d1) (by rw [hde]; rfl)
      obtain ⟨c2, -⟩ := hz.cell (j := 2) (m := d2) (by rw [hde]; rfl)
      obtain ⟨c3, -⟩ := hz.cell (j := 3) (m := d3) (by rw [hde]; rfl)
      have hXr : InoAt wr (w.heap.size + 1) x := (hz.low _ (by omega) (by omega)).trans HX3.out
      have hGrr : GeoAt wr w.heap.size G.i G.b G.j := (hz.low _ (by omega) (by omega)).trans HG3.out
      have hZr : InoAt wr (w.heap.size + 1 + 1) Im.nought := (hz.low _ (by omega) (by omega)).trans HZ3.out
      obtain ⟨w4, hs4, hX4, ho4, hb4⟩ := dir_store hXr d0 d1 d2 d3
      have hG4 : GeoAt w4 w.heap.size G.i G.b G.j := (ho4 _ (by omega)).trans hGrr
      have hZ4 : InoAt w4 (w.heap.size + 1 + 1) Im.nought := (ho4 _ (by omega)).trans hZr
      obtain ⟨cg, hcg, hcgr⟩ := HGr.out
      have hrow4 : ∃ cur, w4.heap[g]? = some (.cells cur 24 (0, 0)) ∧ ∀ (j m : Nat), (zapL l (p - 4) (p - 4))[j]? = some m → cur[j]? = some (w16 m) := by
        rw [zapL_start]
        exact ⟨cg, (ho4 g (by omega)).trans ((hz.low g (by omega) (by omega)).trans hcg), hcgr⟩
      have hz4 := hz.turn (V' := w4) hrow4 (fun k hk _ => ho4 k (by omega))
      have hlow4 : ∀ k, k < w2.heap.size + 1 → k ≠ w.heap.size + 1 → k ≠ w2.heap.size → w4.heap[k]? = W3.heap[k]? := fun k h1 h2 h3 => (ho4 k h2).trans (hz.low k h1 h3)
      have hB4 : Below w.heap.size w w4 := by
        refine ⟨((hb4 0 (Nat.zero_le _)).os.trans hz.os).trans HB3.out.os, ((hb4 0 (Nat.zero_le _)).tape.trans hz.tape).trans HB3.out.tape, ((hb4 0 (Nat.zero_le _)).output.trans hz.output).trans HB3.out.output, Nat.le_trans HB3.out.size (Nat.le_trans hz.size (hb4 0 (Nat.zero_le _)).size), fun k hk => (hlow4 k (by omega) (by omega) (by omega)).trans (HB3.out.block k hk)⟩
      obtain ⟨A, fc, hvf⟩ := ownN_form hz4.own
      subst hvf
      have hn1 := outL_length x.dir p k
      have h4l : x.dir.length = 4 := rfl
      have HDe := Lib.hid hde
      have HX4 := Lib.hid hX4
      have HG4 := Lib.hid hG4
      have HZ4 := Lib.hid hZ4
      have HB4 := Lib.hid hB4
      have HZp4 := Lib.hid hz4
      have hw4 := (hb4 0 (Nat.zero_le _)).size
      have hszr := hz.size
      obtain ⟨a, ha⟩ : ∃ a, a = p - 4 := ⟨_, rfl⟩
      have hmx : max ((p : Int) - 4) 0 = (a : Int) := by omega
      have ha32 : a ≤ 32 := by omega
      rw [← ha] at HZp4
      have HA := Lib.hid ha
      obtain ⟨f1, hf1⟩ : ∃ f1, f1 = outL x.dir p k := ⟨_, rfl⟩
      rw [← hf1] at hn1 HZp4
      have HF1 := Lib.hid hf1
      clear hz hde hXr hGrr hZr hX4 ho4 hb4 hG4 hZ4 hcg hcgr hrow4 hz4 hlow4 hB4 hf1 ha
      rw [← HF1.out]
      go_wp2_with fail
      go_loopw [13, 17] (fun vf kv wx => ∃ k2 : Nat, a ≤ k2 ∧ k2 ≤ 32 ∧ kv = .int .i64 k2 ∧ Zap (w2.heap.size + 1) w4 g 24 (zapL l a k2) vf (f1 ++ outL l a k2) wx) (fun _ kv _ => 32 - (Go.RowKit.intOf kv).toNat)
      case atStart => exact ⟨a, Nat.le_refl _, ha32, rfl, by rw [outL_start, List.append_nil]; exact HZp4.out⟩
      case round =>
        obtain ⟨k2, hak, hk2, rfl, hz⟩ := hrel
        by_cases hlt2 : k2 < 32
        · obtain ⟨b, hbk⟩ : ∃ b, l[k2]? = some b := ⟨_, List.getElem?_eq_getElem (by omega)⟩
          obtain ⟨hkd, hbe⟩ := List.getElem?_eq_some_iff.1 hbk
          have hget := zapL_get l hak hkd
          rw [hbe] at hget
          have hset := zapL_set l hak hkd
          have hout := outL_succ l hak hkd
          rw [hbe] at hout
          have hln := outL_length l a k2
          have hzl := zapL_length l hak (Nat.le_of_lt hkd)
          have hI2 : (k2 : Int) < 32 := by omega
          obtain ⟨hc, hfr⟩ := hz.cell hget
          by_cases hb0 : b = 0
          · have hz2 := hz.zero (by omega) (j := k2) (by rw [hzl]; exact hkd)
            rw [hset] at hz2
            rw [if_pos hb0, List.append_nil] at hout
            have HO := Lib.hid hout
            have HZ2 := Lib.hid hz2
            have hne : ((b : Int) != 0) = false := by rw [hb0]; rfl
            clear hz hz2 hset hout hget hbk hbe hb0
            go_wp2_with fail
            go_roundw
            case rel => exact ⟨k2 + 1, by omega, by omega, by simp, by rw [HO.out]; exact HZ2.out⟩
            case measure => simp [Go.RowKit.intOf]; omega
          · obtain ⟨v', W', hap, hz2⟩ := hz.app (by omega) (by omega) (by rw [List.length_append]; omega) b
            obtain ⟨hc2, hfr2⟩ := hz2.cell hget
            have hz3 := hz2.zero (by omega) (j := k2) (by rw [hzl]; exact hkd)
            rw [hset] at hz3
            rw [if_neg hb0] at hout
            have HO := Lib.hid hout
            have HZ3' := Lib.hid hz3
            have hne : ((b : Int) != 0) = true := by simp; omega
            clear hz hz2 hz3 hset hout hget hbk hbe hb0
            go_wp2_with fail
            go_roundw
            case rel => exact ⟨k2 + 1, by omega, by omega, by simp, by rw [HO.out, ← List.append_assoc]; exact HZ3'.out⟩
            case measure => simp [Go.RowKit.intOf]; omega
        · obtain rfl : k2 = 32 := by omega
          have hU := zap_u16s hz (by rw [zapL_length l hak (by omega), hl]) (c := cap)
          rw [zapL_keep hl] at hU
          have hnilL := outL_nil hl ha32
          have hX5 : InoAt wr (w.heap.size + 1) ⟨x.k, x.n, x.z, d0, d1, d2, d3, x.i⟩ := (hz.low _ (by omega) (by omega)).trans HX4.out
          have hG5 : GeoAt wr w.heap.size G.i G.b G.j := (hz.low _ (by omega) (by omega)).trans HG4.out
          have hZ5 : InoAt wr (w.heap.size + 1 + 1) Im.nought := (hz.low _ (by omega) (by omega)).trans HZ4.out
          have hB5 : Below w.heap.size w wr := by
            refine ⟨hz.os.trans HB4.out.os, hz.tape.trans HB4.out.tape, hz.output.trans HB4.out.output, Nat.le_trans HB4.out.size hz.size, fun q hq => (hz.low q (by omega) (by omega)).trans (HB4.out.block q hq)⟩
          obtain ⟨A5, c5, hv5⟩ := ownN_form hz.own
          subst hv5
          have hall : f1 ++ outL l a 32 = ((x.dir ++ l).drop p).filter fun b => b != 0 := by
            rw [HF1.out, HA.out]
            exact out_all x hl hpk hk4 (by omega)
          have hszX := hz.size
          have hol := outL_length l a 32
          obtain ⟨g0, g1, g2, x0, x1, x2, x3, x4, x5, x6, x7⟩ := Boxes.of hG5 hX5
          have HU5 := Lib.hid hU
          have HX5 := Lib.hid hX5
          have HZ5 := Lib.hid hZ5
          have HB5 := Lib.hid hB5
          have HZp5 := Lib.hid hz
          have HAll := Lib.hid hall
          have HNil := Lib.hid hnilL
          have hfll : (f1 ++ outL l a 32).length = f1.length + (outL l a 32).length := List.length_append
          have HFl := Lib.hid hfll
          have hfl69 : (f1 ++ outL l a 32).length ≤ 40 := by omega
          clear hU hX5 hG5 hZ5 hB5 hall hnilL hfll
          generalize f1 ++ outL l a 32 = fl at *
          by_cases hA : x.i ≠ 0 ∧ p ≤ 4
          · obtain ⟨hi, hp4⟩ := hA
            obtain rfl : k = 4 := by omega
            have hcut := cut_dirs x hp4 HDe.out
            obtain ⟨v6, w6, hap, hz6⟩ := hz.app (by omega) (by omega) (by omega) x.i
            have hX6 := (hz6.low _ (by omega) (by omega)).trans HX4.out
            have hZ6 := (hz6.low _ (by omega) (by omega)).trans HZ4.out
            have hX7 : InoAt (w6.setCell ⟨w.heap.size + 1, 7, none⟩ (.int .u16 0)) (w.heap.size + 1) ⟨x.k, x.n, x.z, d0, d1, d2, d3, 0⟩ := setInd_cells hX6 0
            have hZ7 : InoAt (w6.setCell ⟨w.heap.size + 1, 7, none⟩ (.int .u16 0)) (w.heap.size + 1 + 1) Im.nought := (heap_setCell_other _ _ _ _ (by simp)).trans hZ6
            have h7 := (Boxes.cells hX6).2.2.2.2.2.2.2
            have hfr7 : w6.frozen? ⟨w.heap.size + 1, 7, none⟩ = false := frozen_of_row w6 _ _ _ _ hX6
            obtain ⟨y0, y1, y2, y3, y4, y5, y6, y7⟩ := Boxes.cells hX7
            obtain ⟨w8, hs8, hz8, ho8, hb8⟩ := ino_store hZ7 ⟨x.k, x.n, x.z, d0, d1, d2, d3, 0⟩
            have hsame : ∀ q, q ≠ w.heap.size + 1 → q ≠ w.heap.size + 1 + 1 → w8.heap[q]? = w6.heap[q]? := fun q h1 h2 => (ho8 q h2).trans (heap_setCell_other _ _ _ _ (by simpa using h1))
            have hu6 := u16s_own hz6.own
            have hu8 := hu6.kept (W' := w8) fun q hq => hsame q (by have := (hz6.own.lt q hq).1; omega) (by have := (hz6.own.lt q hq).1; omega)
            have hb8' := hb8 0 (Nat.zero_le _)
            have hB8 : Below w.heap.size w w8 := by
              refine ⟨(hb8'.os.trans hz6.os).trans HB4.out.os, (hb8'.tape.trans hz6.tape).trans HB4.out.tape, (hb8'.output.trans hz6.output).trans HB4.out.output, Nat.le_trans HB4.out.size (Nat.le_trans hz6.size (by simpa [World.setCell] using hb8'.size)), fun q hq => ((hsame q (by omega) (by omega)).trans (hz6.low q (by omega) (by omega))).trans (HB4.out.block q hq)⟩
            have hfin : U16s w8 v6 (spareL x l p) := by
              have e : fl ++ [x.i] = spareL x l p := by
                unfold spareL
                rw [HAll.out, if_neg (by omega)]
              rwa [e] at hu8
            have HFin := Lib.hid hfin
            have HB8 := Lib.hid hB8
            have HZ8 := Lib.hid hz8
            have HCut := Lib.hid hcut
            have hne : ((x.i : Int) != 0) = true := by simp; omega
            have hd4 : decide ((p : Int) ≤ 4) = true := decide_eq_true (by omega)
            clear hz hz6 hX6 hZ6 hX7 hZ7 ho8 hb8 hz8 hsame hu6 hu8 hb8' hB8 hfin hcut hi
            go_wp2_with fail
            refine bodyPost_ret (v := .tuple #[(⟨x.k, x.n, x.z, d0, d1, d2, d3, 0⟩ : Im).v, v6, .int .i64 0]) ?_ rfl ⟨_, v6, 0, rfl, .inl ⟨.inl hp4, rfl, by rw [if_pos hp4]; exact HCut.out, HFin.out, HB8.out⟩⟩
            exact results_row_tmp2 (p := 8) (q := 9) (s := 10) rfl _ _ (w.heap.size + 1 + 1) _ rfl (ino_var HZ8.out)
          · have hAf : (((x.i : Int) != 0) = false) ∨ (((x.i : Int) != 0) = true ∧ decide ((p : Int) ≤ 4) = false) := by
              by_cases hi : x.i = 0
              · exact .inl (by rw [hi]; rfl)
              · exact .inr ⟨by simp; omega, decide_eq_false (by have : ¬ p ≤ 4 := fun e => hA ⟨hi, e⟩; omega)⟩
            rcases hAf with hib | ⟨hib, hd4⟩
            · by_cases hon : outL l a 32 = []
              · have hlen0 : fl.length = f1.length := by rw [HFl.out, hon]; simp
                have hdl : decide (f1.length < fl.length) = false := decide_eq_false (by omega)
                have hdl2 : decide ((f1.length : Int) < (fl.length : Int)) = false := decide_eq_false (by omega)
                obtain ⟨w8, hs8, hz8, ho8, hb8⟩ := ino_store HZ5.out ⟨x.k, x.n, x.z, d0, d1, d2, d3, x.i⟩
                have hu5 := u16s_own HZp5.out.own
                have hu8 := hu5.kept (W' := w8) fun q hq => ho8 q (by have := (HZp5.out.own.lt q hq).1; omega)
                have HB8 := Lib.hid (HB5.out.trans (hb8 _ (by omega)))
                have HZ8 := Lib.hid hz8
                have hfin : RCut x l p e0 Q m0 w ⟨x.k, x.n, x.z, d0, d1, d2, d3, x.i⟩ (.slice A5 fl.length c5) 0 w8 := by
                  have hkl : keepL l (p - 4) = l := by rw [← HA.out]; exact HNil.out.1 hon
                  have e : fl = spareL x l p := by
                    unfold spareL
                    rw [HAll.out, if_pos (by omega), List.append_nil]
                  refine .inl ⟨.inr hkl, rfl, ?_, by rw [← e]; exact hu8, HB8.out⟩
                  by_cases hp4 : p ≤ 4
                  · rw [if_pos hp4]
                    obtain rfl : k = 4 := by omega
                    have hi0 : x.i = 0 := by omega
                    have := cut_dirs x hp4 HDe.out
                    rw [← this, hi0]
                  · rw [if_neg hp4]
                    obtain rfl : k = p := by omega
                    exact keep_dirs x HDe.out
                have HFin := Lib.hid hfin
                have HLen := Lib.hid hlen0
                clear hz ho8 hb8 hz8 hu5 hu8 hfin hA hon hlen0
                go_wp2_with fail
                refine bodyPost_ret (v := .tuple #[(⟨x.k, x.n, x.z, d0, d1, d2, d3, x.i⟩ : Im).v, .slice A5 fl.length c5, .int .i64 0]) ?_ rfl ⟨_, _, 0, rfl, HFin.out⟩
                exact results_row_tmp2 (p := 8) (q := 9) (s := 10) rfl _ _ (w.heap.size + 1 + 1) _ rfl (ino_var HZ8.out)
              · exact absurd (by
                  have hi0 : x.i = 0 := by
                    have h := hib
                    simp at h
                    omega
                  have h0 := HL0.out hi0
                  unfold outL
                  rw [List.filter_eq_nil_iff]
                  intro b hb
                  have := h0 b (List.mem_of_mem_take (List.mem_of_mem_drop hb))
                  simp [this]) hon
            · by_cases hon : outL l a 32 = []
              · have hlen0 : fl.length = f1.length := by rw [HFl.out, hon]; simp
                have hdl : decide (f1.length < fl.length) = false := decide_eq_false (by omega)
                have hdl2 : decide ((f1.length : Int) < (fl.length : Int)) = false := decide_eq_false (by omega)
                obtain ⟨w8, hs8, hz8, ho8, hb8⟩ := ino_store HZ5.out ⟨x.k, x.n, x.z, d0, d1, d2, d3, x.i⟩
                have hu5 := u16s_own HZp5.out.own
                have hu8 := hu5.kept (W' := w8) fun q hq => ho8 q (by have := (HZp5.out.own.lt q hq).1; omega)
                have HB8 := Lib.hid (HB5.out.trans (hb8 _ (by omega)))
                have HZ8 := Lib.hid hz8
                have hfin : RCut x l p e0 Q m0 w ⟨x.k, x.n, x.z, d0, d1, d2, d3, x.i⟩ (.slice A5 fl.length c5) 0 w8 := by
                  have hkl : keepL l (p - 4) = l := by rw [← HA.out]; exact HNil.out.1 hon
                  have e : fl = spareL x l p := by
                    unfold spareL
                    rw [HAll.out, if_pos (by omega), List.append_nil]
                  refine .inl ⟨.inr hkl, rfl, ?_, by rw [← e]; exact hu8, HB8.out⟩
                  by_cases hp4 : p ≤ 4
                  · rw [if_pos hp4]
                    obtain rfl : k = 4 := by omega
                    have hi0 : x.i = 0 := by omega
                    have := cut_dirs x hp4 HDe.out
                    rw [← this, hi0]
                  · rw [if_neg hp4]
                    obtain rfl : k = p := by omega
                    exact keep_dirs x HDe.out
                have HFin := Lib.hid hfin
                have HLen := Lib.hid hlen0
                clear hz ho8 hb8 hz8 hu5 hu8 hfin hA hon hlen0
                go_wp2_with fail
                refine bodyPost_ret (v := .tuple #[(⟨x.k, x.n, x.z, d0, d1, d2, d3, x.i⟩ : Im).v, .slice A5 fl.length c5, .int .i64 0]) ?_ rfl ⟨_, _, 0, rfl, HFin.out⟩
                exact results_row_tmp2 (p := 8) (q := 9) (s := 10) rfl _ _ (w.heap.size + 1 + 1) _ rfl (ino_var HZ8.out)
              · have hi : x.i ≠ 0 := fun hi => hon (by
                  have h0 := HL0.out hi
                  unfold outL
                  rw [List.filter_eq_nil_iff]
                  intro b hb
                  have := h0 b (List.mem_of_mem_take (List.mem_of_mem_drop hb))
                  simp [this])
                have hp4 : 4 < p := by omega
                have hkl : keepL l (p - 4) ≠ l := fun e => hon (HNil.out.2 (by rw [HA.out]; exact e))
                obtain rfl : k = p := by omega
                have hde := HDe.out
                rw [zapL_start] at hde
                injection hde with ea hde; injection hde with eb hde; injection hde with ec hde; injection hde with ed hde
                subst ea eb ec ed
                have hpos : 0 < (outL l a 32).length := List.length_pos_iff.2 hon
                have hlen1 := HFl.out
                have hdl : decide (f1.length < fl.length) = true := decide_eq_true (by omega)
                have hdl2 : decide ((f1.length : Int) < (fl.length : Int)) = true := decide_eq_true (by omega)
                have hU6 := HU5.out
                rw [HA.out] at hU6
                have HTell := Lib.hid (HT.out hp4 hkl _ _ HB5.out hU6)
                have HOn := Lib.hid hon
                have HP4 := Lib.hid hp4
                have HKl := Lib.hid hkl
                have HLen := Lib.hid hlen1
                clear hz hA hon hp4 hkl hde hU6 hlen1 hpos hi
                go_wp2_with fail
                refine HTell.out.mono ?_
                rintro e w6 ⟨rfl, hq6, ho6⟩
                have hX6 : InoAt w6 (w.heap.size + 1) x := (ho6.block _ HX5.out.lt (by omega)).trans HX5.out
                have hZ6 : InoAt w6 (w.heap.size + 1 + 1) Im.nought := (ho6.block _ HZ5.out.lt (by omega)).trans HZ5.out
                have hu6 : U16s w6 (.slice A5 fl.length c5) fl := (u16s_own HZp5.out.own).kept' fun q hq hql => ho6.block q hql (by have := (HZp5.out.own.lt q hq).1; omega)
                have hown6 : ∀ q, (Value.slice A5 fl.length c5).ownBlock = some q → w2.heap.size + 1 ≤ q := fun q hq => (HZp5.out.own.lt q hq).1
                have hlt5 := HZ5.out.lt
                have hle5 := HB5.out.size
                have ho0 : Only (fun q => q = m0) w w6 := (Only.of_below (S := fun q => q = m0) HB5.out).trans ho6 fun q hq => .inl hq
                obtain ⟨y0, y1, y2, y3, y4, y5, y6, y7⟩ := Boxes.cells hX6
                have HO := Lib.hid ho0
                have HQ6 := Lib.hid hq6
                have HZ6 := Lib.hid hZ6
                clear ho0 ho6 hq6 hX6 hZ6
                by_cases hr : e0 = 0
                · obtain ⟨w7, hs7, hz7, ho7, hb7⟩ := ino_store HZ6.out x
                  have HZ7 := Lib.hid hz7
                  have hu7 := hu6.kept (W' := w7) fun q hq => ho7 q (by have := hown6 q hq; omega)
                  have HQ7 := Lib.hid (HQ.out _ w6 w7 hle5 HQ6.out fun q hq => ho7 q (by omega))
                  have HO7 := Lib.hid (HO.out.trans ⟨(hb7 0 (Nat.zero_le _)).os, (hb7 0 (Nat.zero_le _)).tape, (hb7 0 (Nat.zero_le _)).output, (hb7 0 (Nat.zero_le _)).size, fun q _ hn => ho7 q hn⟩ (S' := fun q => q = w.heap.size + 1 + 1) fun q hq => .inr (by omega))
                  have hfin : RCut x l k e0 Q m0 w x (.slice A5 fl.length c5) e0 w7 := by
                    have e : fl = spareL x l k := by
                      unfold spareL
                      rw [HAll.out, if_pos (.inr HP4.out), List.append_nil]
                    exact .inr ⟨HP4.out, HKl.out, rfl, fun _ => ⟨rfl, by rw [← e]; exact hu7⟩, fun h => absurd hr h, HQ7.out, HO7.out⟩
                  have HFin := Lib.hid hfin
                  have HR0 := Lib.hid hr
                  have hne : (e0 != 0) = false := by simpa using hr
                  clear hz7 ho7 hb7 hr hu7 hfin hu6 hown6
                  go_wp2_with fail
                  refine bodyPost_ret (v := .tuple #[x.v, .slice A5 fl.length c5, .int .i64 e0]) ?_ rfl ⟨x, _, e0, rfl, HFin.out⟩
                  rw [HR0.out]
                  exact results_row_tmp2 (p := 8) (q := 9) (s := 10) rfl _ _ (w.heap.size + 1 + 1) _ rfl (ino_var HZ7.out)
                · obtain ⟨w7, hs, hz7, ho7, hb7⟩ := ino_store HZ6.out Im.nought
                  have hs7 : (inoStore (.pointer (some ⟨w.heap.size + 1 + 1, 0, none⟩)) (.agg #[.int .u8 0, .int .u16 0, .int .u32 0, .int .u16 0, .int .u16 0, .int .u16 0, .int .u16 0, .int .u16 0])).run Tryz.prog w6 = .ok () w7 := hs
                  have HZ7 := Lib.hid hz7
                  have HQ7 := Lib.hid (HQ.out _ w6 w7 hle5 HQ6.out fun q hq => ho7 q (by omega))
                  have HO7 := Lib.hid (HO.out.trans ⟨(hb7 0 (Nat.zero_le _)).os, (hb7 0 (Nat.zero_le _)).tape, (hb7 0 (Nat.zero_le _)).output, (hb7 0 (Nat.zero_le _)).size, fun q _ hn => ho7 q hn⟩ (S' := fun q => q = w.heap.size + 1 + 1) fun q hq => .inr (by omega))
                  have hfin : RCut x l k e0 Q m0 w Im.nought (.slice none 0 0) e0 w7 := .inr ⟨HP4.out, HKl.out, rfl, fun h => absurd h hr, fun _ => ⟨rfl, rfl⟩, HQ7.out, HO7.out⟩
                  have HFin := Lib.hid hfin
                  have hne : (e0 != 0) = true := by simpa using hr
                  clear hz7 ho7 hb7 hr hs hfin hu6 hown6
                  go_wp2_with fail
                  refine bodyPost_ret (v := .tuple #[Im.nought.v, .slice none 0 0, .int .i64 e0]) ?_ rfl ⟨_, _, e0, rfl, HFin.out⟩
                  exact results_row_tmp2 (p := 8) (q := 9) (s := 10) rfl _ _ (w.heap.size + 1 + 1) _ rfl (ino_var HZ7.out)
set_option maxHeartbeats 4000000 in
theorem rall_of (r : Value) (G : Gm) (x : Im) (y : Im) (fl : List Nat) (e0 : Int) (w : World) (hC : ∀ V, Below w.heap.size w V → Calls Tryz.prog 39 #[r, gv G, x.v, .int .i64 0] V fun e w' => ∃ v, e = .returned (.tuple #[y.v, v, .int .i64 e0]) ∧ U16s w' v fl ∧ Below V.heap.size V w') :
    Calls Tryz.prog 36 #[r, gv G, x.v] w fun e w' => ∃ v, e = .returned (.tuple #[v, .int .i64 e0]) ∧ U16s w' v fl ∧ Below w.heap.size w w' := by
  obtain ⟨hG, hX, hB⟩ := box_gi w G.i G.b G.j x
  generalize hW : ((w.alloc (.cells #[.int .i64 G.i, .int .i64 G.b, .int .i64 G.j] 23)).alloc (.cells #[.int .u8 x.k, w16 x.n, .int .u32 x.z, w16 x.d0, w16 x.d1, w16 x.d2, w16 x.d3, w16 x.i] 28)) = W0 at *
  have HB := Lib.hid hB
  have HW := Lib.hid hW
  have HC := Lib.hid hC
  clear hW hG hX hB hC
  go_enter Tryz.func36, Tryz.ntmps36
  go_wp2_with fail
  rw [HW.out]
  clear HW
  refine (HC.out _ HB.out).mono ?_
  rintro e w1 ⟨v, rfl, hu, hb⟩
  have hZ : InoAt (w1.alloc (.cells #[.int .u8 0, .int .u16 0, .int .u32 0, .int .u16 0, .int .u16 0, .int .u16 0, .int .u16 0, .int .u16 0] 28)) w1.heap.size Im.nought := heap_alloc_new w1 _
  have hb1 : Below w1.heap.size w1 (w1.alloc (.cells #[.int .u8 0, .int .u16 0, .int .u32 0, .int .u16 0, .int .u16 0, .int .u16 0, .int .u16 0, .int .u16 0] 28)) := (Below.refl _ _).alloc (Nat.le_refl _) _
  obtain ⟨w2, hs, -, -, hb2⟩ := ino_store hZ y
  have hb12 := hb1.trans (hb2 _ (Nat.le_refl _))
  have HU := Lib.hid (hu.below hb12)
  have HB2 := Lib.hid ((HB.out.trans (hb.mono HB.out.size)).trans (hb12.mono (Nat.le_trans HB.out.size hb.size)))
  clear hu hb hZ hb1 hb2 hb12
  go_wp2_with fail
  go_ret2
  exact ⟨v, rfl, HU.out, HB2.out⟩
end Go.Proofs.YtdddennhdbmolaaGreat
