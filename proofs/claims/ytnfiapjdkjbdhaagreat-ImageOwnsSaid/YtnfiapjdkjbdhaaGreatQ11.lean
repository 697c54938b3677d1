import Derived.Test.YtnfiapjdkjbdhaaGreatQ10
import Derived.Deep.CutRange
import Derived.Deep.RegionWith
namespace Go.Proofs.YtnfiapjdkjbdhaaGreat
open Go.RowKit
set_option linter.unusedVariables false
set_option linter.unusedSimpArgs false
set_option maxRecDepth 10000
theorem results_row_tmp' {fn : Func} {p q : Tmp} {ty : TypeId} {P : Program} (h : fn.results = #[.cell p ty, .tmp q]) (tmps : Array Value) (w : World) (g : Nat) (v : Value)
    (hp : tmps.getD p undef = .pointer (some ⟨g, 0, none⟩)) (hl : (loadVar ty ⟨g, 0, none⟩).run P w = .ok v w) :
    (results fn tmps).run P w = .ok (.tuple #[v, tmps.getD q undef]) w := by
  have hp' : tmps[p]?.getD undef = .pointer (some ⟨g, 0, none⟩) := by simpa using hp
  simp [results, h, hp', asAddr, hl]
theorem load_ino (W : World) (g : Nat) (x : Im) (h : W.heap[g]? = some (.cells #[.int .u8 x.k, w16 x.n, .int .u32 x.z, w16 x.d0, w16 x.d1, w16 x.d2, w16 x.d3, w16 x.i] 41 (0, 0))) : (loadVar 41 ⟨g, 0, none⟩).run Tryz.prog W = .ok x.v W :=
  run_loadVar_row W g 41 41 _ (0, 0) _ h Tryz.underlying41 rfl (by kernel_rfl)
theorem set8 {W : World} {g : Nat} {t : TypeId} {o0 o1 o2 o3 o4 o5 o6 o7 : Value} (h : W.heap[g]? = some (.cells #[o0, o1, o2, o3, o4, o5, o6, o7] t (0, 0))) (a b c d e f i j : Value) :
    ((((((((W.setCell ⟨g, 0, none⟩ a).setCell ⟨g, 1, none⟩ b).setCell ⟨g, 2, none⟩ c).setCell ⟨g, 3, none⟩ d).setCell ⟨g, 4, none⟩ e).setCell ⟨g, 5, none⟩ f).setCell ⟨g, 6, none⟩ i).setCell ⟨g, 7, none⟩ j).heap[g]? = some (.cells #[a, b, c, d, e, f, i, j] t (0, 0)) := by
  have h1 : (W.setCell ⟨g, 0, none⟩ a).heap[g]? = some (.cells #[a, o1, o2, o3, o4, o5, o6, o7] t (0, 0)) := heap_setCell_same _ g 0 _ t a h
  have h2 : ((W.setCell ⟨g, 0, none⟩ a).setCell ⟨g, 1, none⟩ b).heap[g]? = some (.cells #[a, b, o2, o3, o4, o5, o6, o7] t (0, 0)) := heap_setCell_same _ g 1 _ t b h1
  have h3 : (((W.setCell ⟨g, 0, none⟩ a).setCell ⟨g, 1, none⟩ b).setCell ⟨g, 2, none⟩ c).heap[g]? = some (.cells #[a, b, c, o3, o4, o5, o6, o7] t (0, 0)) := heap_setCell_same _ g 2 _ t c h2
  have h4 : ((((W.setCell ⟨g, 0, none⟩ a).setCell ⟨g, 1, none⟩ b).setCell ⟨g, 2, none⟩ c).setCell ⟨g, 3, none⟩ d).heap[g]? = some (.cells #[a, b, c, d, o4, o5, o6, o7] t (0, 0)) := heap_setCell_same _ g 3 _ t d h3
  have h5 : (((((W.setCell ⟨g, 0, none⟩ a).setCell ⟨g, 1, none⟩ b).setCell ⟨g, 2, none⟩ c).setCell ⟨g, 3, none⟩ d).setCell ⟨g, 4, none⟩ e).heap[g]? = some (.cells #[a, b, c, d, e, o5, o6, o7] t (0, 0)) := heap_setCell_same _ g 4 _ t e h4
  have h6 : ((((((W.setCell ⟨g, 0, none⟩ a).setCell ⟨g, 1, none⟩ b).setCell ⟨g, 2, none⟩ c).setCell ⟨g, 3, none⟩ d).setCell ⟨g, 4, none⟩ e).setCell ⟨g, 5, none⟩ f).heap[g]? = some (.cells #[a, b, c, d, e, f, o6, o7] t (0, 0)) := heap_setCell_same _ g 5 _ t f h5
  have h7 : (((((((W.setCell ⟨g, 0, none⟩ a).setCell ⟨g, 1, none⟩ b).setCell ⟨g, 2, none⟩ c).setCell ⟨g, 3, none⟩ d).setCell ⟨g, 4, none⟩ e).setCell ⟨g, 5, none⟩ f).setCell ⟨g, 6, none⟩ i).heap[g]? = some (.cells #[a, b, c, d, e, f, i, o7] t (0, 0)) := heap_setCell_same _ g 6 _ t i h6
  have h8 : ((((((((W.setCell ⟨g, 0, none⟩ a).setCell ⟨g, 1, none⟩ b).setCell ⟨g, 2, none⟩ c).setCell ⟨g, 3, none⟩ d).setCell ⟨g, 4, none⟩ e).setCell ⟨g, 5, none⟩ f).setCell ⟨g, 6, none⟩ i).setCell ⟨g, 7, none⟩ j).heap[g]? = some (.cells #[a, b, c, d, e, f, i, j] t (0, 0)) := heap_setCell_same _ g 7 _ t j h7
  exact h8
theorem run_copy_at (W : World) (g o d dl dc sl sc n : Nat) (t : TypeId) (cs : List Value) (old : Array Value) (hn : cs.length = Nat.min sl dl) (h1 : ∀ v ∈ cs, v.oneCell' = true)
    (hsrc : ∀ j v, cs[j]? = some v → W.cell? ⟨g, o + j, none⟩ = some v) (hsz : d + cs.length ≤ old.size) (hW : n = W.heap.size) :
    (Builtin.copy_ #[75, 75] 3 #[.slice (some ⟨n, d, none⟩) dl dc, .slice (some ⟨g, o, none⟩) sl sc]).run Tryz.prog (W.alloc (.cells old t)).drew.drew = .ok (goInt cs.length) (W.alloc (.cells (fillA old d cs) t)).drew.drew := by
  subst hW
  have hb : (W.alloc (.cells old t)).drew.drew.heap[W.heap.size]? = some (.cells old t (0, 0)) := heap_alloc_new W _
  rw [run_copy_cells (W.alloc (.cells old t)).drew.drew 75 75 3 38 W.heap.size d dl dc ⟨g, o, none⟩ sl sc cs Tryz.underlying75 (by kernel_rfl) hn
    (fun j v hj => by
      have h := cell_alloc_old (.cells old t) (hsrc j v hj)
      unfold Addr.add
      split
      · rename_i e; subst e; simpa using h
      · exact h)
    (fun j hj => by
      rw [cell_of_row _ W.heap.size (d + j) old t (0, 0) hb]
      simp; omega)
    (fun j hj => frozen_of_row _ W.heap.size _ old t hb) h1, setCells_drew, setCells_drew, setCells_new]
def getV : Option Im → Value
  | some x => .tuple #[x.v, .int .i64 0]
  | none => .tuple #[Im.nought.v, .int .i64 7]
theorem or32 (a b : Nat) (ha : a < 65536) (hb : b < 65536) : bits .or .u32 (a : Int) ((b : Int) * 65536) = ((a + 65536 * b : Nat) : Int) := by
  have e : (b : Int) * 65536 = ((65536 * b : Nat) : Int) := by omega
  rw [e, u32_or_nat _ _ (by omega) (by omega), Nat.or_comm, nat_join 16 _ _ (by omega) (by omega), Nat.add_comm]
end Go.Proofs.YtnfiapjdkjbdhaaGreat
/- Layer 7 (inode): Get. Written by tools/geninode9.py. -/
namespace Go.Proofs.YtnfiapjdkjbdhaaGreat
open Go.RowKit
set_option linter.unusedVariables false
set_option linter.unusedSimpArgs false
set_option maxRecDepth 10000
set_option maxHeartbeats 40000000 in
theorem iget_32 (s : List UInt8) (w : World) (h : s.length = 32) :
    Calls Tryz.prog 71 #[str s] w fun e w' => e = .returned (getV (getL s)) ∧ Below w.heap.size w w' := by
  have HS := Lib.hid fun W => sized_ok s 32 W (by omega) h
  have HN := Lib.hid fun W => numbers_any s 16 W h (by omega) (by omega)
  have hn : ∀ j, j < 16 → (numCells (numsL s))[j]? = some (w16 (num2 s j)) := fun j hj => numCells_at _ j _ (by
    unfold numsL; rw [h, List.getElem?_map, List.getElem?_range (by omega)]; rfl)
  have Hn := Lib.hid hn
  have b0 := num2_lt s 0
  have b1 := num2_lt s 1
  have b2 := num2_lt s 2
  have b3 := num2_lt s 3
  have HX : Hid (getI s = ⟨num2 s 0 % 256, num2 s 1, num2 s 2 + 65536 * num2 s 3, num2 s 4, num2 s 5, num2 s 6, num2 s 7, num2 s 8⟩) := Lib.hid rfl
  have HF := Lib.hid (getI_fits s)
  have h8 : IntKind.u8.wrap (num2 s 0 : Int) = ((num2 s 0 % 256 : Nat) : Int) := by simp [IntKind.wrap, IntKind.bits, IntKind.signed]
  have hor := or32 (num2 s 2) (num2 s 3) b2 b3
  clear hn h
  go_enter Tryz.func71, Tryz.ntmps71
  go_wp2_with fail
  refine (HS.out _).mono ?_
  rintro e w1 ⟨rfl, rfl⟩
  go_wp2_with fail
  refine (HN.out _).mono ?_
  rintro e w2 ⟨g, rfl, hg, hgw, hb⟩
  have hE := (hb.block w.heap.size (by simp)).trans (heap_alloc_new w (.cells #[.int .u8 0, .int .u16 0, .int .u32 0, .int .u16 0, .int .u16 0, .int .u16 0, .int .u16 0, .int .u16 0] 41))
  have hB := (((Below.refl w.heap.size w).alloc (Nat.le_refl _) (.cells #[.int .u8 0, .int .u16 0, .int .u32 0, .int .u16 0, .int .u16 0, .int .u16 0, .int .u16 0, .int .u16 0] 41))).trans (hb.mono (by simp))
  have hgw2 : w.heap.size < g := by simp at hgw; omega
  have r0 := cell_of_row w2 g 0 _ 38 (0, 0) hg
  have r1 := cell_of_row w2 g 1 _ 38 (0, 0) hg
  have r2 := cell_of_row w2 g 2 _ 38 (0, 0) hg
  have r3 := cell_of_row w2 g 3 _ 38 (0, 0) hg
  have r4 := cell_of_row w2 g 4 _ 38 (0, 0) hg
  have r5 := cell_of_row w2 g 5 _ 38 (0, 0) hg
  have r6 := cell_of_row w2 g 6 _ 38 (0, 0) hg
  have r7 := cell_of_row w2 g 7 _ 38 (0, 0) hg
  have r8 := cell_of_row w2 g 8 _ 38 (0, 0) hg
  rw [Hn.out 0 (by omega)] at r0
  rw [Hn.out 1 (by omega)] at r1
  rw [Hn.out 2 (by omega)] at r2
  rw [Hn.out 3 (by omega)] at r3
  rw [Hn.out 4 (by omega)] at r4
  rw [Hn.out 5 (by omega)] at r5
  rw [Hn.out 6 (by omega)] at r6
  rw [Hn.out 7 (by omega)] at r7
  rw [Hn.out 8 (by omega)] at r8
  have HE := Lib.hid hE
  have HB := Lib.hid hB
  have hgl := row_lt' hg
  clear hE hB hg hb hgw Hn
  generalize num2 s 0 % 256 = k0 at *
  generalize num2 s 2 + 65536 * num2 s 3 = z0 at *
  generalize num2 s 0 = n0 at *
  generalize num2 s 1 = n1 at *
  generalize num2 s 2 = n2 at *
  generalize num2 s 3 = n3 at *
  generalize num2 s 4 = n4 at *
  generalize num2 s 5 = n5 at *
  generalize num2 s 6 = n6 at *
  generalize num2 s 7 = n7 at *
  generalize num2 s 8 = n8 at *
  have hw2 : IntKind.u32.wrap (n2 : Int) = (n2 : Int) := IntWalk.u32_in _ (by omega)
  have hw3 : IntKind.u32.wrap (n3 : Int) = (n3 : Int) := IntWalk.u32_in _ (by omega)
  have hw4 : IntKind.u32.wrap ((n3 : Int) * 65536) = (n3 : Int) * 65536 := IntWalk.u32_in _ (by omega)
  go_wp2_with fail
  have HC4 := Lib.hid (four_src r4 r5 r6 r7)
  have hgX : g < w2.heap.size := hgl
  go_region
  clear r0 r1 r2 r3 r4 r5 r6 r7 r8 hw2 hw3 hw4 hor h8
  have hcp : (Builtin.copy_ #[75, 75] 3 #[.slice (some ⟨w2.heap.size, 3, none⟩) 4 4, .slice (some ⟨g, 4, none⟩) 12 12]).run Tryz.prog (w2.alloc (.cells #[.int .u8 k0, w16 n1, .int .u32 z0, .int .u16 0, .int .u16 0, .int .u16 0, .int .u16 0, w16 n8] 41)).drew.drew =
      .ok (goInt 4) (w2.alloc (.cells #[.int .u8 k0, w16 n1, .int .u32 z0, w16 n4, w16 n5, w16 n6, w16 n7, w16 n8] 41)).drew.drew :=
    run_copy_at w2 g 4 3 4 4 12 12 _ 41 [w16 n4, w16 n5, w16 n6, w16 n7] _ rfl (by simp [Value.oneCell']) HC4.out (by simp) rfl
  go_wp2_with fail
  go_region
  have hD : (w2.alloc (.cells #[.int .u8 k0, w16 n1, .int .u32 z0, w16 n4, w16 n5, w16 n6, w16 n7, w16 n8] 41)).drew.drew.heap[w2.heap.size]? = some (.cells #[.int .u8 k0, w16 n1, .int .u32 z0, w16 n4, w16 n5, w16 n6, w16 n7, w16 n8] 41 (0, 0)) := heap_alloc_new w2 _
  have hA : Below w2.heap.size w2 (w2.alloc (.cells #[.int .u8 k0, w16 n1, .int .u32 z0, w16 n4, w16 n5, w16 n6, w16 n7, w16 n8] 41)).drew.drew := (((Below.refl w2.heap.size w2).alloc (Nat.le_refl _) _).drew).drew
  have hlt2 : w.heap.size < w2.heap.size := by omega
  have hE := (hA.block w.heap.size hlt2).trans HE.out
  have HB := Lib.hid (HB.out.trans (hA.mono (by omega)))
  clear hcp hA HE HC4
  generalize (w2.alloc (.cells #[.int .u8 k0, w16 n1, .int .u32 z0, w16 n4, w16 n5, w16 n6, w16 n7, w16 n8] 41)).drew.drew = W3 at *
  generalize w2.heap.size = gx at *
  have hxf : (⟨k0, n1, z0, n4, n5, n6, n7, n8⟩ : Im).fits := by rw [← HX.out]; exact HF.out
  have HG : Hid (getL s = if (⟨k0, n1, z0, n4, n5, n6, n7, n8⟩ : Im).may ∧ (⟨k0, n1, z0, n4, n5, n6, n7, n8⟩ : Im).putL = s then some ⟨k0, n1, z0, n4, n5, n6, n7, n8⟩ else none) := Lib.hid (by unfold getL; rw [HX.out])
  clear HX HF hgX hgl hgw2 b0 b1 b2 b3 HS HN
  have d0 := cell_of_row W3 gx 0 _ 41 (0, 0) hD
  have d1 := cell_of_row W3 gx 1 _ 41 (0, 0) hD
  have d2 := cell_of_row W3 gx 2 _ 41 (0, 0) hD
  have d3 := cell_of_row W3 gx 3 _ 41 (0, 0) hD
  have d4 := cell_of_row W3 gx 4 _ 41 (0, 0) hD
  have d5 := cell_of_row W3 gx 5 _ 41 (0, 0) hD
  have d6 := cell_of_row W3 gx 6 _ 41 (0, 0) hD
  have d7 := cell_of_row W3 gx 7 _ 41 (0, 0) hD
  simp only [List.getElem?_toArray, List.getElem?_cons_zero, List.getElem?_cons_succ] at d0 d1 d2 d3 d4 d5 d6 d7
  have HD := Lib.hid hD
  have HE := Lib.hid hE
  have hlt3 := row_lt' hD
  have hlt4 := row_lt' hE
  clear hD hE
  by_cases hm : (⟨k0, n1, z0, n4, n5, n6, n7, n8⟩ : Im).may
  case neg =>
    have HR : Hid (getL s = none) := Lib.hid (by rw [HG.out, if_neg (fun h => hm h.1)])
    have HP : Hid (∀ W, Calls Tryz.prog 43 #[.agg #[.int .u8 k0, w16 n1, .int .u32 z0, w16 n4, w16 n5, w16 n6, w16 n7, w16 n8]] W fun e w' => e = .returned (.tuple #[str [], .int .i64 2]) ∧ Below W.heap.size W w') := Lib.hid fun W => put_bad ⟨k0, n1, z0, n4, n5, n6, n7, n8⟩ hxf hm W
    clear hm HG
    go_wp2_with fail
    refine (HP.out _).mono ?_
    rintro e W4 ⟨rfl, hb⟩
    have hE := (hb.block _ hlt4).trans HE.out
    have HB := Lib.hid (HB.out.trans (hb.mono HB.out.size))
    clear hb d0 d1 d2 d3 d4 d5 d6 d7
    have c0 := cell_of_row W4 w.heap.size 0 _ 41 (0, 0) hE
    have c1 := cell_of_row W4 w.heap.size 1 _ 41 (0, 0) hE
    have c2 := cell_of_row W4 w.heap.size 2 _ 41 (0, 0) hE
    have c3 := cell_of_row W4 w.heap.size 3 _ 41 (0, 0) hE
    have c4 := cell_of_row W4 w.heap.size 4 _ 41 (0, 0) hE
    have c5 := cell_of_row W4 w.heap.size 5 _ 41 (0, 0) hE
    have c6 := cell_of_row W4 w.heap.size 6 _ 41 (0, 0) hE
    have c7 := cell_of_row W4 w.heap.size 7 _ 41 (0, 0) hE
    simp only [List.getElem?_toArray, List.getElem?_cons_zero, List.getElem?_cons_succ] at c0 c1 c2 c3 c4 c5 c6 c7
    have cf0 := frozen_of_row W4 w.heap.size 0 _ 41 hE
    have cf1 := frozen_of_row W4 w.heap.size 1 _ 41 hE
    have cf2 := frozen_of_row W4 w.heap.size 2 _ 41 hE
    have cf3 := frozen_of_row W4 w.heap.size 3 _ 41 hE
    have cf4 := frozen_of_row W4 w.heap.size 4 _ 41 hE
    have cf5 := frozen_of_row W4 w.heap.size 5 _ 41 hE
    have cf6 := frozen_of_row W4 w.heap.size 6 _ 41 hE
    have cf7 := frozen_of_row W4 w.heap.size 7 _ 41 hE
    have HE := Lib.hid hE
    clear hE
    go_wp2_with fail
    refine bodyPost_ret (v := getV none) ?_ rfl ⟨by rw [HR.out], ((((((((HB.out.setCell (Nat.le_refl _) _).setCell (Nat.le_refl _) _).setCell (Nat.le_refl _) _).setCell (Nat.le_refl _) _).setCell (Nat.le_refl _) _).setCell (Nat.le_refl _) _).setCell (Nat.le_refl _) _).setCell (Nat.le_refl _) _)⟩
    exact results_row_tmp' (p := 2) (q := 3) rfl _ _ w.heap.size _ rfl (load_ino _ _ Im.nought (set8 HE.out _ _ _ _ _ _ _ _))
  have hps : ∀ W, Calls Tryz.prog 43 #[.agg #[.int .u8 k0, w16 n1, .int .u32 z0, w16 n4, w16 n5, w16 n6, w16 n7, w16 n8]] W fun e w' => e = .returned (.tuple #[str (Im.putL ⟨k0, n1, z0, n4, n5, n6, n7, n8⟩), .int .i64 0]) ∧ Below W.heap.size W w' := fun W => put_ok ⟨k0, n1, z0, n4, n5, n6, n7, n8⟩ hxf hm W
  by_cases heq : Im.putL ⟨k0, n1, z0, n4, n5, n6, n7, n8⟩ = s
  · have HR : Hid (getL s = some ⟨k0, n1, z0, n4, n5, n6, n7, n8⟩) := Lib.hid (by rw [HG.out, if_pos ⟨hm, heq⟩])
    rw [heq] at hps
    have HP := Lib.hid hps
    clear hps hm heq HG
    go_wp2_with fail
    refine (HP.out _).mono ?_
    rintro e W4 ⟨rfl, hb⟩
    have hE := (hb.block _ hlt4).trans HE.out
    have hD := (hb.block _ hlt3).trans HD.out
    have HB := Lib.hid (HB.out.trans (hb.mono HB.out.size))
    clear hb d0 d1 d2 d3 d4 d5 d6 d7
    have c0 := cell_of_row W4 w.heap.size 0 _ 41 (0, 0) hE
    have c1 := cell_of_row W4 w.heap.size 1 _ 41 (0, 0) hE
    have c2 := cell_of_row W4 w.heap.size 2 _ 41 (0, 0) hE
    have c3 := cell_of_row W4 w.heap.size 3 _ 41 (0, 0) hE
    have c4 := cell_of_row W4 w.heap.size 4 _ 41 (0, 0) hE
    have c5 := cell_of_row W4 w.heap.size 5 _ 41 (0, 0) hE
    have c6 := cell_of_row W4 w.heap.size 6 _ 41 (0, 0) hE
    have c7 := cell_of_row W4 w.heap.size 7 _ 41 (0, 0) hE
    simp only [List.getElem?_toArray, List.getElem?_cons_zero, List.getElem?_cons_succ] at c0 c1 c2 c3 c4 c5 c6 c7
    have cf0 := frozen_of_row W4 w.heap.size 0 _ 41 hE
    have cf1 := frozen_of_row W4 w.heap.size 1 _ 41 hE
    have cf2 := frozen_of_row W4 w.heap.size 2 _ 41 hE
    have cf3 := frozen_of_row W4 w.heap.size 3 _ 41 hE
    have cf4 := frozen_of_row W4 w.heap.size 4 _ 41 hE
    have cf5 := frozen_of_row W4 w.heap.size 5 _ 41 hE
    have cf6 := frozen_of_row W4 w.heap.size 6 _ 41 hE
    have cf7 := frozen_of_row W4 w.heap.size 7 _ 41 hE
    have d0 := cell_of_row W4 gx 0 _ 41 (0, 0) hD
    have d1 := cell_of_row W4 gx 1 _ 41 (0, 0) hD
    have d2 := cell_of_row W4 gx 2 _ 41 (0, 0) hD
    have d3 := cell_of_row W4 gx 3 _ 41 (0, 0) hD
    have d4 := cell_of_row W4 gx 4 _ 41 (0, 0) hD
    have d5 := cell_of_row W4 gx 5 _ 41 (0, 0) hD
    have d6 := cell_of_row W4 gx 6 _ 41 (0, 0) hD
    have d7 := cell_of_row W4 gx 7 _ 41 (0, 0) hD
    simp only [List.getElem?_toArray, List.getElem?_cons_zero, List.getElem?_cons_succ] at d0 d1 d2 d3 d4 d5 d6 d7
    have HE := Lib.hid hE
    clear hE hD
    go_wp2_with fail
    refine bodyPost_ret (v := getV (some ⟨k0, n1, z0, n4, n5, n6, n7, n8⟩)) ?_ rfl ⟨by rw [HR.out], ((((((((HB.out.setCell (Nat.le_refl _) _).setCell (Nat.le_refl _) _).setCell (Nat.le_refl _) _).setCell (Nat.le_refl _) _).setCell (Nat.le_refl _) _).setCell (Nat.le_refl _) _).setCell (Nat.le_refl _) _).setCell (Nat.le_refl _) _)⟩
    exact results_row_tmp' (p := 2) (q := 3) rfl _ _ w.heap.size _ rfl (load_ino _ _ ⟨k0, n1, z0, n4, n5, n6, n7, n8⟩ (set8 HE.out _ _ _ _ _ _ _ _))
  · have HR : Hid (getL s = none) := Lib.hid (by rw [HG.out, if_neg (fun h => heq h.2)])
    have hne : (Im.putL ⟨k0, n1, z0, n4, n5, n6, n7, n8⟩ == s) = false := by simpa using heq
    generalize Im.putL ⟨k0, n1, z0, n4, n5, n6, n7, n8⟩ = tt at hps hne
    have HP := Lib.hid hps
    clear hps hm heq HG
    go_wp2_with fail
    refine (HP.out _).mono ?_
    rintro e W4 ⟨rfl, hb⟩
    have hE := (hb.block _ hlt4).trans HE.out
    have HB := Lib.hid (HB.out.trans (hb.mono HB.out.size))
    clear hb d0 d1 d2 d3 d4 d5 d6 d7
    have c0 := cell_of_row W4 w.heap.size 0 _ 41 (0, 0) hE
    have c1 := cell_of_row W4 w.heap.size 1 _ 41 (0, 0) hE
    have c2 := cell_of_row W4 w.heap.size 2 _ 41 (0, 0) hE
    have c3 := cell_of_row W4 w.heap.size 3 _ 41 (0, 0) hE
    have c4 := cell_of_row W4 w.heap.size 4 _ 41 (0, 0) hE
    have c5 := cell_of_row W4 w.heap.size 5 _ 41 (0, 0) hE
    have c6 := cell_of_row W4 w.heap.size 6 _ 41 (0, 0) hE
    have c7 := cell_of_row W4 w.heap.size 7 _ 41 (0, 0) hE
    simp only [List.getElem?_toArray, List.getElem?_cons_zero, List.getElem?_cons_succ] at c0 c1 c2 c3 c4 c5 c6 c7
    have cf0 := frozen_of_row W4 w.heap.size 0 _ 41 hE
    have cf1 := frozen_of_row W4 w.heap.size 1 _ 41 hE
    have cf2 := frozen_of_row W4 w.heap.size 2 _ 41 hE
    have cf3 := frozen_of_row W4 w.heap.size 3 _ 41 hE
    have cf4 := frozen_of_row W4 w.heap.size 4 _ 41 hE
    have cf5 := frozen_of_row W4 w.heap.size 5 _ 41 hE
    have cf6 := frozen_of_row W4 w.heap.size 6 _ 41 hE
    have cf7 := frozen_of_row W4 w.heap.size 7 _ 41 hE
    have HE := Lib.hid hE
    clear hE
    go_wp2_with fail
    refine bodyPost_ret (v := getV none) ?_ rfl ⟨by rw [HR.out], ((((((((HB.out.setCell (Nat.le_refl _) _).setCell (Nat.le_refl _) _).setCell (Nat.le_refl _) _).setCell (Nat.le_refl _) _).setCell (Nat.le_refl _) _).setCell (Nat.le_refl _) _).setCell (Nat.le_refl _) _).setCell (Nat.le_refl _) _)⟩
    exact results_row_tmp' (p := 2) (q := 3) rfl _ _ w.heap.size _ rfl (load_ino _ _ Im.nought (set8 HE.out _ _ _ _ _ _ _ _))
end Go.Proofs.YtnfiapjdkjbdhaaGreat
/- Layer 6 (bits): Set, Make; the document's own answers. -/
namespace Go.Proofs.YtnfiapjdkjbdhaaGreat.Bits
open Go.RowKit
set_option linter.unusedVariables false
set_option linter.unusedSimpArgs false
set_option maxRecDepth 10000
set_option maxHeartbeats 400000 in
theorem set_ok (l : List UInt8) (i : Nat) (on : Bool) (w : World) (hl : l.length ≤ 1048576) (hi : i < 8 * l.length) :
    Calls Tryz.prog 87 #[str l, .int .i64 i, .bool on] w fun e w' => e = .returned (.tuple #[str (setL l i on), .int .i64 0]) ∧ Below w.heap.size w w' := by
  have hf := Lib.hid fun W => fill_ok l i 1 on W hl hi
  go_enter Tryz.func87, Tryz.ntmps87
  go_wp2_with fail
  refine (get_ok l i _ hl hi).mono ?_
  rintro e w1 ⟨rfl, rfl⟩
  go_wp2_with fail
  refine (hf.out _).mono ?_
  rintro e w1 ⟨rfl, hb⟩
  go_wp2_with fail
  go_ret2
  exact ⟨rfl, hb⟩
theorem nought_repeat (k : Nat) : Lib.repeatL (⟨#[0]⟩ : ByteArray).data.toList k = List.replicate k 0 := by
  induction k with
  | zero => rfl
  | succ k ih => rw [Lib.repeatL, ih]; rfl
theorem noughts (k : Nat) (w : World) (hk : k ≤ 65536) :
    Calls Tryz.prog 105 #[.string ⟨#[0]⟩, .int .i64 k] w fun e w' => e = .returned (str (List.replicate k 0)) ∧ Below w.heap.size w w' := by
  have h := Tryz.strings_Repeat ⟨#[0]⟩ k w (by omega) (by show 1 * k ≤ 140737488355328; omega)
  rwa [nought_repeat] at h
set_option maxHeartbeats 400000 in
theorem make_ok (n : Nat) (w : World) (hn : n ≤ 65536) :
    Calls Tryz.prog 136 #[.int .i64 n] w fun e w' => e = .returned (.tuple #[str (List.replicate ((n + 7) / 8) 0), .int .i64 0]) ∧ Below w.heap.size w w' := by
  have h8 := Lib.hid fun W => noughts ((n + 7) / 8) W (by omega)
  have h9 : ((n : Int) + 8 - 1) / 8 = (((n + 7) / 8 : Nat) : Int) := by omega
  go_enter Tryz.func136, Tryz.ntmps136
  go_wp2_with fail
  refine (h8.out _).mono ?_
  rintro e w1 ⟨rfl, hb⟩
  go_wp2_with fail
  go_ret2
  exact ⟨rfl, hb⟩
end Go.Proofs.YtnfiapjdkjbdhaaGreat.Bits
/- Layer 10 (dirs), continued: a slot's bytes, and what they tell. -/
namespace Go.Proofs.YtnfiapjdkjbdhaaGreat.Dirs
open Go.RowKit Go.Lib
set_option linter.unusedVariables false
set_option linter.unusedSimpArgs false
set_option maxRecDepth 10000
theorem two_cells (w : World) (a b : Value) (t : TypeId) : (w.alloc (.cells #[a, b] t)).cell? ⟨w.heap.size, 0, none⟩ = some a ∧ (w.alloc (.cells #[a, b] t)).cell? ⟨w.heap.size, 1, none⟩ = some b := by
  have h := heap_alloc_new w (.cells #[a, b] t)
  exact ⟨by rw [cell_of_row _ _ 0 _ t (0, 0) h]; rfl, by rw [cell_of_row _ _ 1 _ t (0, 0) h]; rfl⟩
theorem cells_two2 {W : World} {g : Nat} {a b : Value} {t : TypeId} (h : W.heap[g]? = some (.cells #[a, b] t (0, 0))) : W.cell? ⟨g, 0, none⟩ = some a ∧ W.cell? ⟨g, 1, none⟩ = some b := by
  exact ⟨by rw [cell_of_row W g 0 _ t (0, 0) h]; rfl, by rw [cell_of_row W g 1 _ t (0, 0) h]; rfl⟩
theorem set_two {W : World} {g : Nat} {a b : Value} (d0 : W.cell? ⟨g, 0, none⟩ = some a) (d1 : W.cell? ⟨g, 1, none⟩ = some b) (x y : Value) :
    ((W.setCell ⟨g, 0, none⟩ x).setCell ⟨g, 1, none⟩ y).cell? ⟨g, 0, none⟩ = some x ∧ ((W.setCell ⟨g, 0, none⟩ x).setCell ⟨g, 1, none⟩ y).cell? ⟨g, 1, none⟩ = some y := by
  have h : (W.setCell ⟨g, 0, none⟩ x).cell? ⟨g, 0, none⟩ = some x := World.cell?_setCell_same' _ _ _ (by rw [d0]; rfl)
  refine ⟨?_, World.cell?_setCell_same' _ _ _ (by rw [World.cell?_setCell_other _ _ _ _ (by simp), d1]; rfl)⟩
  rw [World.cell?_setCell_other _ _ _ _ (by simp)]
  exact h
theorem u32_small {i : Nat} (h : i < 4294967296) : ((i : Int) / 2 ^ (8 * 4) != 0) = false := by
  have : (i : Int) / 2 ^ (8 * 4) = 0 := by
    have : ((2 : Int) ^ (8 * 4)) = 4294967296 := by decide
    rw [this]; omega
  rw [this]; rfl
set_option maxHeartbeats 1000000 in
theorem dput_any (x : En) (w : World) (hi : x.i < 4294967296) (hn : x.n.length ≤ 27) :
    Calls Tryz.prog 167 #[x.v] w fun e w' => e = .returned (str (slotL x)) ∧ Below w.heap.size w w' := by
  obtain ⟨n, i⟩ := x
  simp only at hi hn
  have H1 := Lib.hid fun W => num_ok i 4 W (by omega) (by omega) (u32_small hi)
  have H2 := Lib.hid fun W => text8_ok n W (by omega)
  have hl4 : (leB 4 i).length = 4 := leB_length _ _
  have H3 := Lib.hid fun W => pad_ok (leB 4 i ++ (UInt8.ofNat n.length :: n)) (27 - n.length) 32 W (by simp [hl4]; omega) (by simp [hl4]; omega)
  have HE := Lib.hid (show slotL ⟨n, i⟩ = leB 4 i ++ (UInt8.ofNat n.length :: n) ++ List.replicate (27 - n.length) 0 from rfl)
  have e1 : IntKind.u64.wrap (i : Int) = (i : Int) := u64_wrap _ (by omega) (by omega)
  go_enter Tryz.func167, Tryz.ntmps167
  go_wp2_with fail
  refine (H1.out _).mono ?_
  rintro e w1 ⟨rfl, hb1⟩
  obtain ⟨c0, c1⟩ := two_cells w (str n) (.int .u32 (i : Int)) 193
  have d0 := (hb1.cell (p := ⟨w.heap.size, 0, none⟩) (by simp)).trans c0
  have B1 := Lib.hid (((Below.refl _ w).alloc (Nat.le_refl _) (.cells #[str n, .int .u32 (i : Int)] 193)).trans (hb1.mono (by simp)))
  clear c0 c1 hb1 H1
  go_wp2_with fail
  refine (H2.out _).mono ?_
  rintro e w2 ⟨rfl, hb2⟩
  have B2 := Lib.hid (B1.out.trans (hb2.mono B1.out.size))
  clear hb2 d0 B1 H2
  go_wp2_with fail
  refine (H3.out _).mono ?_
  rintro e w3 ⟨rfl, hb3⟩
  have B3 := Lib.hid (B2.out.trans (hb3.mono B2.out.size))
  clear hb3 B2 H3
  go_wp2_with fail
  go_ret
  exact ⟨by rw [HE.out]; rfl, B3.out⟩
set_option maxHeartbeats 2000000 in
theorem dget_any (s : List UInt8) (w : World) (hs : s.length = 32) :
    Calls Tryz.prog 169 #[str s] w fun e w' => e = .returned (getE s).v ∧ Below w.heap.size w w' := by
  have H1 := Lib.hid fun W => cut_ok s 4 4 W (by simp only [maxLen]; omega) rfl (by omega)
  have H2 := Lib.hid fun W => get_ok (s.take 4) W (by simp; omega)
  have hlt := leV_lt4 s
  obtain ⟨n, hnE⟩ : ∃ n, (getE s).n = n := ⟨_, rfl⟩
  obtain ⟨i, hiE⟩ : ∃ i, leV (s.take 4) = i := ⟨_, rfl⟩
  have hv : (getE s).v = .agg #[str n, .int .u32 (i : Int)] := by rw [← hnE, ← hiE]; rfl
  have h3 : ∀ W, Calls Tryz.prog 208 #[str (s.drop 4)] W fun e w' => (∃ r x, e = .returned (.tuple #[str n, str r, .int .i64 x])) ∧ Below W.heap.size W w' := by
    intro W
    have hd : (s.drop 4).length = 28 := by simp; omega
    have hn : n = name8 (s.drop 4) := hnE.symm
    rw [hn]
    match hq : s.drop 4, hd with
    | b :: r, hd =>
      show Calls Tryz.prog 208 #[str (b :: r)] W fun e w' => (∃ r1 x, e = .returned (.tuple #[str (if b.toNat ≤ r.length then r.take b.toNat else []), str r1, .int .i64 x])) ∧ Below W.heap.size W w'
      by_cases hb : b.toNat ≤ r.length
      · rw [if_pos hb]
        exact (read8_ok b r W (by simp only [maxLen]; omega) hb).mono fun e w' h => ⟨⟨_, _, h.1⟩, h.2⟩
      · rw [if_neg hb]
        exact (read8_short b r W (by simp only [maxLen]; omega) (by omega)).mono fun e w' h => ⟨⟨_, _, h.1⟩, h.2⟩
  have H3 := Lib.hid h3
  rw [hiE] at hlt
  rw [hiE] at H2
  rw [hv]
  have e1 : IntKind.u32.wrap (i : Int) = (i : Int) := IntWalk.u32_in _ ⟨by omega, by omega⟩
  clear h3 hv hnE hiE hs
  generalize s.take 4 = s4 at *
  generalize s.drop 4 = sd at *
  go_enter Tryz.func169, Tryz.ntmps169
  go_wp2_with fail
  refine (H1.out _).mono ?_
  rintro e w1 ⟨rfl, hb1⟩
  obtain ⟨c0, c1⟩ := two_cells w (str []) (.int .u32 0) 193
  have B1 := Lib.hid (((Below.refl _ w).alloc (Nat.le_refl _) (.cells #[str [], .int .u32 0] 193)).trans (hb1.mono (by simp)))
  clear c0 c1
  have hsz : w.heap.size < w1.heap.size := by have := hb1.size; simp at this; omega
  have hcell : w1.heap[w.heap.size]? = some (.cells #[str [], .int .u32 0] 193 (0, 0)) := (hb1.block _ (by simp)).trans (heap_alloc_new w _)
  clear hb1 H1
  go_wp2_with fail
  refine (H2.out _).mono ?_
  rintro e w2 ⟨rfl, hb2⟩
  have hcell2 := (hb2.block _ hsz).trans hcell
  have hsz2 : w.heap.size < w2.heap.size := by have := hb2.size; omega
  have B2 := Lib.hid (B1.out.trans (hb2.mono B1.out.size))
  clear hb2 hcell B1 H2 hsz
  go_wp2_with fail
  refine (H3.out _).mono ?_
  rintro e w3 ⟨⟨r, x, rfl⟩, hb3⟩
  have hcell3 := (hb3.block _ hsz2).trans hcell2
  have B3 := Lib.hid (B2.out.trans (hb3.mono B2.out.size))
  clear hb3 hcell2 B2 H3 hsz2
  obtain ⟨d0, d1⟩ := cells_two2 hcell3
  have f0 := frozen_of_row w3 w.heap.size 0 _ _ hcell3
  have f1 := frozen_of_row w3 w.heap.size 1 _ _ hcell3
  clear hcell3
  go_wp2_with fail
  obtain ⟨r0, r1⟩ := set_two d0 d1 (.string ⟨n.toArray⟩) (.int .u32 (i : Int))
  exact bodyPost_ret (v := .agg #[str n, .int .u32 (i : Int)]) (by simp [results, Tryz.f169, go_sem, r0, r1]) rfl ⟨rfl, ((B3.out.setCell (p := ⟨w.heap.size, 0, none⟩) (by simp) _).setCell (p := ⟨w.heap.size, 1, none⟩) (by simp) _)⟩
end Go.Proofs.YtnfiapjdkjbdhaaGreat.Dirs
/- Layer 10 (dirs), the document's own answers: a slot's bytes. -/
namespace Go.Proofs.YtnfiapjdkjbdhaaGreat.Dirs
open Go.RowKit Go.Lib
set_option linter.unusedVariables false
set_option linter.unusedSimpArgs false
set_option maxRecDepth 10000
end Go.Proofs.YtnfiapjdkjbdhaaGreat.Dirs
namespace Go.Proofs.YtnfiapjdkjbdhaaGreat.Dirs
open Go.RowKit Go.Lib
set_option linter.unusedVariables false
set_option linter.unusedSimpArgs false
set_option maxRecDepth 10000
end Go.Proofs.YtnfiapjdkjbdhaaGreat.Dirs
