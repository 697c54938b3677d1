/- Layer 7 (inode): Get. Written by tools/geninode9.py. -/
import Derived.Test.YtpipjjngffajlaaInode8
import Derived.Test.YtpipjjngffajlaaInodeG
namespace Go.Proofs.Ytpipjjngffajlaa
open Go.RowKit
set_option linter.unusedVariables false
set_option linter.unusedSimpArgs false
set_option maxRecDepth 10000
set_option maxHeartbeats 40000000 in
theorem iget_32 (s : List UInt8) (w : World) (h : s.length = 32) :
    Calls Try.prog 9 #[str s] w fun e w' => e = .returned (getV (getL s)) ∧ Below w.heap.size w w' := by
  have HS := Lib.hid fun W => sized_ok s 32 W (by omega) h
  have HN := Lib.hid fun W => numbers_any s 16 W h (by omega) (by omega)
  have hn : ∀ j, j < 16 → (numCells (numsL s))[j]? = some (w16 (num2 s j)) := fun j hj => numCells_at _ j _ (by
    unfold numsL; rw [h, List.getElem?_map, List.getElem?_range (by omega)]; rfl)
  have Hn := Lib.hid hn
  have b0 := num2_lt s 0
  have b1 := num2_lt s 1
  have b2 := num2_lt s 2
  have b3 := num2_lt s 3
  have HX : Hid (getI s = ⟨num2 s 0 % 256, num2 s 1, num2 s 2 + 65536 * num2 s 3, num2 s 4, num2 s 5, num2 s 6, num2 s 7, num2 s 8⟩) := Lib.hid rfl
  have HF := Lib.hid (getI_fits s)
  have h8 : IntKind.u8.wrap (num2 s 0 : Int) = ((num2 s 0 % 256 : Nat) : Int) := by simp [IntKind.wrap, IntKind.bits, IntKind.signed]
  have hor := or32 (num2 s 2) (num2 s 3) b2 b3
  clear hn h
  go_enter Try.func9, Try.ntmps9
  go_wp2_with fail
  refine (HS.out _).mono ?_
  rintro e w1 ⟨rfl, rfl⟩
  go_wp2_with fail
  refine (HN.out _).mono ?_
  rintro e w2 ⟨g, rfl, hg, hgw, hb⟩
  have hE := (hb.block w.heap.size (by simp)).trans (heap_alloc_new w (.cells #[.int .u8 0, .int .u16 0, .int .u32 0, .int .u16 0, .int .u16 0, .int .u16 0, .int .u16 0, .int .u16 0] 26))
  have hB := (((Below.refl w.heap.size w).alloc (Nat.le_refl _) (.cells #[.int .u8 0, .int .u16 0, .int .u32 0, .int .u16 0, .int .u16 0, .int .u16 0, .int .u16 0, .int .u16 0] 26))).trans (hb.mono (by simp))
  have hgw2 : w.heap.size < g := by simp at hgw; omega
  have r0 := cell_of_row w2 g 0 _ 22 (0, 0) hg
  have r1 := cell_of_row w2 g 1 _ 22 (0, 0) hg
  have r2 := cell_of_row w2 g 2 _ 22 (0, 0) hg
  have r3 := cell_of_row w2 g 3 _ 22 (0, 0) hg
  have r4 := cell_of_row w2 g 4 _ 22 (0, 0) hg
  have r5 := cell_of_row w2 g 5 _ 22 (0, 0) hg
  have r6 := cell_of_row w2 g 6 _ 22 (0, 0) hg
  have r7 := cell_of_row w2 g 7 _ 22 (0, 0) hg
  have r8 := cell_of_row w2 g 8 _ 22 (0, 0) hg
  rw [Hn.out 0 (by omega)] at r0
  rw [Hn.out 1 (by omega)] at r1
  rw [Hn.out 2 (by omega)] at r2
  rw [Hn.out 3 (by omega)] at r3
  rw [Hn.out 4 (by omega)] at r4
  rw [Hn.out 5 (by omega)] at r5
  rw [Hn.out 6 (by omega)] at r6
  rw [Hn.out 7 (by omega)] at r7
  rw [Hn.out 8 (by omega)] at r8
  have HE := Lib.hid hE
  have HB := Lib.hid hB
  have hgl := row_lt' hg
  clear hE hB hg hb hgw Hn
  generalize num2 s 0 % 256 = k0 at *
  generalize num2 s 2 + 65536 * num2 s 3 = z0 at *
  generalize num2 s 0 = n0 at *
  generalize num2 s 1 = n1 at *
  generalize num2 s 2 = n2 at *
  generalize num2 s 3 = n3 at *
  generalize num2 s 4 = n4 at *
  generalize num2 s 5 = n5 at *
  generalize num2 s 6 = n6 at *
  generalize num2 s 7 = n7 at *
  generalize num2 s 8 = n8 at *
  have hw2 : IntKind.u32.wrap (n2 : Int) = (n2 : Int) := IntWalk.u32_in _ (by omega)
  have hw3 : IntKind.u32.wrap (n3 : Int) = (n3 : Int) := IntWalk.u32_in _ (by omega)
  have hw4 : IntKind.u32.wrap ((n3 : Int) * 65536) = (n3 : Int) * 65536 := IntWalk.u32_in _ (by omega)
  go_wp2_with fail
  have HC4 := Lib.hid (four_src r4 r5 r6 r7)
  have hgX : g < w2.heap.size := hgl
  go_region
  clear r0 r1 r2 r3 r4 r5 r6 r7 r8 hw2 hw3 hw4 hor h8
  have hcp : (Builtin.copy_ #[27, 27] 3 #[.slice (some ⟨w2.heap.size, 3, none⟩) 4 4, .slice (some ⟨g, 4, none⟩) 12 12]).run Try.prog (w2.alloc (.cells #[.int .u8 k0, w16 n1, .int .u32 z0, .int .u16 0, .int .u16 0, .int .u16 0, .int .u16 0, w16 n8] 26)).drew.drew =
      .ok (goInt 4) (w2.alloc (.cells #[.int .u8 k0, w16 n1, .int .u32 z0, w16 n4, w16 n5, w16 n6, w16 n7, w16 n8] 26)).drew.drew :=
    run_copy_at w2 g 4 3 4 4 12 12 _ 26 [w16 n4, w16 n5, w16 n6, w16 n7] _ rfl (by simp [Value.oneCell']) HC4.out (by simp) rfl
  go_wp2_with fail
  go_region
  have hD : (w2.alloc (.cells #[.int .u8 k0, w16 n1, .int .u32 z0, w16 n4, w16 n5, w16 n6, w16 n7, w16 n8] 26)).drew.drew.heap[w2.heap.size]? = some (.cells #[.int .u8 k0, w16 n1, .int .u32 z0, w16 n4, w16 n5, w16 n6, w16 n7, w16 n8] 26 (0, 0)) := heap_alloc_new w2 _
  have hA : Below w2.heap.size w2 (w2.alloc (.cells #[.int .u8 k0, w16 n1, .int .u32 z0, w16 n4, w16 n5, w16 n6, w16 n7, w16 n8] 26)).drew.drew := (((Below.refl w2.heap.size w2).alloc (Nat.le_refl _) _).drew).drew
  have hlt2 : w.heap.size < w2.heap.size := by omega
  have hE := (hA.block w.heap.size hlt2).trans HE.out
  have HB := Lib.hid (HB.out.trans (hA.mono (by omega)))
  clear hcp hA HE HC4
  generalize (w2.alloc (.cells #[.int .u8 k0, w16 n1, .int .u32 z0, w16 n4, w16 n5, w16 n6, w16 n7, w16 n8] 26)).drew.drew = W3 at *
  generalize w2.heap.size = gx at *
  have hxf : (⟨k0, n1, z0, n4, n5, n6, n7, n8⟩ : Im).fits := by rw [← HX.out]; exact HF.out
  have HG : Hid (getL s = if (⟨k0, n1, z0, n4, n5, n6, n7, n8⟩ : Im).may ∧ (⟨k0, n1, z0, n4, n5, n6, n7, n8⟩ : Im).putL = s then some ⟨k0, n1, z0, n4, n5, n6, n7, n8⟩ else none) := Lib.hid (by unfold getL; rw [HX.out])
  clear HX HF hgX hgl hgw2 b0 b1 b2 b3 HS HN
  have d0 := cell_of_row W3 gx 0 _ 26 (0, 0) hD
  have d1 := cell_of_row W3 gx 1 _ 26 (0, 0) hD
  have d2 := cell_of_row W3 gx 2 _ 26 (0, 0) hD
  have d3 := cell_of_row W3 gx 3 _ 26 (0, 0) hD
  have d4 := cell_of_row W3 gx 4 _ 26 (0, 0) hD
  have d5 := cell_of_row W3 gx 5 _ 26 (0, 0) hD
  have d6 := cell_of_row W3 gx 6 _ 26 (0, 0) hD
  have d7 := cell_of_row W3 gx 7 _ 26 (0, 0) hD
  simp only [List.getElem?_toArray, List.getElem?_cons_zero, List.getElem?_cons_succ] at d0 d1 d2 d3 d4 d5 d6 d7
  have HD := Lib.hid hD
  have HE := Lib.hid hE
  have hlt3 := row_lt' hD
  have hlt4 := row_lt' hE
  clear hD hE
  by_cases hm : (⟨k0, n1, z0, n4, n5, n6, n7, n8⟩ : Im).may
  case neg =>
    have HR : Hid (getL s = none) := Lib.hid (by rw [HG.out, if_neg (fun h => hm h.1)])
    have HP : Hid (∀ W, Calls Try.prog 8 #[.agg #[.int .u8 k0, w16 n1, .int .u32 z0, w16 n4, w16 n5, w16 n6, w16 n7, w16 n8]] W fun e w' => e = .returned (.tuple #[str [], .int .i64 2]) ∧ Below W.heap.size W w') := Lib.hid fun W => put_bad ⟨k0, n1, z0, n4, n5, n6, n7, n8⟩ hxf hm W
    clear hm HG
    go_wp2_with fail
    refine (HP.out _).mono ?_
    rintro e W4 ⟨rfl, hb⟩
    have hE := (hb.block _ hlt4).trans HE.out
    have HB := Lib.hid (HB.out.trans (hb.mono HB.out.size))
    clear hb d0 d1 d2 d3 d4 d5 d6 d7
    have c0 := cell_of_row W4 w.heap.size 0 _ 26 (0, 0) hE
    have c1 := cell_of_row W4 w.heap.size 1 _ 26 (0, 0) hE
    have c2 := cell_of_row W4 w.heap.size 2 _ 26 (0, 0) hE
    have c3 := cell_of_row W4 w.heap.size 3 _ 26 (0, 0) hE
    have c4 := cell_of_row W4 w.heap.size 4 _ 26 (0, 0) hE
    have c5 := cell_of_row W4 w.heap.size 5 _ 26 (0, 0) hE
    have c6 := cell_of_row W4 w.heap.size 6 _ 26 (0, 0) hE
    have c7 := cell_of_row W4 w.heap.size 7 _ 26 (0, 0) hE
    simp only [List.getElem?_toArray, List.getElem?_cons_zero, List.getElem?_cons_succ] at c0 c1 c2 c3 c4 c5 c6 c7
    have cf0 := frozen_of_row W4 w.heap.size 0 _ 26 hE
    have cf1 := frozen_of_row W4 w.heap.size 1 _ 26 hE
    have cf2 := frozen_of_row W4 w.heap.size 2 _ 26 hE
    have cf3 := frozen_of_row W4 w.heap.size 3 _ 26 hE
    have cf4 := frozen_of_row W4 w.heap.size 4 _ 26 hE
    have cf5 := frozen_of_row W4 w.heap.size 5 _ 26 hE
    have cf6 := frozen_of_row W4 w.heap.size 6 _ 26 hE
    have cf7 := frozen_of_row W4 w.heap.size 7 _ 26 hE
    have HE := Lib.hid hE
    clear hE
    go_wp2_with fail
    refine bodyPost_ret (v := getV none) ?_ rfl ⟨by rw [HR.out], ((((((((HB.out.setCell (Nat.le_refl _) _).setCell (Nat.le_refl _) _).setCell (Nat.le_refl _) _).setCell (Nat.le_refl _) _).setCell (Nat.le_refl _) _).setCell (Nat.le_refl _) _).setCell (Nat.le_refl _) _).setCell (Nat.le_refl _) _)⟩
    exact results_row_tmp' (p := 2) (q := 3) rfl _ _ w.heap.size _ rfl (load_ino _ _ Im.nought (set8 HE.out _ _ _ _ _ _ _ _))
  have hps : ∀ W, Calls Try.prog 8 #[.agg #[.int .u8 k0, w16 n1, .int .u32 z0, w16 n4, w16 n5, w16 n6, w16 n7, w16 n8]] W fun e w' => e = .returned (.tuple #[str (Im.putL ⟨k0, n1, z0, n4, n5, n6, n7, n8⟩), .int .i64 0]) ∧ Below W.heap.size W w' := fun W => put_ok ⟨k0, n1, z0, n4, n5, n6, n7, n8⟩ hxf hm W
  by_cases heq : Im.putL ⟨k0, n1, z0, n4, n5, n6, n7, n8⟩ = s
  · have HR : Hid (getL s = some ⟨k0, n1, z0, n4, n5, n6, n7, n8⟩) := Lib.hid (by rw [HG.out, if_pos ⟨hm, heq⟩])
    rw [heq] at hps
    have HP := Lib.hid hps
    clear hps hm heq HG
    go_wp2_with fail
    refine (HP.out _).mono ?_
    rintro e W4 ⟨rfl, hb⟩
    have hE := (hb.block _ hlt4).trans HE.out
    have hD := (hb.block _ hlt3).trans HD.out
    have HB := Lib.hid (HB.out.trans (hb.mono HB.out.size))
    clear hb d0 d1 d2 d3 d4 d5 d6 d7
    have c0 := cell_of_row W4 w.heap.size 0 _ 26 (0, 0) hE
    have c1 := cell_of_row W4 w.heap.size 1 _ 26 (0, 0) hE
    have c2 := cell_of_row W4 w.heap.size 2 _ 26 (0, 0) hE
    have c3 := cell_of_row W4 w.heap.size 3 _ 26 (0, 0) hE
    have c4 := cell_of_row W4 w.heap.size 4 _ 26 (0, 0) hE
    have c5 := cell_of_row W4 w.heap.size 5 _ 26 (0, 0) hE
    have c6 := cell_of_row W4 w.heap.size 6 _ 26 (0, 0) hE
    have c7 := cell_of_row W4 w.heap.size 7 _ 26 (0, 0) hE
    simp only [List.getElem?_toArray, List.getElem?_cons_zero, List.getElem?_cons_succ] at c0 c1 c2 c3 c4 c5 c6 c7
    have cf0 := frozen_of_row W4 w.heap.size 0 _ 26 hE
    have cf1 := frozen_of_row W4 w.heap.size 1 _ 26 hE
    have cf2 := frozen_of_row W4 w.heap.size 2 _ 26 hE
    have cf3 := frozen_of_row W4 w.heap.size 3 _ 26 hE
    have cf4 := frozen_of_row W4 w.heap.size 4 _ 26 hE
    have cf5 := frozen_of_row W4 w.heap.size 5 _ 26 hE
    have cf6 := frozen_of_row W4 w.heap.size 6 _ 26 hE
    have cf7 := frozen_of_row W4 w.heap.size 7 _ 26 hE
    have d0 := cell_of_row W4 gx 0 _ 26 (0, 0) hD
    have d1 := cell_of_row W4 gx 1 _ 26 (0, 0) hD
    have d2 := cell_of_row W4 gx 2 _ 26 (0, 0) hD
    have d3 := cell_of_row W4 gx 3 _ 26 (0, 0) hD
    have d4 := cell_of_row W4 gx 4 _ 26 (0, 0) hD
    have d5 := cell_of_row W4 gx 5 _ 26 (0, 0) hD
    have d6 := cell_of_row W4 gx 6 _ 26 (0, 0) hD
    have d7 := cell_of_row W4 gx 7 _ 26 (0, 0) hD
    simp only [List.getElem?_toArray, List.getElem?_cons_zero, List.getElem?_cons_succ] at d0 d1 d2 d3 d4 d5 d6 d7
    have HE := Lib.hid hE
    clear hE hD
    go_wp2_with fail
    refine bodyPost_ret (v := getV (some ⟨k0, n1, z0, n4, n5, n6, n7, n8⟩)) ?_ rfl ⟨by rw [HR.out], ((((((((HB.out.setCell (Nat.le_refl _) _).setCell (Nat.le_refl _) _).setCell (Nat.le_refl _) _).setCell (Nat.le_refl _) _).setCell (Nat.le_refl _) _).setCell (Nat.le_refl _) _).setCell (Nat.le_refl _) _).setCell (Nat.le_refl _) _)⟩
    exact results_row_tmp' (p := 2) (q := 3) rfl _ _ w.heap.size _ rfl (load_ino _ _ ⟨k0, n1, z0, n4, n5, n6, n7, n8⟩ (set8 HE.out _ _ _ _ _ _ _ _))
  · have HR : Hid (getL s = none) := Lib.hid (by rw [HG.out, if_neg (fun h => heq h.2)])
    have hne : (Im.putL ⟨k0, n1, z0, n4, n5, n6, n7, n8⟩ == s) = false := by simpa using heq
    generalize Im.putL ⟨k0, n1, z0, n4, n5, n6, n7, n8⟩ = tt at hps hne
    have HP := Lib.hid hps
    clear hps hm heq HG
    go_wp2_with fail
    refine (HP.out _).mono ?_
    rintro e W4 ⟨rfl, hb⟩
    have hE := (hb.block _ hlt4).trans HE.out
    have HB := Lib.hid (HB.out.trans (hb.mono HB.out.size))
    clear hb d0 d1 d2 d3 d4 d5 d6 d7
    have c0 := cell_of_row W4 w.heap.size 0 _ 26 (0, 0) hE
    have c1 := cell_of_row W4 w.heap.size 1 _ 26 (0, 0) hE
    have c2 := cell_of_row W4 w.heap.size 2 _ 26 (0, 0) hE
    have c3 := cell_of_row W4 w.heap.size 3 _ 26 (0, 0) hE
    have c4 := cell_of_row W4 w.heap.size 4 _ 26 (0, 0) hE
    have c5 := cell_of_row W4 w.heap.size 5 _ 26 (0, 0) hE
    have c6 := cell_of_row W4 w.heap.size 6 _ 26 (0, 0) hE
    have c7 := cell_of_row W4 w.heap.size 7 _ 26 (0, 0) hE
    simp only [List.getElem?_toArray, List.getElem?_cons_zero, List.getElem?_cons_succ] at c0 c1 c2 c3 c4 c5 c6 c7
    have cf0 := frozen_of_row W4 w.heap.size 0 _ 26 hE
    have cf1 := frozen_of_row W4 w.heap.size 1 _ 26 hE
    have cf2 := frozen_of_row W4 w.heap.size 2 _ 26 hE
    have cf3 := frozen_of_row W4 w.heap.size 3 _ 26 hE
    have cf4 := frozen_of_row W4 w.heap.size 4 _ 26 hE
    have cf5 := frozen_of_row W4 w.heap.size 5 _ 26 hE
    have cf6 := frozen_of_row W4 w.heap.size 6 _ 26 hE
    have cf7 := frozen_of_row W4 w.heap.size 7 _ 26 hE
    have HE := Lib.hid hE
    clear hE
    go_wp2_with fail
    refine bodyPost_ret (v := getV none) ?_ rfl ⟨by rw [HR.out], ((((((((HB.out.setCell (Nat.le_refl _) _).setCell (Nat.le_refl _) _).setCell (Nat.le_refl _) _).setCell (Nat.le_refl _) _).setCell (Nat.le_refl _) _).setCell (Nat.le_refl _) _).setCell (Nat.le_refl _) _).setCell (Nat.le_refl _) _)⟩
    exact results_row_tmp' (p := 2) (q := 3) rfl _ _ w.heap.size _ rfl (load_ino _ _ Im.nought (set8 HE.out _ _ _ _ _ _ _ _))
theorem iget_any (s : List UInt8) (w : World) (hs : s.length ≤ 1000000) :
    Calls Try.prog 9 #[str s] w fun e w' => e = .returned (if s.length < 32 then .tuple #[Im.nought.v, .int .i64 6] else getV (getL s)) ∧ Below w.heap.size w w' := by
  by_cases h1 : s.length < 32
  · rw [if_pos h1]; exact iget_short s w h1
  · rw [if_neg h1]
    by_cases h2 : s.length = 32
    · exact iget_32 s w h2
    · have : getL s = none := getL_none fun h => h2 (by rw [← h.2, putL_length])
      rw [this]
      exact iget_long s w hs (by omega)
end Go.Proofs.Ytpipjjngffajlaa
