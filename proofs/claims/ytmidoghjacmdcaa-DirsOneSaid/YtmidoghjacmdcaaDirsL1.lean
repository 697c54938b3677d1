/- Layer 10 (dirs), the laws: the chapter's example. -/
import Derived.Test.YtmidoghjacmdcaaDirs12
import Derived.Test.YtmidoghjacmdcaaDirs21
import Derived.Test.YtmidoghjacmdcaaDirs22
import Derived.Test.YtmidoghjacmdcaaDirs23
namespace Go.Proofs.Ytmidoghjacmdcaa
open Go.RowKit Go.Lib
set_option linter.unusedVariables false
set_option linter.unusedSimpArgs false
set_option maxRecDepth 10000
def exA : List UInt8 := text [⟨[97], 5⟩, En.free]
def exB : List UInt8 := text [⟨[97], 5⟩, ⟨[98], 6⟩]
def exC : List UInt8 := text [En.free, ⟨[98], 6⟩]
def exD : List UInt8 := text [⟨[99], 7⟩, ⟨[98], 6⟩]
theorem ex_a : addT [] ⟨[97], 5⟩ = exA ∧ addE [] ⟨[97], 5⟩ = 0 := by decide +kernel
theorem ex_b : addT exA ⟨[98], 6⟩ = exB ∧ addE exA ⟨[98], 6⟩ = 0 := by decide +kernel
theorem ex_c : delT exB [97] = exC ∧ delI exB [97] = 5 ∧ delE exB [97] = 0 := by decide +kernel
theorem ex_d : addT exC ⟨[99], 7⟩ = exD ∧ addE exC ⟨[99], 7⟩ = 0 := by decide +kernel
theorem ex_e : addE exD ⟨[99], 8⟩ = 9 ∧ addE exD ⟨[47], 8⟩ = 2 := by decide +kernel
theorem ex_f : fIno (ents exD) [99] = 7 ∧ fAt (ents exD) [99] = 0 ∧ fIs (ents exD) [99] = true := by decide +kernel
theorem ex_g : exA.length = 64 ∧ exA.take 6 = [5, 0, 0, 0, 1, 97] ∧ exD.length = 64 ∧ chk (exD.drop 1) = 7 := by decide +kernel
theorem ex_l : lst exD = [⟨[99], 7⟩, ⟨[98], 6⟩] := by decide +kernel
theorem ex_len : exB.length = 64 ∧ exC.length = 64 := by decide +kernel
theorem four_cells (w : World) (a b c d : Value) (t : TypeId) : (w.alloc (.cells #[a, b, c, d] t)).cell? ⟨w.heap.size, 0, none⟩ = some a ∧ (w.alloc (.cells #[a, b, c, d] t)).cell? ⟨w.heap.size, 1, none⟩ = some b ∧ (w.alloc (.cells #[a, b, c, d] t)).cell? ⟨w.heap.size, 2, none⟩ = some c ∧ (w.alloc (.cells #[a, b, c, d] t)).cell? ⟨w.heap.size, 3, none⟩ = some d := by
  have h := heap_alloc_new w (.cells #[a, b, c, d] t)
  exact ⟨by rw [cell_of_row _ _ 0 _ t (0, 0) h]; rfl, by rw [cell_of_row _ _ 1 _ t (0, 0) h]; rfl, by rw [cell_of_row _ _ 2 _ t (0, 0) h]; rfl, by rw [cell_of_row _ _ 3 _ t (0, 0) h]; rfl⟩
set_option maxRecDepth 100000 in
set_option maxHeartbeats 4000000 in
theorem alive_any (w : World) : Calls Try.prog 6 #[] w fun e w' => e = .returned (.bool true) ∧ Below w.heap.size w w' := by
  have hA : ∀ V, Calls Try.prog 7 #[str [], str [97], .int .u32 5] V fun e w' => e = .returned (.tuple #[str exA, .int .i64 0]) ∧ Below V.heap.size V w' := fun V => by
    have := add_any [] [97] 5 V (by decide) (by decide) (by decide)
    rwa [ex_a.1, ex_a.2] at this
  have hB : ∀ V, Calls Try.prog 7 #[str exA, str [98], .int .u32 6] V fun e w' => e = .returned (.tuple #[str exB, .int .i64 0]) ∧ Below V.heap.size V w' := fun V => by
    have := add_any exA [98] 6 V (by rw [ex_g.1]; decide) (by decide) (by decide)
    rwa [ex_b.1, ex_b.2] at this
  have hC : ∀ V, Calls Try.prog 11 #[str exB, str [97]] V fun e w' => e = .returned (.tuple #[str exC, .int .u32 5, .int .i64 0]) ∧ Below V.heap.size V w' := fun V => by
    have := del_any exB [97] V (by rw [ex_len.1]; decide)
    rwa [ex_c.1, ex_c.2.1, ex_c.2.2] at this
  have hD : ∀ V, Calls Try.prog 7 #[str exC, str [99], .int .u32 7] V fun e w' => e = .returned (.tuple #[str exD, .int .i64 0]) ∧ Below V.heap.size V w' := fun V => by
    have := add_any exC [99] 7 V (by rw [ex_len.2]; decide) (by decide) (by decide)
    rwa [ex_d.1, ex_d.2] at this
  have hE : ∀ V, Calls Try.prog 7 #[str exD, str [99], .int .u32 8] V fun e w' => e = .returned (.tuple #[str (addT exD ⟨[99], 8⟩), .int .i64 9]) ∧ Below V.heap.size V w' := fun V => by
    have := add_any exD [99] 8 V (by rw [ex_g.2.2.1]; decide) (by decide) (by decide)
    rwa [ex_e.1] at this
  have hF : ∀ V, Calls Try.prog 7 #[str exD, str [47], .int .u32 8] V fun e w' => e = .returned (.tuple #[str (addT exD ⟨[47], 8⟩), .int .i64 2]) ∧ Below V.heap.size V w' := fun V => by
    have := add_any exD [47] 8 V (by rw [ex_g.2.2.1]; decide) (by decide) (by decide)
    rwa [ex_e.2] at this
  have hG : ∀ V, Calls Try.prog 15 #[str exD, str [99]] V fun e w' => e = .returned (.tuple #[.int .u32 7, .int .i64 0, .bool true]) ∧ Below V.heap.size V w' := fun V => by
    have := find_any exD [99] V (by rw [ex_g.2.2.1]; decide)
    unfold fndV at this
    rwa [ex_f.1, ex_f.2.1, ex_f.2.2] at this
  have hH : ∀ V, Calls Try.prog 20 #[str ((exD.take 64).tail)] V fun e w' => e = .returned (.int .i64 7) ∧ Below V.heap.size V w' := fun V => by
    rw [show (exD.take 64).tail = exD.drop 1 by decide +kernel]
    have := check_any (exD.drop 1) V (by rw [List.length_drop, ex_g.2.2.1]; decide)
    rwa [ex_g.2.2.2] at this
  have hI : ∀ V, Calls Try.prog 23 #[str exD] V fun e w' => (∃ v, e = .returned v ∧ EntRow w' v [⟨[99], 7⟩, ⟨[98], 6⟩]) ∧ Below V.heap.size V w' := fun V => by
    have := list_any exD V (by rw [ex_g.2.2.1]; decide)
    rwa [ex_l] at this
  have HA := Lib.hid hA
  have HB := Lib.hid hB
  have HC := Lib.hid hC
  have HD := Lib.hid hD
  have HE := Lib.hid hE
  have HF := Lib.hid hF
  have HG := Lib.hid hG
  have HH := Lib.hid hH
  have HI := Lib.hid hI
  have l1 := ex_g.1
  have l2 := ex_g.2.1
  have l3 := ex_g.2.2.1
  clear hA hB hC hD hE hF hG hH hI
  generalize addT exD ⟨[99], 8⟩ = X1 at *
  generalize addT exD ⟨[47], 8⟩ = X2 at *
  generalize exA = A at *
  generalize exB = B at *
  generalize exC = C at *
  generalize exD = D at *
  go_enter Try.func6, Try.ntmps6
  go_wp2_with fail
  refine (HA.out _).mono ?_
  rintro e w1 ⟨rfl, hb1⟩
  have HB1 := Lib.hid hb1
  clear hb1 HA
  go_wp2_with fail
  refine (HB.out _).mono ?_
  rintro e w2 ⟨rfl, hb2⟩
  have HB2 := Lib.hid (HB1.out.trans (hb2.mono HB1.out.size))
  clear hb2 HB
  go_wp2_with fail
  refine (HC.out _).mono ?_
  rintro e w3 ⟨rfl, hb3⟩
  have HB3 := Lib.hid (HB2.out.trans (hb3.mono HB2.out.size))
  clear hb3 HC
  go_wp2_with fail
  refine (HD.out _).mono ?_
  rintro e w4 ⟨rfl, hb4⟩
  have HB4 := Lib.hid (HB3.out.trans (hb4.mono HB3.out.size))
  clear hb4 HD
  go_wp2_with fail
  refine (HE.out _).mono ?_
  rintro e w5 ⟨rfl, hb5⟩
  have HB5 := Lib.hid (HB4.out.trans (hb5.mono HB4.out.size))
  clear hb5 HE
  go_wp2_with fail
  refine (HF.out _).mono ?_
  rintro e w6 ⟨rfl, hb6⟩
  have HB6 := Lib.hid (HB5.out.trans (hb6.mono HB5.out.size))
  clear hb6 HF
  go_wp2_with fail
  refine (HG.out _).mono ?_
  rintro e w7 ⟨rfl, hb7⟩
  have HB7 := Lib.hid (HB6.out.trans (hb7.mono HB6.out.size))
  clear hb7 HG
  go_wp2_with fail
  refine (HH.out _).mono ?_
  rintro e w8 ⟨rfl, hb8⟩
  have HB8 := Lib.hid (HB7.out.trans (hb8.mono HB7.out.size))
  clear hb8 HH
  go_wp2_with fail
  refine (HI.out _).mono ?_
  rintro e w9 ⟨⟨v, rfl, hv⟩, hb9⟩
  have HB9 := Lib.hid (HB8.out.trans (hb9.mono HB8.out.size))
  have hb10 : Below w9.heap.size w9 (w9.alloc (.cells #[str [99], .int .u32 7, str [98], .int .u32 6] 34)) := (Below.refl _ _).alloc (Nat.le_refl _) _
  have HV := Lib.hid (hv.below hb10)
  have HL := Lib.hid (show EntRow (w9.alloc (.cells #[str [99], .int .u32 7, str [98], .int .u32 6] 34)) (.slice (some ⟨w9.heap.size, 0, none⟩) 2 2) [⟨[99], 7⟩, ⟨[98], 6⟩] from by
    obtain ⟨k0, k1, k2, k3⟩ := four_cells w9 (str [99]) (.int .u32 7) (str [98]) (.int .u32 6) 34
    refine ⟨some ⟨w9.heap.size, 0, none⟩, 2, rfl, fun j x hj => ⟨w9.heap.size, rfl, ?_⟩⟩
    match j, hj with
    | 0, hj => simp at hj; subst hj; exact ⟨k0, k1⟩
    | 1, hj => simp at hj; subst hj; exact ⟨k2, k3⟩)
  have HB10 := Lib.hid (HB9.out.trans (hb10.mono HB9.out.size))
  have hs := refSame_any v (.slice (some ⟨w9.heap.size, 0, none⟩) 2 2) [⟨[99], 7⟩, ⟨[98], 6⟩] [⟨[99], 7⟩, ⟨[98], 6⟩] _ HV.out HL.out (by decide) (by decide)
  rw [decide_eq_true (show [(⟨[99], 7⟩ : En), ⟨[98], 6⟩] = [⟨[99], 7⟩, ⟨[98], 6⟩] from rfl)] at hs
  have HSm := Lib.hid hs
  clear hb9 hb10 hv hs HI
  go_wp2_with fail
  refine HSm.out.mono ?_
  rintro e w11 ⟨rfl, hb11⟩
  have HB11 := Lib.hid (HB10.out.trans (hb11.mono HB10.out.size))
  clear hb11
  go_wp2_with fail
  go_ret
  exact ⟨rfl, HB11.out⟩
end Go.Proofs.Ytmidoghjacmdcaa
