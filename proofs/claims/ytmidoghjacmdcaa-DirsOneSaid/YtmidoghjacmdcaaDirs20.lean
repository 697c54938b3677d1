/- Layer 10 (dirs): Set, Del, Slot, Trim. -/
import Derived.Test.YtmidoghjacmdcaaDirs19
namespace Go.Proofs.Ytmidoghjacmdcaa
open Go.RowKit Go.Lib
set_option linter.unusedVariables false
set_option linter.unusedSimpArgs false
set_option maxRecDepth 10000
theorem chk_eq {s : List UInt8} (h : chk s ≠ 0) : (((chk s : Nat) : Int) == 0) = false := by simp; omega
set_option maxHeartbeats 4000000 in
theorem set_any (s n : List UInt8) (i : Nat) (w : World) (hs : s.length ≤ maxLen) (hi : i < 4294967296) :
    Calls Try.prog 9 #[str s, str n, .int .u32 (i : Int)] w fun e w' => e = .returned (.tuple #[str (setT s ⟨n, i⟩), .int .i64 (setE s ⟨n, i⟩ : Nat)]) ∧ Below w.heap.size w w' := by
  have hR := fun W => read_any s W hs
  have hL := pad72_length (ents_le s)
  obtain ⟨hzr, hsz⟩ := zero_of_info entsInfo
  have Hsz := Lib.hid hsz
  clear hsz
  have hZ72 : (List.replicate 72 En.free).length = 72 := by simp
  generalize List.replicate 72 En.free = Z at *
  by_cases h0 : chk s = 0
  · rw [h0] at hR
    have HR := Lib.hid hR
    clear hR
    by_cases hi0 : i = 0
    · obtain ⟨h1, h2⟩ := set_arg (x := ⟨n, i⟩) h0 hi0
      have H1 := Lib.hid h1
      have H2 := Lib.hid h2
      subst hi0
      clear h0 h1 h2
      generalize pad72 (ents s) = L at *
      go_enter Try.func9, Try.ntmps9
      go_wp2_with fail
      refine (HR.out _).mono ?_
      rintro e w1 ⟨rfl, hb1⟩
      have HB1 := Lib.hid hb1
      clear hb1 HR
      obtain ⟨w2, hst, ha, hb2, hsz2⟩ := arr_laid w1 Z L hZ72 hL
      have HB2 := Lib.hid (HB1.out.trans (hb2.mono HB1.out.size))
      clear ha hb2 hsz2
      go_wp2_with fail
      go_ret2
      exact ⟨by rw [H1.out, H2.out]; rfl, HB2.out⟩
    · have q1 : ((i : Int) == 0) = false := (ino_ne hi0).1
      cases hl : look (ents s) n with
      | none =>
        obtain ⟨h1, h2⟩ := set_none (x := ⟨n, i⟩) h0 hi0 hl
        have H1 := Lib.hid h1
        have H2 := Lib.hid h2
        have HPl := Lib.hid fun g W (hW : EntAt W g (pad72 (ents s))) => by
          have := place_any g _ n W hW
          rw [look_pad72, hl] at this
          exact this
        clear h0 h1 h2 hi0 hl
        generalize pad72 (ents s) = L at *
        go_enter Try.func9, Try.ntmps9
        go_wp2_with fail
        refine (HR.out _).mono ?_
        rintro e w1 ⟨rfl, hb1⟩
        have HB1 := Lib.hid hb1
        clear hb1 HR
        obtain ⟨w2, hst, ha, hb2, hsz2⟩ := arr_laid w1 Z L hZ72 hL
        have HB2 := Lib.hid (HB1.out.trans (hb2.mono HB1.out.size))
        have HPl2 := Lib.hid (HPl.out _ _ ha)
        clear ha hb2 hsz2 HPl
        go_wp2_with fail
        refine HPl2.out.mono ?_
        rintro e w3 ⟨rfl, hb3⟩
        have HB3 := Lib.hid (HB2.out.trans (hb3.mono HB2.out.size))
        clear hb3 HPl2
        dsimp only [optI]
        go_wp2_with fail
        go_ret2
        exact ⟨by rw [H1.out, H2.out]; rfl, HB3.out⟩
      | some k =>
        obtain ⟨hne, x, hx, hxn, -⟩ := look_some hl
        obtain ⟨h1, h2⟩ := set_some (x := ⟨n, i⟩) h0 hi0 hl
        have hn27 : n.length ≤ 27 := by rw [← hxn]; exact (ents_ok s x (List.mem_of_getElem? hx)).len
        have hkl := look_lt hl
        have h72 := ents_le s
        obtain ⟨l1, l2, l3⟩ := ents_len h0
        have H1 := Lib.hid h1
        have H2 := Lib.hid h2
        have HPl := Lib.hid fun g W (hW : EntAt W g (pad72 (ents s))) => by
          have := place_any g _ n W hW
          rw [look_pad72, hl] at this
          exact this
        have HC := Lib.hid fun W => change_in s k ⟨n, i⟩ W l2 (by omega) hi hn27
        clear h0 h1 h2 hi0 hl hx hxn hne hn27 l1 l2 l3
        generalize pad72 (ents s) = L at *
        go_enter Try.func9, Try.ntmps9
        go_wp2_with fail
        refine (HR.out _).mono ?_
        rintro e w1 ⟨rfl, hb1⟩
        have HB1 := Lib.hid hb1
        clear hb1 HR
        obtain ⟨w2, hst, ha, hb2, hsz2⟩ := arr_laid w1 Z L hZ72 hL
        have HB2 := Lib.hid (HB1.out.trans (hb2.mono HB1.out.size))
        have HPl2 := Lib.hid (HPl.out _ _ ha)
        clear ha hb2 hsz2 HPl
        go_wp2_with fail
        refine HPl2.out.mono ?_
        rintro e w3 ⟨rfl, hb3⟩
        have HB3 := Lib.hid (HB2.out.trans (hb3.mono HB2.out.size))
        clear hb3 HPl2
        dsimp only [optI]
        go_wp2_with fail
        refine (HC.out _).mono ?_
        rintro e w4 ⟨rfl, hb4⟩
        have HB4 := Lib.hid (HB3.out.trans (hb4.mono HB3.out.size))
        clear hb4 HC
        go_wp2_with fail
        go_ret2
        exact ⟨by rw [H1.out, H2.out]; rfl, HB4.out⟩
  · obtain ⟨h1, h2⟩ := set_bad (x := ⟨n, i⟩) h0
    have q := chk_ne h0
    have H1 := Lib.hid h1
    have H2 := Lib.hid h2
    have HR := Lib.hid hR
    clear h0 h1 h2 hR
    generalize pad72 (ents s) = L at *
    generalize chk s = z at *
    go_enter Try.func9, Try.ntmps9
    go_wp2_with fail
    refine (HR.out _).mono ?_
    rintro e w1 ⟨rfl, hb1⟩
    have HB1 := Lib.hid hb1
    clear hb1 HR
    obtain ⟨w2, hst, ha, hb2, hsz2⟩ := arr_laid w1 Z L hZ72 hL
    have HB2 := Lib.hid (HB1.out.trans (hb2.mono HB1.out.size))
    clear ha hb2 hsz2
    go_wp2_with fail
    go_ret2
    exact ⟨by rw [H1.out, H2.out]; rfl, HB2.out⟩
set_option maxHeartbeats 1000000 in
theorem slot_ok (x : En) (w : World) (hm : mayB x = true) (hi : x.i < 4294967296) :
    Calls Try.prog 17 #[x.v] w fun e w' => e = .returned (.tuple #[str (slotL x), .int .i64 0]) ∧ Below w.heap.size w w' := by
  have hn := (mayB_len hm).2.2
  have HM := Lib.hid fun W => may_any x W (by simp only [maxLen]; omega)
  have HP := Lib.hid fun W => dput_any x W hi hn
  rw [hm] at HM
  have HB0 := Lib.hid ((Below.refl w.heap.size w).alloc (Nat.le_refl _) (.cells #[str x.n, .int .u32 (x.i : Int)] 34))
  have HV := Lib.hid (two_cells w (str x.n) (.int .u32 (x.i : Int)) 34)
  clear hm
  go_enter Try.func17, Try.ntmps17
  go_wp2_with fail
  refine (HM.out _).mono ?_
  rintro e w1 ⟨rfl, hb1⟩
  obtain ⟨x0, x1⟩ := pair_kept HV.out hb1
  have HB1 := Lib.hid (HB0.out.trans (hb1.mono HB0.out.size))
  clear hb1 HM HV
  go_wp2_with fail
  refine (HP.out _).mono ?_
  rintro e w2 ⟨rfl, hb2⟩
  have HB2 := Lib.hid (HB1.out.trans (hb2.mono HB1.out.size))
  clear hb2 HP
  go_wp2_with fail
  go_ret2
  exact ⟨rfl, HB2.out⟩
theorem slot_no (x : En) (w : World) (hm : mayB x = false) (hn : x.n.length ≤ maxLen) :
    Calls Try.prog 17 #[x.v] w fun e w' => e = .returned (.tuple #[str [], .int .i64 2]) ∧ Below w.heap.size w w' := by
  have HM := Lib.hid fun W => may_any x W hn
  rw [hm] at HM
  have HB0 := Lib.hid ((Below.refl w.heap.size w).alloc (Nat.le_refl _) (.cells #[str x.n, .int .u32 (x.i : Int)] 34))
  clear hm
  go_enter Try.func17, Try.ntmps17
  go_wp2_with fail
  refine (HM.out _).mono ?_
  rintro e w1 ⟨rfl, hb1⟩
  have HB1 := Lib.hid (HB0.out.trans (hb1.mono HB0.out.size))
  clear hb1 HM
  go_wp2_with fail
  go_ret2
  exact ⟨rfl, HB1.out⟩
end Go.Proofs.Ytmidoghjacmdcaa
