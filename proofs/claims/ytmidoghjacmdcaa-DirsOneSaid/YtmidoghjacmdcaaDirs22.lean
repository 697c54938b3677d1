/- Layer 10 (dirs): Add. -/
import Derived.Test.YtmidoghjacmdcaaDirs20
namespace Go.Proofs.Ytmidoghjacmdcaa
open Go.RowKit Go.Lib
set_option linter.unusedVariables false
set_option linter.unusedSimpArgs false
set_option maxRecDepth 10000
set_option maxRecDepth 100000 in
set_option maxHeartbeats 4000000 in
theorem add_any (s n : List UInt8) (i : Nat) (w : World) (hs : s.length ≤ maxLen) (hn : n.length ≤ maxLen) (hi : i < 4294967296) :
    Calls Try.prog 7 #[str s, str n, .int .u32 (i : Int)] w fun e w' => e = .returned (.tuple #[str (addT s ⟨n, i⟩), .int .i64 (addE s ⟨n, i⟩ : Nat)]) ∧ Below w.heap.size w w' := by
  have hR := fun W => read_any s W hs
  have hL := pad72_length (ents_le s)
  obtain ⟨hzr, hsz⟩ := zero_of_info entsInfo
  have Hsz := Lib.hid hsz
  clear hsz
  have hZ72 : (List.replicate 72 En.free).length = 72 := by simp
  generalize List.replicate 72 En.free = Z at *
  have hM := fun W => may_any ⟨n, i⟩ W hn
  by_cases h0 : chk s = 0
  · rw [h0] at hR
    have HR := Lib.hid hR
    clear hR
    cases hm : mayB ⟨n, i⟩ with
    | false =>
      obtain ⟨h1, h2⟩ := add_arg (x := ⟨n, i⟩) h0 hm
      have H1 := Lib.hid h1
      have H2 := Lib.hid h2
      rw [hm] at hM
      have HM := Lib.hid hM
      clear h0 h1 h2 hm hM
      generalize pad72 (ents s) = L at *
      go_enter Try.func7, Try.ntmps7
      go_wp2_with fail
      refine (HR.out _).mono ?_
      rintro e w1 ⟨rfl, hb1⟩
      have HB1 := Lib.hid hb1
      clear hb1 HR
      obtain ⟨w2, hst, ha, hb2, hsz2⟩ := arr_laid w1 Z L hZ72 hL
      have HB2 := Lib.hid (HB1.out.trans (hb2.mono HB1.out.size))
      have HB3 := Lib.hid (HB2.out.alloc HB2.out.size (.cells #[str n, .int .u32 (i : Int)] 34))
      clear ha hb2 hsz2
      go_wp2_with fail
      refine (HM.out _).mono ?_
      rintro e w4 ⟨rfl, hb4⟩
      have HB4 := Lib.hid (HB3.out.trans (hb4.mono HB3.out.size))
      clear hb4 HM
      go_wp2_with fail
      go_ret2
      exact ⟨by rw [H1.out, H2.out]; rfl, HB4.out⟩
    | true =>
      rw [hm] at hM
      have HM := Lib.hid hM
      have hn27 := (mayB_len hm).2.2
      cases hl : look (ents s) n with
      | some k =>
        obtain ⟨h1, h2⟩ := add_have (x := ⟨n, i⟩) h0 hm hl
        have H1 := Lib.hid h1
        have H2 := Lib.hid h2
        have HPl := Lib.hid fun g W (hW : EntAt W g (pad72 (ents s))) => by
          have := place_any g _ n W hW
          rw [look_pad72, hl] at this
          exact this
        clear h0 h1 h2 hm hM hl hn27
        generalize pad72 (ents s) = L at *
        go_enter Try.func7, Try.ntmps7
        go_wp2_with fail
        refine (HR.out _).mono ?_
        rintro e w1 ⟨rfl, hb1⟩
        have HB1 := Lib.hid hb1
        clear hb1 HR
        obtain ⟨w2, hst, ha, hb2, hsz2⟩ := arr_laid w1 Z L hZ72 hL
        have HB2 := Lib.hid (HB1.out.trans (hb2.mono HB1.out.size))
        have HB3 := Lib.hid (HB2.out.alloc HB2.out.size (.cells #[str n, .int .u32 (i : Int)] 34))
        have HA := Lib.hid (ha.after ((Below.refl _ w2).alloc (Nat.le_refl _) (.cells #[str n, .int .u32 (i : Int)] 34)))
        clear ha hb2 hsz2
        go_wp2_with fail
        refine (HM.out _).mono ?_
        rintro e w4 ⟨rfl, hb4⟩
        have HB4 := Lib.hid (HB3.out.trans (hb4.mono HB3.out.size))
        have HPl4 := Lib.hid (HPl.out _ _ (HA.out.after hb4))
        clear hb4 HM HPl
        go_wp2_with fail
        refine HPl4.out.mono ?_
        rintro e w5 ⟨rfl, hb5⟩
        have HB5 := Lib.hid (HB4.out.trans (hb5.mono HB4.out.size))
        clear hb5 HPl4
        dsimp only [optI]
        go_wp2_with fail
        go_ret2
        exact ⟨by rw [H1.out, H2.out]; rfl, HB5.out⟩
      | none =>
        have HPl := Lib.hid fun g W (hW : EntAt W g (pad72 (ents s))) => by
          have := place_any g _ n W hW
          rw [look_pad72, hl] at this
          exact this
        have h72 := ents_le s
        obtain ⟨l1, l2, l3⟩ := ents_len h0
        have hgp := gap_pad h72
        cases hg : gap (ents s) with
        | some k =>
          obtain ⟨h1, h2⟩ := add_gap (x := ⟨n, i⟩) h0 hm hl hg
          have hkl := gap_lt hg
          rw [hg] at hgp
          have HGp := Lib.hid fun g W (hW : EntAt W g (pad72 (ents s))) => by
            have := gap_any g _ W hW
            rw [hgp] at this
            exact this
          have HC := Lib.hid fun W => change_in s k ⟨n, i⟩ W l2 (by omega) hi hn27
          have H1 := Lib.hid h1
          have H2 := Lib.hid h2
          clear h0 h1 h2 hm hM hl hn27 hg hgp l1 l2 l3
          generalize pad72 (ents s) = L at *
          go_enter Try.func7, Try.ntmps7
          go_wp2_with fail
          refine (HR.out _).mono ?_
          rintro e w1 ⟨rfl, hb1⟩
          have HB1 := Lib.hid hb1
          clear hb1 HR
          obtain ⟨w2, hst, ha, hb2, hsz2⟩ := arr_laid w1 Z L hZ72 hL
          have HB2 := Lib.hid (HB1.out.trans (hb2.mono HB1.out.size))
          have HB3 := Lib.hid (HB2.out.alloc HB2.out.size (.cells #[str n, .int .u32 (i : Int)] 34))
          have HA := Lib.hid (ha.after ((Below.refl _ w2).alloc (Nat.le_refl _) (.cells #[str n, .int .u32 (i : Int)] 34)))
          have HV := Lib.hid (two_cells w2 (str n) (.int .u32 (i : Int)) 34)
          clear ha hb2 hsz2
          go_wp2_with fail
          refine (HM.out _).mono ?_
          rintro e w4 ⟨rfl, hb4⟩
          have HB4 := Lib.hid (HB3.out.trans (hb4.mono HB3.out.size))
          have HA4 := Lib.hid (HA.out.after hb4)
          have HV4 := Lib.hid (pair_kept HV.out hb4)
          have HPl4 := Lib.hid (HPl.out _ _ HA4.out)
          clear hb4 HM HPl HA HV
          go_wp2_with fail
          refine HPl4.out.mono ?_
          rintro e w5 ⟨rfl, hb5⟩
          have HB5 := Lib.hid (HB4.out.trans (hb5.mono HB4.out.size))
          have HV5 := Lib.hid (pair_kept HV4.out hb5)
          have HGp5 := Lib.hid (HGp.out _ _ (HA4.out.after hb5))
          clear hb5 HPl4 HA4 HV4 HGp
          dsimp only [optI]
          go_wp2_with fail
          refine HGp5.out.mono ?_
          rintro e w6 ⟨rfl, hb6⟩
          have HB6 := Lib.hid (HB5.out.trans (hb6.mono HB5.out.size))
          obtain ⟨x0, x1⟩ := pair_kept HV5.out hb6
          clear hb6 HGp5
          dsimp only [optI]
          go_wp2_with fail
          refine (HC.out _).mono ?_
          rintro e w7 ⟨rfl, hb7⟩
          have HB7 := Lib.hid (HB6.out.trans (hb7.mono HB6.out.size))
          clear hb7 HC
          go_wp2_with fail
          go_ret2
          exact ⟨by rw [H1.out, H2.out]; rfl, HB7.out⟩
        | none =>
          rw [hg] at hgp
          simp only at hgp
          by_cases hlt : (ents s).length < 72
          · obtain ⟨h1, h2⟩ := add_more (x := ⟨n, i⟩) h0 hm hl hg hlt
            rw [if_pos hlt] at hgp
            have HGp := Lib.hid fun g W (hW : EntAt W g (pad72 (ents s))) => by
              have := gap_any g _ W hW
              rw [hgp] at this
              exact this
            have HC := Lib.hid fun W => change_end s (ents s).length ⟨n, i⟩ W (by omega) (by omega) hi hn27
            have hkl : (ents s).length < 72 := hlt
            generalize (ents s).length = k at *
            have H1 := Lib.hid h1
            have H2 := Lib.hid h2
            clear h0 h1 h2 hm hM hl hn27 hg hgp l1 l2 l3 hlt
            generalize pad72 (ents s) = L at *
            go_enter Try.func7, Try.ntmps7
            go_wp2_with fail
            refine (HR.out _).mono ?_
            rintro e w1 ⟨rfl, hb1⟩
            have HB1 := Lib.hid hb1
            clear hb1 HR
            obtain ⟨w2, hst, ha, hb2, hsz2⟩ := arr_laid w1 Z L hZ72 hL
            have HB2 := Lib.hid (HB1.out.trans (hb2.mono HB1.out.size))
            have HB3 := Lib.hid (HB2.out.alloc HB2.out.size (.cells #[str n, .int .u32 (i : Int)] 34))
            have HA := Lib.hid (ha.after ((Below.refl _ w2).alloc (Nat.le_refl _) (.cells #[str n, .int .u32 (i : Int)] 34)))
            have HV := Lib.hid (two_cells w2 (str n) (.int .u32 (i : Int)) 34)
            clear ha hb2 hsz2
            go_wp2_with fail
            refine (HM.out _).mono ?_
            rintro e w4 ⟨rfl, hb4⟩
            have HB4 := Lib.hid (HB3.out.trans (hb4.mono HB3.out.size))
            have HA4 := Lib.hid (HA.out.after hb4)
            have HV4 := Lib.hid (pair_kept HV.out hb4)
            have HPl4 := Lib.hid (HPl.out _ _ HA4.out)
            clear hb4 HM HPl HA HV
            go_wp2_with fail
            refine HPl4.out.mono ?_
            rintro e w5 ⟨rfl, hb5⟩
            have HB5 := Lib.hid (HB4.out.trans (hb5.mono HB4.out.size))
            have HV5 := Lib.hid (pair_kept HV4.out hb5)
            have HGp5 := Lib.hid (HGp.out _ _ (HA4.out.after hb5))
            clear hb5 HPl4 HA4 HV4 HGp
            dsimp only [optI]
            go_wp2_with fail
            refine HGp5.out.mono ?_
            rintro e w6 ⟨rfl, hb6⟩
            have HB6 := Lib.hid (HB5.out.trans (hb6.mono HB5.out.size))
            obtain ⟨x0, x1⟩ := pair_kept HV5.out hb6
            clear hb6 HGp5
            dsimp only [optI]
            go_wp2_with fail
            refine (HC.out _).mono ?_
            rintro e w7 ⟨rfl, hb7⟩
            have HB7 := Lib.hid (HB6.out.trans (hb7.mono HB6.out.size))
            clear hb7 HC
            go_wp2_with fail
            go_ret2
            exact ⟨by rw [H1.out, H2.out]; rfl, HB7.out⟩
          · obtain ⟨h1, h2⟩ := add_full (x := ⟨n, i⟩) h0 hm hl hg (by omega)
            rw [if_neg hlt] at hgp
            have HGp := Lib.hid fun g W (hW : EntAt W g (pad72 (ents s))) => by
              have := gap_any g _ W hW
              rw [hgp] at this
              exact this
            have H1 := Lib.hid h1
            have H2 := Lib.hid h2
            clear h0 h1 h2 hm hM hl hn27 hg hgp l1 l2 l3 hlt
            generalize pad72 (ents s) = L at *
            go_enter Try.func7, Try.ntmps7
            go_wp2_with fail
            refine (HR.out _).mono ?_
            rintro e w1 ⟨rfl, hb1⟩
            have HB1 := Lib.hid hb1
            clear hb1 HR
            obtain ⟨w2, hst, ha, hb2, hsz2⟩ := arr_laid w1 Z L hZ72 hL
            have HB2 := Lib.hid (HB1.out.trans (hb2.mono HB1.out.size))
            have HB3 := Lib.hid (HB2.out.alloc HB2.out.size (.cells #[str n, .int .u32 (i : Int)] 34))
            have HA := Lib.hid (ha.after ((Below.refl _ w2).alloc (Nat.le_refl _) (.cells #[str n, .int .u32 (i : Int)] 34)))
            have HV := Lib.hid (two_cells w2 (str n) (.int .u32 (i : Int)) 34)
            clear ha hb2 hsz2
            go_wp2_with fail
            refine (HM.out _).mono ?_
            rintro e w4 ⟨rfl, hb4⟩
            have HB4 := Lib.hid (HB3.out.trans (hb4.mono HB3.out.size))
            have HA4 := Lib.hid (HA.out.after hb4)
            have HV4 := Lib.hid (pair_kept HV.out hb4)
            have HPl4 := Lib.hid (HPl.out _ _ HA4.out)
            clear hb4 HM HPl HA HV
            go_wp2_with fail
            refine HPl4.out.mono ?_
            rintro e w5 ⟨rfl, hb5⟩
            have HB5 := Lib.hid (HB4.out.trans (hb5.mono HB4.out.size))
            have HV5 := Lib.hid (pair_kept HV4.out hb5)
            have HGp5 := Lib.hid (HGp.out _ _ (HA4.out.after hb5))
            clear hb5 HPl4 HA4 HV4 HGp
            dsimp only [optI]
            go_wp2_with fail
            refine HGp5.out.mono ?_
            rintro e w6 ⟨rfl, hb6⟩
            have HB6 := Lib.hid (HB5.out.trans (hb6.mono HB5.out.size))
            obtain ⟨x0, x1⟩ := pair_kept HV5.out hb6
            clear hb6 HGp5
            dsimp only [optI]
            go_wp2_with fail
            go_ret2
            exact ⟨by rw [H1.out, H2.out]; rfl, HB6.out⟩
  · obtain ⟨h1, h2⟩ := add_bad (x := ⟨n, i⟩) h0
    have q := chk_ne h0
    have H1 := Lib.hid h1
    have H2 := Lib.hid h2
    have HR := Lib.hid hR
    clear h0 h1 h2 hR hM
    generalize pad72 (ents s) = L at *
    generalize chk s = z at *
    go_enter Try.func7, Try.ntmps7
    go_wp2_with fail
    refine (HR.out _).mono ?_
    rintro e w1 ⟨rfl, hb1⟩
    have HB1 := Lib.hid hb1
    clear hb1 HR
    obtain ⟨w2, hst, ha, hb2, hsz2⟩ := arr_laid w1 Z L hZ72 hL
    have HB2 := Lib.hid (HB1.out.trans (hb2.mono HB1.out.size))
    clear ha hb2 hsz2
    go_wp2_with fail
    go_ret2
    exact ⟨by rw [H1.out, H2.out]; rfl, HB2.out⟩
end Go.Proofs.Ytmidoghjacmdcaa
