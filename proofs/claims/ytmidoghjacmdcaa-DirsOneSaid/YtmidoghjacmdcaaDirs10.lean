/- Layer 10 (dirs), the document's own answers: Add. -/
import Derived.Test.YtmidoghjacmdcaaDirs9
namespace Go.Proofs.Ytmidoghjacmdcaa
open Go.RowKit Go.Lib
set_option linter.unusedVariables false
set_option linter.unusedSimpArgs false
set_option maxRecDepth 10000
/-- Two cells that stay. -/
theorem pair_kept {W W' : World} {g : Nat} {a b : Value} (h : W.cell? ⟨g, 0, none⟩ = some a ∧ W.cell? ⟨g, 1, none⟩ = some b) (hb : Below W.heap.size W W') : W'.cell? ⟨g, 0, none⟩ = some a ∧ W'.cell? ⟨g, 1, none⟩ = some b :=
  have hg : g < W.heap.size := World.block_lt_of_cell? W _ h.1
  ⟨(hb.cell (p := ⟨g, 0, none⟩) hg).trans h.1, (hb.cell (p := ⟨g, 1, none⟩) hg).trans h.2⟩
set_option maxRecDepth 100000 in
set_option maxHeartbeats 4000000 in
theorem refAdd_any (s n : List UInt8) (i : Nat) (w : World) (hs : s.length ≤ maxLen) (hn : n.length ≤ maxLen) (hi : i < 4294967296) :
    Calls Try.prog 8 #[str s, str n, .int .u32 (i : Int)] w fun e w' => e = .returned (.tuple #[str (addT s ⟨n, i⟩), .int .i64 (addE s ⟨n, i⟩ : Nat)]) ∧ Below w.heap.size w w' := by
  have HC := Lib.hid fun W => refCheck_any s W hs
  by_cases h0 : chk s = 0
  · cases hm : mayB ⟨n, i⟩ with
    | false =>
      obtain ⟨h1, h2⟩ := add_arg (x := ⟨n, i⟩) h0 hm
      have H1 := Lib.hid h1
      have H2 := Lib.hid h2
      have HM := Lib.hid fun W => refMay_any ⟨n, i⟩ W hn
      rw [hm] at HM
      rw [h0] at HC
      clear h0 h1 h2 hm
      go_enter Try.func8, Try.ntmps8
      go_wp2_with fail
      refine (HC.out _).mono ?_
      rintro e w1 ⟨rfl, hb1⟩
      have HB1 := Lib.hid hb1
      clear hb1 HC
      go_wp2_with fail
      refine (HM.out _).mono ?_
      rintro e w2 ⟨rfl, hb2⟩
      have HB2 := Lib.hid ((HB1.out.alloc HB1.out.size (.cells #[str n, .int .u32 (i : Int)] 34)).trans (hb2.mono (by have := HB1.out.size; simp; omega)))
      clear hb2 HM
      go_wp2_with fail
      go_ret2
      exact ⟨by rw [H1.out, H2.out]; rfl, HB2.out⟩
    | true =>
      have hn27 := (mayB_len hm).2.2
      have HM := Lib.hid fun W => refMay_any ⟨n, i⟩ W hn
      rw [hm] at HM
      have hF := fun W => refFind_any s n W hs
      cases hl : look (ents s) n with
      | some k =>
        obtain ⟨h1, h2⟩ := add_have (x := ⟨n, i⟩) h0 hm hl
        obtain ⟨hne, x, hx, hxn, -⟩ := look_some hl
        have H1 := Lib.hid h1
        have H2 := Lib.hid h2
        have hfv : fndV (ents s) n = .tuple #[.int .u32 (x.i : Nat), .int .i64 (k : Nat), .bool true] := by unfold fndV; rw [fIno_some hl hx, fAt_some hl, fIs_some hl]
        rw [hfv] at hF
        have HF := Lib.hid hF
        rw [h0] at HC
        clear h0 h1 h2 hm hF hl hfv hx hxn hne hn27
        go_enter Try.func8, Try.ntmps8
        go_wp2_with fail
        refine (HC.out _).mono ?_
        rintro e w1 ⟨rfl, hb1⟩
        have HB1 := Lib.hid hb1
        clear hb1 HC
        go_wp2_with fail
        refine (HM.out _).mono ?_
        rintro e w2 ⟨rfl, hb2⟩
        have HB2 := Lib.hid ((HB1.out.alloc HB1.out.size (.cells #[str n, .int .u32 (i : Int)] 34)).trans (hb2.mono (by have := HB1.out.size; simp; omega)))
        clear hb2 HM
        go_wp2_with fail
        refine (HF.out _).mono ?_
        rintro e w3 ⟨rfl, hb3⟩
        have HB3 := Lib.hid (HB2.out.trans (hb3.mono HB2.out.size))
        clear hb3 HF
        go_wp2_with fail
        go_ret2
        exact ⟨by rw [H1.out, H2.out]; rfl, HB3.out⟩
      | none =>
        have hfv : fndV (ents s) n = .tuple #[.int .u32 0, .int .i64 0, .bool false] := by unfold fndV; rw [fIno_none hl, fAt_none hl, fIs_none hl]; rfl
        rw [hfv] at hF
        have HF := Lib.hid hF
        have HS := Lib.hid fun W => refSlots_any s W hs
        rw [formL_ents h0, formB_ok h0] at HS
        have Hok := Lib.hid (ents_ok s)
        obtain ⟨l1, l2, l3⟩ := ents_len h0
        have HSl := Lib.hid fun W => refSlot_any ⟨n, i⟩ W hi hn27
        have HFr := Lib.hid free_any
        have hl32 := slotL_length (x := ⟨n, i⟩) hn27
        have HP := Lib.hid fun k (hk : 32 * k + 32 ≤ s.length) W => refPut_any s (slotL ⟨n, i⟩) k W l2 hk hl32
        have HG := Lib.hid fun k (hg : gap (ents s) = some k) => add_gap (x := ⟨n, i⟩) h0 hm hl hg
        have HN := Lib.hid fun (hg : gap (ents s) = none) (h : (ents s).length < 72) => add_more (x := ⟨n, i⟩) h0 hm hl hg h
        have HU := Lib.hid fun (hg : gap (ents s) = none) (h : 72 ≤ (ents s).length) => add_full (x := ⟨n, i⟩) h0 hm hl hg h
        have hfl := freeL_length
        rw [h0] at HC
        have L1 := Lib.hid l1
        have hll := ents_le s
        clear h0 hm hF hl hfv hn27 l1 l3
        generalize ents s = l at *
        generalize freeL = F at *
        go_enter Try.func8, Try.ntmps8
        go_wp2_with fail
        refine (HC.out _).mono ?_
        rintro e w1 ⟨rfl, hb1⟩
        have HB1 := Lib.hid hb1
        clear hb1 HC
        go_wp2_with fail
        refine (HM.out _).mono ?_
        rintro e w2 ⟨rfl, hb2⟩
        have hx2 := pair_kept (two_cells w1 (str n) (.int .u32 (i : Int)) 34) hb2
        have HB2 := Lib.hid ((HB1.out.alloc HB1.out.size (.cells #[str n, .int .u32 (i : Int)] 34)).trans (hb2.mono (by have := HB1.out.size; simp; omega)))
        clear hb2 HM
        go_wp2_with fail
        refine (HF.out _).mono ?_
        rintro e w3 ⟨rfl, hb3⟩
        have hx3 := pair_kept hx2 hb3
        have HB3 := Lib.hid (HB2.out.trans (hb3.mono HB2.out.size))
        clear hb3 HF hx2
        go_wp2_with fail
        refine (HS.out _).mono ?_
        rintro e w4 ⟨⟨v, rfl, hown⟩, hb4⟩
        have X4 := Lib.hid (pair_kept hx3 hb4)
        have hrow := hown.row
        obtain ⟨A, c, rfl⟩ := hrow.form
        have HR := Lib.hid hrow
        have HB4 := Lib.hid (HB3.out.trans (hb4.mono HB3.out.size))
        clear hb4 HS hx3 hown hrow
        go_wp2_with fail
        go_loopw [15] (fun i9 wr => ∃ k : Nat, k ≤ l.length ∧ i9 = .int .i64 k ∧ (∀ j y, j < k → l[j]? = some y → y ≠ En.free) ∧ Below w4.heap.size w4 wr) (fun i _ => l.length - (Go.RowKit.intOf i).toNat)
        case atStart => exact ⟨0, Nat.zero_le _, rfl, fun j y h => absurd h (Nat.not_lt_zero _), Below.refl _ _⟩
        case round =>
          obtain ⟨k, hk, rfl, hno, hb⟩ := hrel
          have Hno := Lib.hid hno
          have HB := Lib.hid hb
          clear hno hb
          by_cases hlt : k < l.length
          · have hltz : (k : Int) < (l.length : Int) := by omega
            obtain ⟨x, hx⟩ : ∃ x, l[k]? = some x := ⟨l[k], List.getElem?_eq_getElem hlt⟩
            have hrow := HR.out.below HB.out
            obtain ⟨g, rfl, x0, x1⟩ := hrow.at hx
            have hxo := Hok.out x (List.mem_of_getElem? hx)
            obtain ⟨z0, z1⟩ := pair_kept X4.out HB.out
            have Hx := Lib.hid hx
            clear hrow hx
            by_cases hx0 : x.i = 0
            · have q1 : ((x.i : Int) == 0) = true := by rw [hx0]; rfl
              have hxf := hxo.ino_zero.1 hx0
              obtain ⟨h1, h2⟩ := HG.out k (gap_hit (hxf ▸ Hx.out) Hno.out)
              have H1 := Lib.hid h1
              have H2 := Lib.hid h2
              have HP2 := Lib.hid (HP.out k (by have := L1.out; omega))
              clear hx0 hxf h1 h2 hxo
              go_wp2_with fail
              refine (HSl.out _).mono ?_
              rintro e w5 ⟨rfl, hb5⟩
              have HB5 := Lib.hid (HB.out.trans (hb5.mono HB.out.size))
              clear hb5 HSl
              go_wp2_with fail
              refine (HP2.out _).mono ?_
              rintro e w6 ⟨rfl, hb6⟩
              have HB6 := Lib.hid (HB5.out.trans (hb6.mono HB5.out.size))
              clear hb6 HP2
              go_wp2_with fail
              go_ret2
              exact ⟨by rw [H1.out, H2.out]; rfl, HB4.out.trans (HB6.out.mono HB4.out.size)⟩
            · have q1 : ((x.i : Int) == 0) = false := (ino_ne hx0).1
              have hxf : x ≠ En.free := fun e => hx0 (hxo.ino_zero.2 e)
              have Hxf := Lib.hid hxf
              clear hx0 hxf hxo
              go_wp2_with fail
              go_roundw
              case rel =>
                refine ⟨k + 1, by omega, by go_num, fun j z hj hz => ?_, HB.out⟩
                rcases Nat.lt_or_ge j k with h | h
                · exact Hno.out j z h hz
                · obtain rfl : j = k := by omega
                  obtain rfl := Option.some.inj (hz.symm.trans Hx.out)
                  exact Hxf.out
              case measure => simp [Go.RowKit.intOf]; omega
          · have hltz : ¬ (k : Int) < (l.length : Int) := by omega
            obtain ⟨z0, z1⟩ := pair_kept X4.out HB.out
            have hg : gap l = none := gap_miss fun y hy => by
              obtain ⟨j, hj⟩ := List.getElem?_of_mem hy
              have hjl := (List.getElem?_eq_some_iff.1 hj).1
              exact Hno.out j y (by omega) hj
            by_cases h72 : l.length < 72
            · obtain ⟨h1, h2⟩ := HN.out hg h72
              have H1 := Lib.hid h1
              have H2 := Lib.hid h2
              have d1 : ¬ (72 : Int) ≤ (l.length : Int) := by omega
              clear hg h1 h2
              go_wp2_with fail
              refine (HSl.out _).mono ?_
              rintro e w5 ⟨rfl, hb5⟩
              have HB5 := Lib.hid (HB.out.trans (hb5.mono HB.out.size))
              clear hb5 HSl
              go_wp2_with fail
              refine (HFr.out _).mono ?_
              rintro e w6 ⟨rfl, hb6⟩
              have HB6 := Lib.hid (HB5.out.trans (hb6.mono HB5.out.size))
              clear hb6 HFr
              go_wp2_with fail
              go_ret2
              exact ⟨by rw [H1.out, H2.out]; rfl, HB4.out.trans (HB6.out.mono HB4.out.size)⟩
            · obtain ⟨h1, h2⟩ := HU.out hg (by omega)
              have H1 := Lib.hid h1
              have H2 := Lib.hid h2
              have d1 : (72 : Int) ≤ (l.length : Int) := by omega
              clear hg h1 h2
              go_wp2_with fail
              go_ret2
              exact ⟨by rw [H1.out, H2.out]; rfl, HB4.out.trans (HB.out.mono HB4.out.size)⟩
  · obtain ⟨h1, h2⟩ := add_bad (x := ⟨n, i⟩) h0
    have q := chk_ne h0
    have H1 := Lib.hid h1
    have H2 := Lib.hid h2
    clear h0 h1 h2
    generalize chk s = z at *
    go_enter Try.func8, Try.ntmps8
    go_wp2_with fail
    refine (HC.out _).mono ?_
    rintro e w1 ⟨rfl, hb1⟩
    have HB1 := Lib.hid hb1
    clear hb1 HC
    go_wp2_with fail
    go_ret2
    exact ⟨by rw [H1.out, H2.out]; rfl, HB1.out⟩
end Go.Proofs.Ytmidoghjacmdcaa
