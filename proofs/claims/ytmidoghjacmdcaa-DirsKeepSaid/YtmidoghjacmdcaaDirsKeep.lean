/- Layer 10 (dirs): the walk of DirsKeep. -/
import Derived.Test.YtmidoghjacmdcaaDirsL2
import Derived.Deep.CutBlock
import Derived.Deep.DeepCutAuto
namespace Go.Proofs.Ytmidoghjacmdcaa
open Go.RowKit Go.Lib
set_option linter.unusedVariables false
set_option linter.unusedSimpArgs false
set_option maxRecDepth 10000
/-- What a step comes to: refused, or another directory. -/
def StepOut (s : List UInt8) (x : DSt) (n t : List UInt8) (e c : Nat) : Prop :=
  (e ≠ 0 ∧ t = [] ∧ c = (lst s).length) ∨
  (e = 0 ∧ chk t = 0 ∧ c = (lst t).length ∧ fIno (ents t) n = if x.s = n ∧ 0 ≤ x.do_ ∧ x.do_ < 3 then (if x.do_ = 2 then 0 else x.i) else fIno (ents s) n)
theorem keepO {W W' : World} {g : Nat} {o : Obj} (h : W.heap[g]? = some o) (hb : Below W.heap.size W W') : W'.heap[g]? = some o := (hb.block g (Array.getElem?_eq_some_iff.1 h).1).trans h
theorem out_next {s t n m : List UInt8} {d : Int} {xi i : Nat} (h : Next s t m i) (hd : 0 ≤ d ∧ d < 3) (hi : i = if d = 2 then 0 else xi) : fIno (ents t) n = if m = n ∧ 0 ≤ d ∧ d < 3 then (if d = 2 then 0 else xi) else fIno (ents s) n := by
  by_cases hn : m = n
  · subst hn
    rw [if_pos ⟨rfl, hd⟩, h.has, hi]
  · rw [if_neg (fun h' => hn h'.1)]
    exact (h.same n (fun e => hn e.symm)).2
theorem out_same {s t n m : List UInt8} {d : Int} {xi : Nat} (h : fIno (ents t) n = fIno (ents s) n) (hd : ¬ (0 ≤ d ∧ d < 3)) : fIno (ents t) n = if m = n ∧ 0 ≤ d ∧ d < 3 then (if d = 2 then 0 else xi) else fIno (ents s) n := by
  rw [if_neg (fun h' => hd h'.2), h]
theorem lst_le (s : List UInt8) : (lst s).length ≤ 72 := Nat.le_trans (List.length_filter_le _ _) (ents_le s)
set_option maxRecDepth 100000 in
set_option maxHeartbeats 8000000 in
theorem keep_near (v : Value) (l : List DSt) (n : List UInt8) (w : World) (h : DSteps w v l) (hs : ∀ x ∈ l, fineD x) (hl : l.length ≤ maxLen) (hn : n.length ≤ 100) :
    Calls Try.prog 4 #[v, str n] w fun e w' => e = .returned (.bool true) ∧ Below w.heap.size w w' := by
  have HL := Lib.hid (longD_any v l w h hs hl)
  obtain ⟨A, c, rfl, hc⟩ := h
  have HC := Lib.hid hc
  have HS := Lib.hid hs
  have d1 : ¬ (100 : Int) < (n.length : Int) := by omega
  clear hc hs
  have HA := Lib.hid alive_any
  go_enter Try.func4, Try.ntmps4
  go_wp2_with fail
  refine HL.out.mono ?_
  rintro e w1 ⟨⟨r, rfl, hr⟩, rfl⟩
  clear HL
  cases r
  case true =>
    go_wp2_with fail
    refine (HA.out _).mono ?_
    rintro e w2 ⟨rfl, hb2⟩
    go_wp2_with fail
    go_ret
    exact ⟨rfl, hb2⟩
  have h100 := hr rfl
  clear hr
  go_wp2_with fail
  go_loopw [5, 6, 7, 8] (fun s5 s6 s7 s8 wr => ∃ (s : List UInt8) (k : Nat), s5 = str s ∧ s6 = .int .u32 ((fIno (ents s) n : Nat) : Int) ∧ s7 = .int .i64 (((lst s).length : Nat) : Int) ∧ s8 = .int .i64 (k : Int) ∧ k ≤ l.length ∧ chk s = 0 ∧ Below w.heap.size w wr) (fun _ _ _ i _ => l.length - (Go.RowKit.intOf i).toNat)
  case atStart => exact ⟨[], 0, rfl, by rw [dir_nil.2.2, show fIno [] n = 0 from fIno_none (look_miss (.inr (by simp)))]; rfl, by rw [dir_nil.2.1]; rfl, rfl, Nat.zero_le _, dir_nil.1, Below.refl _ _⟩
  case round =>
    obtain ⟨s, k, rfl, rfl, rfl, rfl, hk, h0, hb⟩ := hrel
    have H0 := Lib.hid h0
    have HB := Lib.hid hb
    clear h0 hb
    by_cases hlt : k < l.length
    · have hltz : (k : Int) < (l.length : Int) := by omega
      obtain ⟨a, rfl, x0, x1, x2⟩ := HC.out k _ (List.getElem?_eq_getElem hlt)
      have hfine := HS.out l[k] (List.getElem_mem _)
      unfold behindD at x1 x2
      generalize l[k] = x at *
      obtain ⟨d, m, xi⟩ := x
      obtain ⟨hm, hxi⟩ := hfine
      dsimp only at hm hxi x0 x1 x2
      have hsl : s.length ≤ 2304 := (ents_len H0.out).2.1
      have hs2 : s.length ≤ maxLen := by unfold maxLen; omega
      have hm2 : m.length ≤ maxLen := by unfold maxLen; omega
      have y0 := (HB.out.cell (World.block_lt_of_cell? w _ x0)).trans x0
      have y1 := (HB.out.cell (World.block_lt_of_cell? w _ x1)).trans x1
      have y2 := (HB.out.cell (World.block_lt_of_cell? w _ x2)).trans x2
      clear x0 x1 x2
      have HS1 := Lib.hid (And.intro hs2 hm2)
      have hcl := lst_le s
      generalize hf : fIno (ents s) n = f at *
      generalize hcs : (lst s).length = cs at *
      have Hcs := Lib.hid hcs
      have Hf := Lib.hid hf
      clear hcs hf hs2 hm2 hm hsl
      go_upto_block 2 with fail
      go_cut [7, 10, 11] (fun s7 s10 s11 wx => ∃ (t : List UInt8) (e c : Nat), s7 = .int .i64 (c : Int) ∧ s10 = str t ∧ s11 = .int .i64 (e : Int) ∧ StepOut s ⟨d, m, xi⟩ n t e c ∧ wx.heap[wr.heap.size]? = some (.cells #[.int .i64 d, str m, .int .u32 (xi : Int)] 45 (0, 0)) ∧ Below w.heap.size w wx)
      case first =>
        have HX := Lib.hid (heap_alloc_new wr (.cells #[.int .i64 d, str m, .int .u32 (xi : Int)] 45 (0, 0)))
        have HB1 := Lib.hid (HB.out.alloc HB.out.size (.cells #[.int .i64 d, str m, .int .u32 (xi : Int)] 45 (0, 0)))
        by_cases q0 : d = 0
        · subst q0
          by_cases he : addE s ⟨m, xi⟩ = 0
          · obtain ⟨hnx, hln, _⟩ := add_next (x := ⟨m, xi⟩) H0.out hxi he
            have HC1 := Lib.hid fun W => (by have := add_any s m xi W HS1.out.1 HS1.out.2 hxi; rw [he] at this; exact this : Calls Try.prog 7 #[str s, str m, .int .u32 (xi : Int)] W fun e w' => e = .returned (.tuple #[str (addT s ⟨m, xi⟩), .int .i64 0]) ∧ Below W.heap.size W w')
            generalize addT s ⟨m, xi⟩ = t at *
            have HN := Lib.hid hnx
            rw [Hcs.out] at hln
            have HL2 := Lib.hid hln
            clear hnx hln he
            go_wp2_with fail
            refine (HC1.out _).mono ?_
            rintro e w2 ⟨rfl, hb2⟩
            go_wp2_with fail
            go_meet
            case rel => exact ⟨t, 0, cs + 1, rfl, rfl, rfl, .inr ⟨rfl, HN.out.good, HL2.out.symm, out_next (d := 0) HN.out (by decide) rfl⟩, keepO HX.out hb2, HB1.out.trans (hb2.mono HB1.out.size)⟩
          · have HC1 := Lib.hid fun W => (by have := add_any s m xi W HS1.out.1 HS1.out.2 hxi; rw [add_err he] at this; exact this : Calls Try.prog 7 #[str s, str m, .int .u32 (xi : Int)] W fun e w' => e = .returned (.tuple #[str [], .int .i64 (addE s ⟨m, xi⟩ : Nat)]) ∧ Below W.heap.size W w')
            generalize addE s ⟨m, xi⟩ = v at *
            have hv : ((v : Int) == 0) = false := by simp; omega
            go_wp2_with fail
            refine (HC1.out _).mono ?_
            rintro e w2 ⟨rfl, hb2⟩
            go_wp2_with fail
            go_meet
            case rel => exact ⟨[], v, cs, rfl, rfl, rfl, .inl ⟨he, rfl, Hcs.out.symm⟩, keepO HX.out hb2, HB1.out.trans (hb2.mono HB1.out.size)⟩
        · have Q0 : (d == 0) = false := by simp [q0]
          by_cases q1 : d = 1
          · subst q1
            by_cases he : setE s ⟨m, xi⟩ = 0
            · obtain ⟨hnx, hln, _⟩ := set_next (x := ⟨m, xi⟩) H0.out hxi he
              have HC1 := Lib.hid fun W => (by have := set_any s m xi W HS1.out.1 hxi; rw [he] at this; exact this : Calls Try.prog 9 #[str s, str m, .int .u32 (xi : Int)] W fun e w' => e = .returned (.tuple #[str (setT s ⟨m, xi⟩), .int .i64 0]) ∧ Below W.heap.size W w')
              generalize setT s ⟨m, xi⟩ = t at *
              have HN := Lib.hid hnx
              rw [Hcs.out] at hln
              have HL2 := Lib.hid hln
              clear hnx hln he
              go_wp2_with fail
              refine (HC1.out _).mono ?_
              rintro e w2 ⟨rfl, hb2⟩
              go_wp2_with fail
              go_meet
              case rel => exact ⟨t, 0, cs, rfl, rfl, rfl, .inr ⟨rfl, HN.out.good, HL2.out.symm, out_next (d := 1) HN.out (by decide) rfl⟩, keepO HX.out hb2, HB1.out.trans (hb2.mono HB1.out.size)⟩
            · have HC1 := Lib.hid fun W => (by have := set_any s m xi W HS1.out.1 hxi; rw [set_err he] at this; exact this : Calls Try.prog 9 #[str s, str m, .int .u32 (xi : Int)] W fun e w' => e = .returned (.tuple #[str [], .int .i64 (setE s ⟨m, xi⟩ : Nat)]) ∧ Below W.heap.size W w')
              generalize setE s ⟨m, xi⟩ = v at *
              have hv : ((v : Int) == 0) = false := by simp; omega
              go_wp2_with fail
              refine (HC1.out _).mono ?_
              rintro e w2 ⟨rfl, hb2⟩
              go_wp2_with fail
              go_meet
              case rel => exact ⟨[], v, cs, rfl, rfl, rfl, .inl ⟨he, rfl, Hcs.out.symm⟩, keepO HX.out hb2, HB1.out.trans (hb2.mono HB1.out.size)⟩
          · have Q1 : (d == 1) = false := by simp [q1]
            by_cases q2 : d = 2
            · subst q2
              have q2 : ((2 : Int) == 1) = false := by decide
              by_cases he : delE s m = 0
              · obtain ⟨hnx, hln, hdi⟩ := del_next H0.out he
                have HC1 := Lib.hid fun W => (by have := del_any s m W HS1.out.1; rw [he, hdi] at this; exact this : Calls Try.prog 11 #[str s, str m] W fun e w' => e = .returned (.tuple #[str (delT s m), .int .u32 (fIno (ents s) m : Nat), .int .i64 0]) ∧ Below W.heap.size W w')
                generalize delT s m = t at *
                have HN := Lib.hid hnx
                rw [Hcs.out] at hln
                have hc1 : 1 ≤ cs := by omega
                have HL2 := Lib.hid (show cs - 1 = (lst t).length by omega)
                have hcz : (cs : Int) - 1 = ((cs - 1 : Nat) : Int) := by omega
                clear hnx hln he hdi
                by_cases hmn : m = n
                · subst hmn
                  rw [Hf.out] at HC1
                  have hff : ((f : Int) != (f : Int)) = false := by simp
                  go_wp2_with fail
                  refine (HC1.out _).mono ?_
                  rintro e w2 ⟨rfl, hb2⟩
                  have x1 : w2.cell? ⟨wr.heap.size, 1, none⟩ = some (str m) := cell_of_row w2 wr.heap.size 1 _ _ (0, 0) (keepO HX.out hb2)
                  go_wp2_with fail
                  go_meet
                  case rel => exact ⟨t, 0, cs - 1, rfl, rfl, rfl, .inr ⟨rfl, HN.out.good, HL2.out, out_next (d := 2) HN.out (by decide) rfl⟩, keepO HX.out hb2, HB1.out.trans (hb2.mono HB1.out.size)⟩
                · generalize fIno (ents s) m = f' at *
                  have hmn2 : (decide (m = n)) = false := by simp [hmn]
                  go_wp2_with fail
                  refine (HC1.out _).mono ?_
                  rintro e w2 ⟨rfl, hb2⟩
                  have x1 : w2.cell? ⟨wr.heap.size, 1, none⟩ = some (str m) := cell_of_row w2 wr.heap.size 1 _ _ (0, 0) (keepO HX.out hb2)
                  go_wp2_with fail
                  go_meet
                  case rel => exact ⟨t, 0, cs - 1, rfl, rfl, rfl, .inr ⟨rfl, HN.out.good, HL2.out, out_next (d := 2) HN.out (by decide) rfl⟩, keepO HX.out hb2, HB1.out.trans (hb2.mono HB1.out.size)⟩
              · have HC1 := Lib.hid fun W => (by have := del_any s m W HS1.out.1; rw [del_err he] at this; exact this : Calls Try.prog 11 #[str s, str m] W fun e w' => e = .returned (.tuple #[str [], .int .u32 (delI s m : Nat), .int .i64 (delE s m : Nat)]) ∧ Below W.heap.size W w')
                generalize delE s m = v at *
                generalize delI s m = gi at *
                have hv : ((v : Int) == 0) = false := by simp; omega
                go_wp2_with fail
                refine (HC1.out _).mono ?_
                rintro e w2 ⟨rfl, hb2⟩
                have x1 : w2.cell? ⟨wr.heap.size, 1, none⟩ = some (str m) := cell_of_row w2 wr.heap.size 1 _ _ (0, 0) (keepO HX.out hb2)
                go_wp2_with fail
                go_meet
                case rel => exact ⟨[], v, cs, rfl, rfl, rfl, .inl ⟨he, rfl, Hcs.out.symm⟩, keepO HX.out hb2, HB1.out.trans (hb2.mono HB1.out.size)⟩
            · have Q2 : (d == 2) = false := by simp [q2]
              by_cases q3 : d = 3
              · subst q3
                obtain ⟨g1, g2, g3⟩ := trim_next H0.out
                have HC1 := Lib.hid fun W => (by have := trim_any s W HS1.out.1; rw [H0.out] at this; exact this : Calls Try.prog 13 #[str s] W fun e w' => e = .returned (.tuple #[str (trimT s), .int .i64 0]) ∧ Below W.heap.size W w')
                generalize trimT s = t at *
                have G := Lib.hid (And.intro g1 (And.intro (g2 n).2 g3))
                clear g1 g2 g3
                go_wp2_with fail
                refine (HC1.out _).mono ?_
                rintro e w2 ⟨rfl, hb2⟩
                go_wp2_with fail
                go_meet
                case rel => exact ⟨t, 0, cs, rfl, rfl, rfl, .inr ⟨rfl, G.out.1, by rw [G.out.2.2, Hcs.out], out_same (d := 3) G.out.2.1 (by decide)⟩, keepO HX.out hb2, HB1.out.trans (hb2.mono HB1.out.size)⟩
              · have Q3 : (d == 3) = false := by simp [q3]
                go_wp2_with fail
                go_meet
                case rel => exact ⟨s, 0, cs, rfl, rfl, rfl, .inr ⟨rfl, H0.out, Hcs.out.symm, out_same (d := d) rfl (by omega)⟩, HX.out, HB1.out⟩
      case rest =>
        obtain ⟨t, e, c', rfl, rfl, rfl, hso, hx, hbx⟩ := hcut
        have HBx := Lib.hid hbx
        have x0 : wc.cell? ⟨wr.heap.size, 0, none⟩ = some (.int .i64 d) := cell_of_row wc wr.heap.size 0 _ _ (0, 0) hx
        have x1 : wc.cell? ⟨wr.heap.size, 1, none⟩ = some (str m) := cell_of_row wc wr.heap.size 1 _ _ (0, 0) hx
        have x2 : wc.cell? ⟨wr.heap.size, 2, none⟩ = some (.int .u32 (xi : Int)) := cell_of_row wc wr.heap.size 2 _ _ (0, 0) hx
        clear hx hbx y0 y1 y2
        rcases hso with ⟨he, rfl, hc'⟩ | ⟨rfl, ht, hc', hfi⟩
        · have hv : ((e : Int) != 0) = true := by simp; omega
          have hc2 : c' = cs := hc'.trans Hcs.out
          clear hc' he
          subst hc2
          go_wp2_with fail
          go_roundw
          case rel => exact ⟨s, k + 1, rfl, by rw [Hf.out], by rw [Hcs.out], rfl, by omega, H0.out, HBx.out⟩
          case measure => simp [Go.RowKit.intOf]; omega
        · dsimp only at hfi
          rw [Hf.out] at hfi
          subst hc'
          have HT := Lib.hid ht
          have HF := Lib.hid hfi
          have htl : t.length ≤ 2304 := (ents_len ht).2.1
          have ht2 : t.length ≤ maxLen := by unfold maxLen; omega
          have HT2 := Lib.hid ht2
          clear ht hfi htl ht2
          go_upto_region 30 with fail
          go_cut [115] (fun s115 wx => s115 = .bool (decide (m = n ∧ 0 ≤ d ∧ d < 3)) ∧ wx = wc)
          case first =>
            by_cases hmn : m = n
            · subst hmn
              by_cases d3 : d = 3
              · subst d3
                go_wp2_with fail
                go_meet
                exact ⟨congrArg Value.bool (by simp), rfl⟩
              · have e3 : (d != 3) = true := by simp [d3]
                by_cases d0 : 0 ≤ d
                · have e0 : decide (0 ≤ d) = true := decide_eq_true d0
                  by_cases d1 : d < 3
                  · have e1 : decide (d < 3) = true := decide_eq_true d1
                    go_wp2_with fail
                    go_meet
                    exact ⟨congrArg Value.bool (by simp; omega), rfl⟩
                  · have e1 : decide (d < 3) = false := decide_eq_false d1
                    go_wp2_with fail
                    go_meet
                    exact ⟨congrArg Value.bool (by simp; omega), rfl⟩
                · have e0 : decide (0 ≤ d) = false := decide_eq_false d0
                  go_wp2_with fail
                  go_meet
                  exact ⟨congrArg Value.bool (by simp; omega), rfl⟩
            · go_wp2_with fail
              go_meet
              exact ⟨congrArg Value.bool (by simp [hmn]), rfl⟩
          case rest =>
            obtain ⟨rfl, rfl⟩ := hcut
            go_upto_if 115 with fail
            go_cut [6] (fun s6 wx => s6 = .int .u32 ((fIno (ents t) n : Nat) : Int) ∧ wx = wc)
            case first =>
              by_cases hP : m = n ∧ 0 ≤ d ∧ d < 3
              · have hq := HF.out
                rw [if_pos hP] at hq
                have hPb := decide_eq_true hP
                by_cases d2 : d = 2
                · rw [if_pos d2] at hq
                  have HQ := Lib.hid hq
                  subst d2
                  clear hq
                  go_wp2_with fail
                  go_meet
                  exact ⟨by rw [HQ.out]; rfl, rfl⟩
                · rw [if_neg d2] at hq
                  have HQ := Lib.hid hq
                  clear hq
                  have e2 : (d == 2) = false := by simp [d2]
                  go_wp2_with fail
                  go_meet
                  exact ⟨by rw [HQ.out], rfl⟩
              · have hq := HF.out
                rw [if_neg hP] at hq
                have hPb := decide_eq_false hP
                have HQ := Lib.hid hq
                clear hq
                go_wp2_with fail
                go_meet
                exact ⟨by rw [HQ.out], rfl⟩
            case rest =>
              obtain ⟨rfl, rfl⟩ := hcut
              have hfd := fun W => find_any t n W HT2.out
              unfold fndV at hfd
              rw [fIs_ino] at hfd
              have HCk := Lib.hid fun W => (by have := check_any t W HT2.out; rw [HT.out] at this; exact this : Calls Try.prog 20 #[str t] W fun e w' => e = .returned (.int .i64 0) ∧ Below W.heap.size W w')
              have HLs := Lib.hid fun W => list_any t W HT2.out
              clear HF x0 x1 x2
              generalize hft : fIno (ents t) n = ft at *
              have Hft := Lib.hid hft
              clear hft
              have hll : (((lst t).length : Int) != ((lst t).length : Int)) = false := by simp
              by_cases hz : ft = 0
              · subst hz
                rw [show decide ((0 : Nat) ≠ 0) = false from rfl] at hfd
                have HFd := Lib.hid hfd
                clear hfd
                go_wp2_with fail
                refine (HFd.out _).mono ?_
                rintro e w3 ⟨rfl, hb3⟩
                have HB3 := Lib.hid (HBx.out.trans (hb3.mono HBx.out.size))
                clear hb3
                go_wp2_with fail
                refine (HCk.out _).mono ?_
                rintro e w4 ⟨rfl, hb4⟩
                have HB4 := Lib.hid (HB3.out.trans (hb4.mono HB3.out.size))
                clear hb4
                go_wp2_with fail
                refine (HLs.out _).mono ?_
                rintro e w5 ⟨⟨v, rfl, A5, c5, rfl, _⟩, hb5⟩
                have HB5 := Lib.hid (HB4.out.trans (hb5.mono HB4.out.size))
                clear hb5
                go_wp2_with fail
                go_roundw
                case rel => exact ⟨t, k + 1, rfl, by rw [Hft.out]; rfl, rfl, rfl, by omega, HT.out, HB5.out⟩
                case measure => simp [Go.RowKit.intOf]; omega
              · rw [show decide (ft ≠ 0) = true from decide_eq_true hz] at hfd
                have HFd := Lib.hid hfd
                have hz1 : ((ft : Int) != 0) = true := by simp [hz]
                have hz2 : ((ft : Int) != (ft : Int)) = false := by simp
                clear hfd
                go_wp2_with fail
                refine (HFd.out _).mono ?_
                rintro e w3 ⟨rfl, hb3⟩
                have HB3 := Lib.hid (HBx.out.trans (hb3.mono HBx.out.size))
                clear hb3
                go_wp2_with fail
                refine (HCk.out _).mono ?_
                rintro e w4 ⟨rfl, hb4⟩
                have HB4 := Lib.hid (HB3.out.trans (hb4.mono HB3.out.size))
                clear hb4
                go_wp2_with fail
                refine (HLs.out _).mono ?_
                rintro e w5 ⟨⟨v, rfl, A5, c5, rfl, _⟩, hb5⟩
                have HB5 := Lib.hid (HB4.out.trans (hb5.mono HB4.out.size))
                clear hb5
                go_wp2_with fail
                go_roundw
                case rel => exact ⟨t, k + 1, rfl, by rw [Hft.out], rfl, rfl, by omega, HT.out, HB5.out⟩
                case measure => simp [Go.RowKit.intOf]; omega
    · obtain rfl : k = l.length := by omega
      go_wp2_with fail
      refine (HA.out _).mono ?_
      rintro e w2 ⟨rfl, hb2⟩
      go_wp2_with fail
      go_ret
      exact ⟨rfl, HB.out.trans (hb2.mono HB.out.size)⟩
set_option maxHeartbeats 1000000 in
theorem keep_far (v : Value) (l : List DSt) (n : List UInt8) (w : World) (h : DSteps w v l) (hs : ∀ x ∈ l, fineD x) (hl : l.length ≤ maxLen) (hn : 100 < n.length) (hn2 : n.length ≤ maxLen) :
    Calls Try.prog 4 #[v, str n] w fun e w' => e = .returned (.bool true) ∧ Below w.heap.size w w' := by
  unfold maxLen at hn2
  have HL := Lib.hid (longD_any v l w h hs hl)
  obtain ⟨A, c, rfl, hc⟩ := h
  have d1 : (100 : Int) < (n.length : Int) := by omega
  clear hc hs
  have HA := Lib.hid alive_any
  go_enter Try.func4, Try.ntmps4
  go_wp2_with fail
  refine HL.out.mono ?_
  rintro e w1 ⟨⟨r, rfl, hr⟩, rfl⟩
  clear HL hr
  cases r
  all_goals
    go_wp2_with fail
    refine (HA.out _).mono ?_
    rintro e w2 ⟨rfl, hb2⟩
    go_wp2_with fail
    go_ret
    exact ⟨rfl, hb2⟩
/-- The walk of DirsKeep. -/
theorem walk_DirsKeep (W : World) (v : Value) (l : List DSt) (b : ByteArray) (h : DSteps W v l) (hs : ∀ x ∈ l, fineD x) (hl : l.length ≤ maxLen ∧ l.length * 32 ≤ 140737488351232) (hb : b.size ≤ 140737488351232) :
    Calls Try.prog 4 #[v, .string b] W fun e w' => e = .returned (.bool true) ∧ Below W.heap.size W w' := by
  obtain ⟨n, rfl⟩ : ∃ l : List UInt8, b = ⟨l.toArray⟩ := ⟨b.data.toList, rfl⟩
  have hn2 : n.length ≤ 140737488351232 := by simpa [ByteArray.size] using hb
  by_cases hn : n.length ≤ 100
  · exact keep_near v l n W h hs hl.1 hn
  · exact keep_far v l n W h hs hl.1 (by omega) (by simp only [maxLen]; omega)
end Go.Proofs.Ytmidoghjacmdcaa
