/- Layer 10 (dirs): the walk of DirsOne. -/
import Derived.Test.YtmidoghjacmdcaaDirsO3
namespace Go.Proofs.Ytmidoghjacmdcaa
open Go.RowKit Go.Lib
set_option linter.unusedVariables false
set_option linter.unusedSimpArgs false
set_option maxRecDepth 10000
theorem row3_new (W : World) (B : Nat) (hB : W.heap.size = B) (a b c : Value) (t : TypeId) : (W.alloc (.cells #[a, b, c] t)).cell? ⟨B, 0, none⟩ = some a ∧ (W.alloc (.cells #[a, b, c] t)).cell? ⟨B, 1, none⟩ = some b ∧ (W.alloc (.cells #[a, b, c] t)).cell? ⟨B, 2, none⟩ = some c := by
  subst hB
  have h := heap_alloc_new W (.cells #[a, b, c] t)
  exact ⟨cell_of_row _ W.heap.size 0 _ _ _ h, cell_of_row _ W.heap.size 1 _ _ _ h, cell_of_row _ W.heap.size 2 _ _ _ h⟩
theorem below_step {a V W : World} (h : Below a.heap.size a V) (hb : Below V.heap.size V W) : Below a.heap.size a W := h.trans (hb.mono h.size)
theorem keepO1 {W W' : World} {g : Nat} {o : Obj} (h : W.heap[g]? = some o) (hb : Below W.heap.size W W') : W'.heap[g]? = some o := (hb.block g (Array.getElem?_eq_some_iff.1 h).1).trans h
abbrev boxS (x : DSt) : Obj := .cells #[.int .i64 x.do_, str x.s, .int .u32 (x.i : Int)] 45 (0, 0)
set_option maxRecDepth 100000 in
set_option maxHeartbeats 8000000 in
theorem one_any (v : Value) (l : List DSt) (x : DSt) (w : World) (h : DSteps w v l) (hs : ∀ x ∈ l, fineD x) (hx : fineD x) (hl : l.length ≤ maxLen ∧ l.length * 32 ≤ 140737488351232) :
    Calls Try.prog 5 #[v, .agg #[.int .i64 x.do_, str x.s, .int .u32 (x.i : Int)]] w fun e w' => e = .returned (.bool true) ∧ Below w.heap.size w w' := by
  have HA := Lib.hid alive_any
  have Hw := Lib.hid h
  obtain ⟨A, c, rfl, hc⟩ := h
  have HC := Lib.hid hc
  have HS := Lib.hid hs
  have HX := Lib.hid hx
  have HLn := Lib.hid hl
  have HL1 := Lib.hid (show (l ++ [x]).length ≤ maxLen by rw [List.length_append]; have := hl.2; unfold maxLen; simp; omega)
  have HF := Lib.hid (show ∀ y ∈ l ++ [x], fineD y by
    intro y hy
    rcases List.mem_append.1 hy with h | h
    · exact hs y h
    · rw [List.mem_singleton.1 h]; exact hx)
  have hll : l.length ≤ 9223372036854775807 := by have := hl.2; omega
  clear hc hs hx hl
  go_enter Try.func5, Try.ntmps5
  go_upto_region 1 with fail
  go_cut [25] (fun s25 wx => ∃ r, s25 = .bool r ∧ wx.heap[w.heap.size]? = some (boxS x) ∧ Below w.heap.size w wx)
  case first =>
    as_aux_lemma =>
      have b0 : Below w.heap.size w (w.alloc (boxS x)) := (Below.refl _ _).alloc (Nat.le_refl _) _
      have Bw := Lib.hid b0
      have B0 := Lib.hid (show Below (w.alloc (boxS x)).heap.size (w.alloc (boxS x)) (w.alloc (boxS x)).drew from (Below.refl _ _).drew)
      have Hw0 := Lib.hid (Hw.out.below b0)
      have HBx := Lib.hid (heap_alloc_new w (boxS x))
      have hx0 := row3_new w w.heap.size rfl (.int .i64 x.do_) (str x.s) (.int .u32 (x.i : Int)) 45
      have HR0 := Lib.hid fun W (hb : Below (w.alloc (boxS x)).heap.size (w.alloc (boxS x)) W) =>
        And.intro ((hb.cell (p := ⟨w.heap.size, 0, none⟩) (by simp)).trans hx0.1) (And.intro ((hb.cell (p := ⟨w.heap.size, 1, none⟩) (by simp)).trans hx0.2.1) ((hb.cell (p := ⟨w.heap.size, 2, none⟩) (by simp)).trans hx0.2.2))
      obtain ⟨x0, x1, x2⟩ := HR0.out _ B0.out
      clear b0 hx0
      go_region_law (first
        | (refine step_run rfl _ _ _ rfl (.slice none 0 0) _ rfl rfl _ (steps_clone _ (w.heap.size + 1) _ l (by first | exact Hw0.out.below B0.out | exact Hw0.out.below (B0.out.alloc B0.out.size _)) HLn.out (by first | (simp; done) | (simp; omega))) ?_
           rintro v1 W1 ⟨hown1, hb1⟩
           have P1 := Lib.hid (below_step (by first | exact B0.out | exact B0.out.alloc B0.out.size _) hb1)
           have HB1 := Lib.hid hb1
           have HO1 := Lib.hid hown1
           obtain ⟨y0, y1, y2⟩ := HR0.out _ P1.out
           clear hb1 hown1)
        | (refine step_run rfl _ _ _ rfl _ _ rfl rfl _ (steps_push _ (w.heap.size + 1) v1 l x (by first | exact HO1.out | exact HO1.out.alloc _) _ _ (by first | exact (row3_new _ _ (by simp) _ _ _ _).1 | exact (HB1.out.cell (by simp)).trans (row3_new _ _ (by simp) _ _ _ _).1) (by first | exact (row3_new _ _ (by simp) _ _ _ _).2.1 | exact (HB1.out.cell (by simp)).trans (row3_new _ _ (by simp) _ _ _ _).2.1) (by first | exact (row3_new _ _ (by simp) _ _ _ _).2.2 | exact (HB1.out.cell (by simp)).trans (row3_new _ _ (by simp) _ _ _ _).2.2) HLn.out (by have := P1.out.size; simp at this; first | omega | (simp; omega))) ?_
           rintro v2 W2 ⟨hown2, hb2⟩
           have P2 := Lib.hid (show Below (w.alloc (boxS x)).heap.size (w.alloc (boxS x)) W2 by first | exact P1.out.trans (by simpa using hb2) | exact (P1.out.alloc P1.out.size _).trans (by simpa using hb2))
           have HO2 := Lib.hid hown2
           clear hb2 hown2)
        | (go_simp; go_at_call 25
           refine (longD_any v2 (l ++ [x]) W2 HO2.out.steps HF.out HL1.out).mono ?_
           rintro e w' ⟨⟨r, rfl, hr⟩, rfl⟩
           clear hr))
      all_goals
        go_wp2_with fail
        go_meet
        exact ⟨r, rfl, keepO1 HBx.out P2.out, Bw.out.trans (P2.out.mono Bw.out.size)⟩
  case rest =>
    as_aux_lemma =>
      obtain ⟨r, rfl, hg0, hb0⟩ := hcut
      have HG0 := Lib.hid hg0
      have HB0 := Lib.hid hb0
      clear hg0 hb0
      cases r
      case true =>
        go_wp2_with fail
        refine (HA.out _).mono ?_
        rintro e w2 ⟨rfl, hb2⟩
        go_wp2_with fail
        go_ret
        exact ⟨rfl, HB0.out.trans (hb2.mono HB0.out.size)⟩
      go_wp2_with fail
      go_loopw [5, 6] (fun s5 s6 wr => ∃ (s : List UInt8) (k : Nat), s5 = str s ∧ s6 = .int .i64 (k : Int) ∧ k ≤ l.length ∧ chk s = 0 ∧ wr.heap[w.heap.size]? = some (boxS x) ∧ Below w.heap.size w wr) (fun _ i _ => l.length - (Go.RowKit.intOf i).toNat)
      case atStart => exact ⟨[], 0, rfl, rfl, Nat.zero_le _, dir_nil.1, HG0.out, HB0.out⟩
      case round =>
        obtain ⟨s, k, rfl, rfl, hk, h0, hg, hb⟩ := hrel
        have H0 := Lib.hid h0
        have HG := Lib.hid hg
        have HB := Lib.hid hb
        have hsl : s.length ≤ 2304 := (ents_len h0).2.1
        clear h0 hg hb HG0 HB0
        by_cases hlt : k < l.length
        · have hltz : (k : Int) < (l.length : Int) := by omega
          obtain ⟨a, rfl, x0, x1, x2⟩ := HC.out k _ (List.getElem?_eq_getElem hlt)
          have hfine := HS.out l[k] (List.getElem_mem _)
          unfold behindD at x1 x2
          generalize l[k] = z at *
          obtain ⟨d, m, xi⟩ := z
          obtain ⟨hm, hxi⟩ := hfine
          dsimp only at hm hxi x0 x1 x2
          have hs2 : s.length ≤ maxLen := by unfold maxLen; omega
          have hm2 : m.length ≤ maxLen := by unfold maxLen; omega
          have y0 := (HB.out.cell (World.block_lt_of_cell? w _ x0)).trans x0
          have y1 := (HB.out.cell (World.block_lt_of_cell? w _ x1)).trans x1
          have y2 := (HB.out.cell (World.block_lt_of_cell? w _ x2)).trans x2
          have HCel := Lib.hid fun W (hb : Below w.heap.size w W) => And.intro ((hb.cell (World.block_lt_of_cell? w _ x1)).trans x1) ((hb.cell (World.block_lt_of_cell? w _ x2)).trans x2)
          have HAdd := Lib.hid fun W => add_any s m xi W hs2 hm2 hxi
          have HDel := Lib.hid fun W => del_any s m W hs2
          have HK := Lib.hid (ok_add (m := m) H0.out hxi)
          have HKd := Lib.hid (ok_del (m := m) H0.out)
          clear x0 x1 x2 y1 y2 hs2 hm2 hm
          go_upto_block 2 with fail
          go_cut [7, 8] (fun s7 s8 wx => ∃ (t : List UInt8) (e : Nat), s7 = str t ∧ s8 = .int .i64 (e : Int) ∧ (e = 0 → chk t = 0) ∧ wx.heap[w.heap.size]? = some (boxS x) ∧ Below w.heap.size w wx)
          case first =>
            as_aux_lemma =>
              by_cases q0 : d = 0
              · subst q0
                go_wp2_with fail
                have HBd := Lib.hid HB.out.drew
                have HBr := Lib.hid (Below.refl wr.heap.size wr).drew
                go_region_held3 (fun W => W.cell? ⟨(a.add (k * 3)).block, (a.add (k * 3)).off + 1, none⟩ = some (str m) ∧ W.cell? ⟨(a.add (k * 3)).block, (a.add (k * 3)).off + 2, none⟩ = some (.int .u32 (xi : Int)))
                  (first | exact HCel.out _ HBd.out)
                  (first | (go_at_call 7; ((with_reducible refine (HAdd.out _).mono ?_); rintro e w4 ⟨rfl, hb4⟩; have HBd := Lib.hid (HBd.out.trans (hb4.mono HBd.out.size)); have HBr := Lib.hid (HBr.out.trans (hb4.mono HBr.out.size)))))
                go_wp2_with fail
                go_meet
                case rel => exact ⟨addT s ⟨m, xi⟩, addE s ⟨m, xi⟩, rfl, rfl, HK.out, keepO1 HG.out HBr.out, HBd.out⟩
              · have Q0 : (d == 0) = false := by simp [q0]
                by_cases q2 : d = 2
                · subst q2
                  have y1 := (HCel.out wr HB.out).1
                  go_wp2_with fail
                  refine (HDel.out _).mono ?_
                  rintro e w4 ⟨rfl, hb4⟩
                  have HBd := Lib.hid (HB.out.trans (hb4.mono HB.out.size))
                  have HBr := Lib.hid hb4
                  go_wp2_with fail
                  go_meet
                  case rel => exact ⟨delT s m, delE s m, rfl, rfl, HKd.out, keepO1 HG.out HBr.out, HBd.out⟩
                · have Q2 : (d == 2) = false := by simp [q2]
                  go_wp2_with fail
                  go_meet
                  case rel => exact ⟨s, 0, rfl, rfl, fun _ => H0.out, HG.out, HB.out⟩
          case rest =>
            as_aux_lemma =>
              obtain ⟨t, e, rfl, rfl, ht, hg, hb⟩ := hcut
              have HG1 := Lib.hid hg
              have HB1 := Lib.hid hb
              have HT := Lib.hid ht
              clear hg hb ht y0
              by_cases he : e = 0
              · subst he
                go_wp2_with fail
                go_roundw
                case rel => exact ⟨t, k + 1, rfl, rfl, by omega, HT.out rfl, HG1.out, HB1.out⟩
                case measure => simp [Go.RowKit.intOf]; omega
              · have hv : ((e : Int) == 0) = false := by simp [he]
                go_wp2_with fail
                go_roundw
                case rel => exact ⟨s, k + 1, rfl, rfl, by omega, H0.out, HG1.out, HB1.out⟩
                case measure => simp [Go.RowKit.intOf]; omega
        · obtain rfl : k = l.length := by omega
          have hs2 : s.length ≤ maxLen := by unfold maxLen; omega
          obtain ⟨d, m, xi⟩ := x
          obtain ⟨hm, hxi⟩ := HX.out
          dsimp only at hm hxi
          have hm2 : m.length ≤ maxLen := by unfold maxLen; omega
          have HAdd := Lib.hid fun W => add_any s m xi W hs2 hm2 hxi
          have HSet := Lib.hid fun W => set_any s m xi W hs2 hxi
          have HDel := Lib.hid fun W => del_any s m W hs2
          have HTa := Lib.hid (two_add (m := m) H0.out hxi)
          have HTs := Lib.hid fun d => two_set (m := m) (d := d) H0.out hxi
          have HTd := Lib.hid fun d => two_del (m := m) (d := d) H0.out
          have HLst := Lib.hid fun W => list_any s W hs2
          have HFd := Lib.hid fun W n => find_any s n W hs2
          have HSl := Lib.hid hsl
          have p0 : wr.cell? ⟨w.heap.size, 0, none⟩ = some (.int .i64 d) := cell_of_row wr w.heap.size 0 _ _ (0, 0) HG.out
          have p1 : wr.cell? ⟨w.heap.size, 1, none⟩ = some (str m) := cell_of_row wr w.heap.size 1 _ _ (0, 0) HG.out
          have p2 : wr.cell? ⟨w.heap.size, 2, none⟩ = some (.int .u32 (xi : Int)) := cell_of_row wr w.heap.size 2 _ _ (0, 0) HG.out
          clear hs2 hm2 hm HX HF HL1 HLn HC HS Hw
          go_upto_block 3 with fail
          go_cut [9, 10] (fun s9 s10 wx => ∃ (t : List UInt8) (e : Nat), s9 = str t ∧ s10 = .int .i64 (e : Int) ∧ StepTwo s d m t e ∧ wx.heap[w.heap.size]? = some (boxS ⟨d, m, xi⟩) ∧ Below w.heap.size w wx)
          case first =>
            as_aux_lemma =>
              by_cases q0 : d = 0
              · subst q0
                go_wp2_with fail
                refine (HAdd.out _).mono ?_
                rintro e w4 ⟨rfl, hb4⟩
                have HBr := Lib.hid hb4
                clear hb4
                go_wp2_with fail
                go_meet
                case rel => exact ⟨addT s ⟨m, xi⟩, addE s ⟨m, xi⟩, rfl, rfl, HTa.out, keepO1 HG.out HBr.out, HB.out.trans (HBr.out.mono HB.out.size)⟩
              · have Q0 : (d == 0) = false := by simp [q0]
                by_cases q1 : d = 1
                · subst q1
                  go_wp2_with fail
                  refine (HSet.out _).mono ?_
                  rintro e w4 ⟨rfl, hb4⟩
                  have HBr := Lib.hid hb4
                  clear hb4
                  go_wp2_with fail
                  go_meet
                  case rel => exact ⟨setT s ⟨m, xi⟩, setE s ⟨m, xi⟩, rfl, rfl, HTs.out 1, keepO1 HG.out HBr.out, HB.out.trans (HBr.out.mono HB.out.size)⟩
                · have Q1 : (d == 1) = false := by simp [q1]
                  go_wp2_with fail
                  refine (HDel.out _).mono ?_
                  rintro e w4 ⟨rfl, hb4⟩
                  have HBr := Lib.hid hb4
                  clear hb4
                  go_wp2_with fail
                  go_meet
                  case rel => exact ⟨delT s m, delE s m, rfl, rfl, HTd.out d, keepO1 HG.out HBr.out, HB.out.trans (HBr.out.mono HB.out.size)⟩
          case rest =>
            as_aux_lemma =>
              obtain ⟨t, e, rfl, rfl, hst, hg, hb⟩ := hcut
              have HG1 := Lib.hid hg
              have HB1 := Lib.hid hb
              clear p0 p1 p2 HG HB HTa HTs HTd HAdd HSet HDel
              have p0 : wc.cell? ⟨w.heap.size, 0, none⟩ = some (.int .i64 d) := cell_of_row wc w.heap.size 0 _ _ (0, 0) hg
              clear hg hb
              rcases hst with ⟨he, rfl⟩ | ⟨rfl, haf, hnr⟩
              · have hv : ((e : Int) != 0) = true := by simp [he]
                clear he
                go_wp2_with fail
                refine (HA.out _).mono ?_
                rintro e w5 ⟨rfl, hb5⟩
                go_wp2_with fail
                go_ret
                exact ⟨rfl, HB1.out.trans (hb5.mono HB1.out.size)⟩
              · have HAf := Lib.hid haf
                have HNr := Lib.hid hnr
                have htl : t.length ≤ 2304 := (ents_len haf.good).2.1
                have ht2 : t.length ≤ maxLen := by unfold maxLen; omega
                have HFt := Lib.hid fun W n => find_any t n W ht2
                clear haf hnr ht2
                go_upto_region 24 with fail
                go_cut [121] (fun s121 wx => s121 = .bool (decide (d = 0 ∧ t.length = s.length + 64)) ∧ wx = wc)
                case first =>
                  as_aux_lemma =>
                    by_cases q0 : d = 0
                    · subst q0
                      by_cases q1 : t.length = s.length + 64
                      · have Q1 : ((t.length : Int) == (s.length : Int) + 64) = true := by simp; omega
                        have HQ := Lib.hid q1
                        clear q1
                        go_wp2_with fail
                        go_meet
                        exact ⟨congrArg Value.bool (by simp [HQ.out]), rfl⟩
                      · have Q1 : ((t.length : Int) == (s.length : Int) + 64) = false := by simp; omega
                        go_wp2_with fail
                        go_meet
                        exact ⟨congrArg Value.bool (by simp [q1]), rfl⟩
                    · have Q0 : (d == 0) = false := by simp [q0]
                      go_wp2_with fail
                      go_meet
                      exact ⟨congrArg Value.bool (by simp [q0]), rfl⟩
                case rest =>
                  as_aux_lemma =>
                    obtain ⟨rfl, rfl⟩ := hcut
                    generalize hbb : decide (d = 0 ∧ t.length = s.length + 64) = bb at *
                    have Hbb := Lib.hid hbb
                    clear hbb
                    go_upto_if 121 with fail
                    go_cut [] (fun wx => Below wc.heap.size wc wx)
                    case first =>
                      as_aux_lemma =>
                        cases bb
                        case true =>
                          have hP := of_decide_eq_true Hbb.out
                          have hlen : s.length ≤ t.length := by have := hP.2; omega
                          have htk : t.take s.length = s := by
                            rcases HNr.out with ⟨_, _, h⟩ | h
                            · exact h
                            · have := h.1; have := hP.2; omega
                          clear hP
                          go_wp2_with fail
                          go_meet
                          exact Below.refl _ _
                        case false =>
                          have hP := of_decide_eq_false Hbb.out
                          have hne : near s t := by
                            rcases HNr.out with ⟨h1, h2, _⟩ | h
                            · exact absurd ⟨h1, h2⟩ hP
                            · exact h
                          have HSe := Lib.hid fun W => sectors_any s t W hne (by have := HSl.out; omega)
                          clear hP hne
                          go_wp2_with fail
                          refine (HSe.out _).mono ?_
                          rintro e w5 ⟨⟨c, rfl, hc⟩, hb5⟩
                          have HB5 := Lib.hid hb5
                          clear hb5
                          have r0 : ¬ (c : Int) < 0 := by omega
                          have r1 : ¬ (1 : Int) < (c : Int) := by omega
                          have R0 : decide ((c : Int) < 0) = false := decide_eq_false r0
                          have R1 : decide ((1 : Int) < (c : Int)) = false := decide_eq_false r1
                          go_wp2_with fail
                          go_meet
                          exact HB5.out
                    case rest =>
                      as_aux_lemma =>
                        have HBw := Lib.hid (HB1.out.trans (hcut.mono HB1.out.size))
                        have HG2 := Lib.hid (keepO1 HG1.out hcut)
                        clear hcut p0
                        generalize e0 : lst s = L at *
                        have HE0 := Lib.hid e0
                        clear e0
                        have HLl := Lib.hid (show L.length ≤ 72 by rw [← HE0.out]; exact Nat.le_trans (List.length_filter_le _ _) (ents_le s))
                        go_wp2_with fail
                        refine (HLst.out _).mono ?_
                        rintro e w5 ⟨⟨v, rfl, A5, c5, rfl, hrow⟩, hb5⟩
                        have HRow := Lib.hid hrow
                        have HG3 := Lib.hid (keepO1 HG2.out hb5)
                        have HB3 := Lib.hid (HBw.out.trans (hb5.mono HBw.out.size))
                        clear hrow hb5 HG2 HBw HLst
                        go_wp2_with fail
                        go_loopw [13] (fun s13 wr => ∃ k : Nat, s13 = .int .i64 (k : Int) ∧ k ≤ L.length ∧ Below w5.heap.size w5 wr) (fun i _ => L.length - (Go.RowKit.intOf i).toNat)
                        case atStart => exact ⟨0, rfl, Nat.zero_le _, Below.refl _ _⟩
                        case round =>
                          obtain ⟨k, rfl, hk, hb⟩ := hrel
                          have HB := Lib.hid hb
                          clear hb
                          have hl72 := HLl.out
                          by_cases hlt : k < L.length
                          · have hltz : (k : Int) < (L.length : Int) := by omega
                            obtain ⟨g, rfl, z0, z1⟩ := HRow.out k _ (List.getElem?_eq_getElem hlt)
                            have HMem := Lib.hid (show L[k] ∈ lst s by rw [HE0.out]; exact List.getElem_mem _)
                            generalize L[k] = y at *
                            obtain ⟨yn, yi⟩ := y
                            dsimp only at z0 z1
                            have HZ := Lib.hid fun W (hb : Below w5.heap.size w5 W) => And.intro ((hb.cell (World.block_lt_of_cell? w5 _ z0)).trans z0) ((hb.cell (World.block_lt_of_cell? w5 _ z1)).trans z1)
                            have HP := Lib.hid fun W (hb : Below w5.heap.size w5 W) => (show W.cell? ⟨w.heap.size, 1, none⟩ = some (str m) from cell_of_row W w.heap.size 1 _ _ (0, 0) (keepO1 HG3.out hb))
                            have hfd := fun W => HFd.out W yn
                            have hft := fun W => HFt.out W yn
                            have f1 := lst_found H0.out HMem.out
                            have f2 := fun hn => HAf.out.found H0.out HMem.out hn
                            dsimp only at f1 f2
                            unfold fndV at hfd hft
                            have HF1 := Lib.hid f1
                            have HF2 := Lib.hid f2
                            have HD := Lib.hid hfd
                            have HT := Lib.hid hft
                            clear f1 f2 hfd hft z0 z1
                            obtain ⟨z0, z1⟩ := HZ.out _ HB.out
                            go_wp2_with fail
                            refine (HD.out _).mono ?_
                            rintro e w7 ⟨rfl, hb7⟩
                            have HB7 := Lib.hid (HB.out.trans (hb7.mono HB.out.size))
                            obtain ⟨z2, z3⟩ := HZ.out _ HB7.out
                            clear hb7 z0 z1
                            go_wp2_with fail
                            refine (HT.out _).mono ?_
                            rintro e w8 ⟨rfl, hb8⟩
                            have HB8 := Lib.hid (HB7.out.trans (hb8.mono HB7.out.size))
                            obtain ⟨z4, z5⟩ := HZ.out _ HB8.out
                            have z6 := HP.out _ HB8.out
                            clear hb8 z2 z3
                            by_cases hn : yn = m
                            · subst hn
                              generalize fIno (ents s) yn = g1 at *
                              generalize fAt (ents s) yn = g2 at *
                              generalize fIs (ents s) yn = g3 at *
                              generalize fIno (ents t) yn = g4 at *
                              generalize fAt (ents t) yn = g5 at *
                              generalize fIs (ents t) yn = g6 at *
                              go_wp2_with fail
                              go_quiet (fail)
                              go_wp2_with fail
                              go_roundw
                              case rel => exact ⟨k + 1, by simp, by omega, below_drewN HB8.out nq⟩
                              case measure => simp [Go.RowKit.intOf]; omega
                            · have hq := HF2.out hn
                              have hne : (yn == m) = false := by simp [hn]
                              clear HF2 HF1
                              generalize fIno (ents s) yn = g1 at *
                              generalize fAt (ents s) yn = g2 at *
                              generalize fIs (ents s) yn = g3 at *
                              generalize fIno (ents t) yn = g4 at *
                              generalize fAt (ents t) yn = g5 at *
                              generalize fIs (ents t) yn = g6 at *
                              obtain ⟨rfl, rfl, rfl⟩ := hq
                              have hd1 : ((g4 : Int) != (g4 : Int)) = false := by simp
                              have hd2 : ((g5 : Int) != (g5 : Int)) = false := by simp
                              go_wp2_with fail
                              go_quiet (fail)
                              go_wp2_with fail
                              go_roundw
                              case rel => exact ⟨k + 1, by simp, by omega, below_drewN HB8.out nq⟩
                              case measure => simp [Go.RowKit.intOf]; omega
                          · obtain rfl : k = L.length := by omega
                            go_wp2_with fail
                            refine (HA.out _).mono ?_
                            rintro e w9 ⟨rfl, hb9⟩
                            go_wp2_with fail
                            go_ret
                            exact ⟨rfl, HB3.out.trans ((HB.out.mono HB3.out.size).trans (hb9.mono (Nat.le_trans HB3.out.size HB.out.size)))⟩
end Go.Proofs.Ytmidoghjacmdcaa
