import Derived.Test.YtnfiapjdkjbdhaaGreatX6
import Derived.Stop.RegionWithIn
namespace Go.Proofs.YtnfiapjdkjbdhaaGreat
open Go.RowKit Go.Maps Go.Shelf
set_option linter.unusedVariables false
set_option linter.unusedSimpArgs false
set_option maxRecDepth 10000
attribute [local go_sem] Oper.semAt_some
theorem group_at (l : PutL) (j q : Nat) (hq : q < (group l j).length) : ∃ h : 32 * j + q < l.length, (group l j)[q] = l[32 * j + q] := by
  have hl : q < 32 ∧ 32 * j + q < l.length := by
    unfold group at hq
    rw [List.length_take, List.length_drop] at hq
    omega
  refine ⟨hl.2, ?_⟩
  have h1 : (group l j)[q]? = l[32 * j + q]? := by
    unfold group
    rw [List.getElem?_take, if_pos hl.1, List.getElem?_drop]
  rw [List.getElem?_eq_getElem hq, List.getElem?_eq_getElem hl.2] at h1
  exact Option.some.inj h1
theorem group_len (l : PutL) (j : Nat) : (group l j).length = min 32 (l.length - 32 * j) := by
  unfold group
  rw [List.length_take, List.length_drop]
theorem owns_base {W : World} {base base' : Nat} {e : TypeId} {v : Value} {n : Nat} {xs : List Value} {sz : Nat} (h : W.ownsRow base e sz v n xs) (hb : base' ≤ base) : W.ownsRow base' e sz v n xs := by
  refine ⟨h.1, ?_⟩
  rcases h.2 with h0 | ⟨g, cap, cur, hv, hb2, hr⟩
  · exact .inl h0
  · exact .inr ⟨g, cap, cur, hv, Nat.le_trans hb hb2, hr⟩
theorem numRow_snoc (l : PutL) (p : Nat × List UInt8) : numRow (l ++ [p]) = numRow l ++ leB 2 p.1 := by simp [numRow]
set_option maxHeartbeats 4000000 in
theorem body_any (v : Value) (l : PutL) (base : Nat) (w : World) (hl : l.length ≤ 4096) (hn : ∀ p ∈ l, p.1 < 65536) (h : OwnP w base v (castL l)) :
    Calls Tryz.prog 180 #[v] w fun e w' => ∃ v', e = .returned v' ∧ OwnT w' w.heap.size v' (bodyL l) ∧ Below w.heap.size w w' := by
  have hcl := castL_length l
  have hv : ∃ A c, v = .slice A l.length c ∧ (l = [] ∨ ∃ g, A = some ⟨g, 0, none⟩ ∧ g < w.heap.size ∧ l.length ≤ c ∧ c ≤ maxLen ∧ ∀ k (hk : k < l.length), w.cell? ⟨g, k * 2, none⟩ = some (.int .i64 (l[k].1 : Int)) ∧ w.cell? ⟨g, k * 2 + 1, none⟩ = some (str l[k].2)) := by
    rcases h.2 with ⟨rfl, h0⟩ | ⟨g, cap, cur, rfl, hb, hg, hc1, hc2, hrest⟩
    · rw [hcl] at h0
      exact ⟨none, 0, by rw [h0], .inl (List.length_eq_zero_iff.1 h0)⟩
    · refine ⟨_, cap, by rw [hcl], .inr ⟨g, rfl, (Array.getElem?_eq_some_iff.1 hg).1, by omega, hc2, fun k hk => ?_⟩⟩
      have hown : w.ownsRow base 117 2 (.slice (some ⟨g, 0, none⟩) (castL l).length cap) (castL l).length (putC (castL l)) := h
      obtain ⟨e1, e2⟩ := putC_at (castL l) k (by omega)
      have hx : (castL l)[k]'(by omega) = ((l[k].1 : Int), l[k].2) := by simp [castL]
      rw [hx] at e1 e2
      exact ⟨(hown.cellAt (k * 2) (by omega)).trans e1, (hown.cellAt (k * 2 + 1) (by omega)).trans e2⟩
  obtain ⟨A, c, rfl, hcells⟩ := hv
  clear h
  refine (callsIn_wide (n := 8)).1 ?_
  refine callsIn_of_wp_marks Tryz.func180 rfl trivial ?_ rfl
  simp only [Tryz.ntmps180, List.size_toArray, List.length_cons, List.length_nil, Nat.reduceAdd, Nat.reduceSub, Array.replicate_succ, Array.replicate_zero, List.push_toArray, List.append_toArray, List.nil_append, List.cons_append]
  gi_wp2_with fail
  refine ⟨trivial, (callsIn_wide.2 (chunk_any _ _ _ _)).mono ?_⟩
  rintro e w2 ⟨rfl, rfl⟩
  gi_wp2_with fail
  obtain ⟨W0, hW0⟩ : ∃ W0, (((w.alloc (.cells #[.slice none 0 0] 230)).alloc (.cells #[.slice none 0 0] 230)).alloc (.cells #[.slice A l.length c] 114)).alloc (.cells #[.int .i64 32] 3) = W0 := ⟨_, rfl⟩
  have hs0 : W0.heap.size = w.heap.size + 4 := by rw [← hW0]; simp
  have hB0 : Below w.heap.size w W0 := by rw [← hW0]; exact ((((Below.refl _ w).alloc (Nat.le_refl _) _).alloc (by simp) _).alloc (by simp; omega) _).alloc (by simp; omega) _
  have g0 : W0.heap[w.heap.size]? = some (.cells #[.slice none 0 0] 230 (0, 0)) := by
    rw [← hW0, Below.heap_alloc _ _ _ (by simp; omega), Below.heap_alloc _ _ _ (by simp; omega), Below.heap_alloc _ _ _ (by simp)]; exact heap_new _ _ _ rfl
  have g1 : W0.heap[w.heap.size + 1]? = some (.cells #[.slice none 0 0] 230 (0, 0)) := by
    rw [← hW0, Below.heap_alloc _ _ _ (by simp), Below.heap_alloc _ _ _ (by simp)]; exact heap_new _ _ _ (by simp)
  have g2 : W0.heap[w.heap.size + 2]? = some (.cells #[.slice A l.length c] 114 (0, 0)) := by
    rw [← hW0, Below.heap_alloc _ _ _ (by simp)]; exact heap_new _ _ _ (by simp)
  have g3 : W0.heap[w.heap.size + 3]? = some (.cells #[.int .i64 32] 3 (0, 0)) := by
    rw [← hW0]; exact heap_new _ _ _ (by simp)
  rw [hW0]
  clear hW0
  have hBW : w.heap.size + 1 < W0.heap.size := by omega
  have hI0 : BodyI W0 w.heap.size [] [] W0 := ⟨Only.refl _ _, .slice none 0 0, .slice none 0 0, g0, g1, World.ownsRow_nil _ _ _ _, World.ownsRow_nil _ _ _ _, fun k hk => by cases hk⟩
  have hbox : ∀ ns cs V, BodyI W0 w.heap.size ns cs V → V.cell? ⟨w.heap.size + 2, 0, none⟩ = some (.slice A l.length c) ∧ V.cell? ⟨w.heap.size + 3, 0, none⟩ = some (.int .i64 32) := by
    rintro ns cs V ⟨hO, _⟩
    exact ⟨(cell_same 0 (hO.block _ (by omega) (by omega))).trans (cell_of_row _ _ 0 _ _ _ g2), (cell_same 0 (hO.block _ (by omega) (by omega))).trans (cell_of_row _ _ 0 _ _ _ g3)⟩
  have Hbox := Lib.hid hbox
  have HI0 := Lib.hid hI0
  clear hbox g0 g1 g2 g3 hI0
  refine range_flat (n := 8) (by decide) (gf := 241) (lb := #[.pointer (some ⟨w.heap.size + 2, 0, none⟩), .pointer (some ⟨w.heap.size + 3, 0, none⟩)]) rfl (enters_of Tryz.func241 (by kernel_rfl) rfl) ((l.length + 31) / 32)
    (fun j args V => ∃ g, A = some ⟨g, 0, none⟩ ∧ args = #[groupV g l.length j])
    (fun j V => BodyI W0 w.heap.size ((numSecs l).take j) ((l.take (32 * j)).map (·.2)) V) ?hit ?h0 ?hdr ?hput
    (fun j a' V => BodyI W0 w.heap.size ((numSecs l).take j) ((l.take (32 * j)).map (·.2)) V ∧ ∃ g, A = some ⟨g, 0, none⟩ ∧ a' = { tmps := #[.slice A l.length c, undef, .slice none 0 0, .pointer (some ⟨w.heap.size, 0, none⟩), .pointer (some ⟨w.heap.size + 1, 0, none⟩), groupV g l.length j, undef, undef, undef, .slice A l.length c, .func (.func 241) #[] #[.pointer (some ⟨w.heap.size + 2, 0, none⟩), .pointer (some ⟨w.heap.size + 3, 0, none⟩)], groupV g l.length j, undef, undef, undef, undef, undef, undef, undef, undef, undef, undef, undef, undef, undef, undef, undef, undef, undef, undef, undef, undef, undef, undef, undef, undef, undef, undef], defers := [] }) ?hAx ?hassign ?hbody ?hdone
  case hit =>
    intro lp J V hJI hJd hJ0 hrd hb
    rcases hcells with rfl | ⟨g, rfl, hg, hc1, hc2, _⟩
    · exact chunk_nil lp (w.heap.size + 2) (w.heap.size + 3) c A J V (Hbox.out _ _ _ (hJI 0 V hJ0)).1 hJ0
    · refine chunk_in lp (w.heap.size + 2) (w.heap.size + 3) g l.length c (by omega) hc1 hc2 J V (fun j V' hJ => Hbox.out _ _ _ (hJI j V' hJ)) hJd hJ0 ?_
      intro j hj V1 hJ
      exact hrd j hj _ V1 hJ ⟨g, rfl, rfl⟩
  case h0 =>
    intro V hb
    rw [List.take_zero, Nat.mul_zero, List.take_zero]
    exact HI0.out.below hBW hb
  case hdr =>
    intro j V hV
    exact hV.below hBW (Below.refl V.heap.size V).drew
  case hput =>
    intro j V l o hl hl2 h
    exact h.put hBW l o hl hl2
  case hAx =>
    rintro j a' V l o hl hl2 ⟨hD, g, hg, rfl⟩
    exact ⟨hD.put hBW l o hl hl2, g, hg, rfl⟩
  case hassign =>
    rintro lp j args V hj hD ⟨g, rfl, rfl⟩
    refine ⟨rfl, ?_⟩
    have HD := Lib.hid hD
    clear hD
    unfold groupV
    generalize 32 * j * 2 = o at *
    gi_wp2
    exact ⟨KeepF.refl _ _, HD.out, g, rfl, rfl⟩
  case hbody =>
    rintro lp j a' V hj hV2 ⟨hD, g, rfl, rfl⟩
    rcases hcells with rfl | ⟨g', hgg, hgl, hc1, hc2, hcell⟩
    · simp at hj
    obtain rfl : g = g' := by injection hgg with h1; injection h1
    have hGl := group_len l j
    have hGa := fun q hq => group_at l j q hq
    have HC := Lib.hid hcell
    have HN := Lib.hid hn
    have HGA := Lib.hid hGa
    have HD := Lib.hid hD
    clear hcell hn hGa hD hgg
    unfold groupV
    rw [← hGl]
    obtain ⟨o, ho⟩ : ∃ o, o = 32 * j * 2 := ⟨_, rfl⟩
    rw [← ho]
    have HO := Lib.hid ho
    have HL := Lib.hid hGl
    have hG32 := group_length l j
    generalize hG : group l j = G at *
    have HG := Lib.hid hG
    clear ho hGl hG
    have hsz0 := HD.out.only.size
    gi_wp2
    gi_loopw [6, 14] (fun r i wr => ∃ q : Nat, q ≤ G.length ∧ i = .int .i64 q ∧ r = str (numRow (G.take q)) ∧ BodyI W0 w.heap.size ((numSecs l).take j) ((l.take (32 * j + q)).map (·.2)) wr ∧ KeepF W0.heap.size V wr ∧ V.heap.size ≤ wr.heap.size) (fun _ i _ => G.length - (Go.RowKit.intOf i).toNat)
    case atStart => exact ⟨0, Nat.zero_le _, rfl, rfl, HD.out, KeepF.refl _ _, Nat.le_refl _⟩
    case round =>
      obtain ⟨q, hq, rfl, rfl, hB, hK, hvs⟩ := hrel
      have HB := Lib.hid hB
      have HK := Lib.hid hK
      clear hB hK
      have hrl := numRow_length (G.take q)
      rw [List.length_take, Nat.min_eq_left hq] at hrl
      by_cases hlt : q < G.length
      · obtain ⟨hlx, hGx⟩ := HGA.out q hlt
        obtain ⟨k1, k2⟩ := HC.out (32 * j + q) hlx
        have hnx := HN.out l[32 * j + q] (List.getElem_mem _)
        have hrow : numRow (G.take (q + 1)) = numRow (G.take q) ++ leB 2 G[q].1 := by rw [List.take_succ_eq_append_getElem hlt, numRow_snoc]
        have hcs : (l.take (32 * j + (q + 1))).map (·.2) = (l.take (32 * j + q)).map (·.2) ++ [l[32 * j + q].2] := by rw [← Nat.add_assoc, List.take_succ_eq_append_getElem hlx, List.map_append]; rfl
        rw [hGx] at hrow
        have hlow : wr.heap[g]? = w.heap[g]? := (HB.out.only.block g (by omega) (by omega)).trans (hB0.block g hgl)
        have hd1 : wr.cell? ⟨g, o + q * 2, none⟩ = some (.int .i64 (l[32 * j + q].1 : Int)) := (World.cell?_of_block (a := ⟨g, o + q * 2, none⟩) hlow).trans (by rw [HO.out, show 32 * j * 2 + q * 2 = (32 * j + q) * 2 by omega]; exact k1)
        have hd2 : wr.cell? ⟨g, o + q * 2 + 1, none⟩ = some (str l[32 * j + q].2) := (World.cell?_of_block (a := ⟨g, o + q * 2 + 1, none⟩) hlow).trans (by rw [HO.out, show 32 * j * 2 + q * 2 + 1 = (32 * j + q) * 2 + 1 by omega]; exact k2)
        have HR := Lib.hid hrow
        have HCS := Lib.hid hcs
        clear hrow hcs k1 k2 hlow hGx
        have hlens : ((l.take (32 * j + q)).map (·.2)).length ≤ 1048576 := by rw [List.length_map, List.length_take]; omega
        generalize l[32 * j + q] = x at *
        obtain ⟨s, d⟩ := x
        simp only at hd1 hd2 hnx
        generalize numRow (G.take q) = row at *
        obtain ⟨X, hX⟩ : ∃ X, X = wr.alloc (.cells #[.int .i64 (s : Int), str d] 117) := ⟨_, rfl⟩
        have hXb : Below wr.heap.size wr X := by rw [hX]; exact (Below.refl _ _).alloc (Nat.le_refl _) _
        have hXn : X.heap[wr.heap.size]? = some (.cells #[.int .i64 (s : Int), str d] 117 (0, 0)) := by rw [hX]; exact heap_alloc_new wr _
        have hXs : X.heap.size = wr.heap.size + 1 := by rw [hX]; simp
        obtain ⟨p0, p1⟩ := cells_two hXn
        have hXX : wr.alloc (.cells #[.int .i64 (s : Int), str d] 117) = X := hX.symm
        clear hX
        have hcu : IntKind.u64.wrap (s : Int) = s := u64_wrap _ (by omega) (by omega)
        have HNU := Lib.hid (number_any (s : Int) s 2 X rfl (by omega) (by decide) (by simpa using hnx) 2 rfl)
        have h2l : (leB 2 s).length = 2 := leB_length 2 s
        generalize leB 2 s = t at *
        gi_wp2_with fail
        refine ⟨trivial, (CallsIn.inRound lp (callsIn_wide.2 HNU.out)).mono ?_⟩
        rintro e W2 ⟨rfl, hb2⟩
        have hbw : Below wr.heap.size wr W2 := hXb.trans (hb2.mono (by omega))
        have hs2 := hbw.size
        obtain ⟨cv, cv', W3, n0, hap, n1, f1, hfin, hkf, hsf, gc, gm, cc, rfl⟩ := (HB.out.below hBW hbw).addC hBW (by omega) d hlens
        have hb2r := hb2.block wr.heap.size (by omega)
        obtain ⟨p0, p1⟩ := cells_two (hb2r.trans hXn)
        have HF := Lib.hid hfin
        have HKF := Lib.hid ((HK.out.trans (KeepF.below hbw (by omega))).trans hkf)
        have HSF := Lib.hid hsf
        clear hfin hkf hsf hXX HNU hXn hb2r hb2
        gi_wp2_with fail
        go_roundw
        case rel => exact ⟨q + 1, by omega, by simp, by rw [HR.out], by rw [HCS.out]; exact HF.out, HKF.out, by have := HSF.out; omega⟩
        case measure => simp [Go.RowKit.intOf]; omega
      · obtain rfl : q = G.length := by omega
        rw [List.take_length] at hrl ⊢
        have hj1 : (l.take (32 * j + G.length)).map (·.2) = (l.take (32 * (j + 1))).map (·.2) := by
          congr 1
          rw [HL.out]
          rw [List.take_eq_take_iff]
          omega
        have hB := HB.out
        rw [hj1] at hB
        have hnl : (numSecs l).length = (l.length + 31) / 32 := numSecs_length l
        have hnt : (numSecs l).take (j + 1) = (numSecs l).take j ++ [pad64 (numRow G)] := by
          rw [List.take_succ_eq_append_getElem (by omega), numSecs_at l j (by omega), HG.out]
        have HNT := Lib.hid hnt
        have HB2 := Lib.hid hB
        have hlens : ((numSecs l).take j).length ≤ 1048576 := by rw [List.length_take]; omega
        have hpad : pad64 (numRow G) = numRow G ++ List.replicate (64 - (numRow G).length) 0 := rfl
        have hF := fun W => filled_any (numRow G) (64 - (numRow G).length) 64 W (by omega) (by omega)
        rw [← hpad] at hF
        have HFI := Lib.hid hF
        clear hB hj1 hnl hnt hpad hF HB
        generalize pad64 (numRow G) = pr at *
        generalize numRow G = row at *
        obtain ⟨cv0, -, -, n00, -⟩ := HB2.out.addN hBW (by omega) pr hlens
        gi_wp2_with fail
        gi_region_with (first | (refine ⟨trivial, (CallsIn.inRound lp (callsIn_wide.2 (HFI.out _))).mono ?_⟩; rintro e W2 ⟨rfl, hb2⟩; have hbx := (Below.refl wr.heap.size wr).drew.trans hb2; obtain ⟨cv, cv', W3, n0, hap, n1, f1, hfin, hkf, hsf, gc, gm, cc, rfl⟩ := (HB2.out.below hBW hbx).addN hBW (by have := hbx.size; omega) pr hlens; obtain rfl : cv = cv0 := Option.some.inj (n0.symm.trans ((hbx.cell (p := ⟨w.heap.size, 0, none⟩) (by show w.heap.size < wr.heap.size; omega)).trans n00)); have n2 := up1 (o := .cells #[str pr] 9) n0; have HF := Lib.hid hfin; have HKF := Lib.hid ((HK.out.trans (KeepF.below hbx (by omega))).trans hkf); clear hfin hkf))
        all_goals
          gi_wp2
          exact ⟨HKF.out, by rw [HNT.out]; exact HF.out⟩
  case hdone =>
    intro V hD hK
    have hN1 : (numSecs l).take ((l.length + 31) / 32) = numSecs l := List.take_of_length_le (by rw [numSecs_length]; omega)
    have hN2 : l.take (32 * ((l.length + 31) / 32)) = l := List.take_of_length_le (by omega)
    rw [hN1, hN2] at hD
    have hnl := numSecs_length l
    obtain ⟨hO, nv, cv, h1, h2, h3, h4, h5⟩ := hD
    have hsz := hO.size
    have hKl : W0.heap.size < V.heap.size := (Array.getElem?_eq_some_iff.1 hK).1
    have hVs : W0.heap.size + 2 ≤ V.heap.size + 2 := by omega
    have c1 := cell_of_row _ _ 0 _ _ _ h1
    have c2 := cell_of_row _ _ 0 _ _ _ h2
    have hbig : W0.heap.size + 2 ≤ V.heap.size ∨ V.heap.size < W0.heap.size + 2 := by omega
    obtain ⟨v', W2, hap, hown, hg⟩ := append_txts V (W0.heap.size + 1) nv cv (numSecs l) (l.map (·.2)) (owns_base h3 (by omega)) (owns_base h4 (by omega)) (by rw [hnl, List.length_map]; omega) (by omega)
    have hk2 : W2.heap[W0.heap.size]? = some (.deferred (some [])) := (hg.block _ hKl (fun e => by have := (h3.lt _ e.symm).1; omega)).trans hK
    have hbl : Below w.heap.size w W2 := by
      refine hB0.trans ⟨hg.os.trans hO.os, hg.tape.trans hO.tape, hg.output.trans hO.output, by have := hg.size; omega, fun k hk => ?_⟩
      exact (hg.block k (by omega) (fun e => by have := (h3.lt _ e.symm).1; omega)).trans (hO.block k (by omega) (by omega))
    have HOW := Lib.hid (owns_base hown (show w.heap.size ≤ W0.heap.size + 1 by omega))
    have HB := Lib.hid hbl
    have hlow : ∀ k, v'.ownBlock = some k → W0.heap.size + 1 ≤ k := fun k hk => (hown.lt k hk).1
    clear hown hbl hg h1 h2 h3 h4 h5 hO
    gi_wp2
    refine ⟨by simp, .inl ⟨_, _, rfl, run_takeDeferred hk2, ?_⟩⟩
    have hne : ∀ k, k ≠ W0.heap.size → (W2.putObj W0.heap.size (.deferred none)).heap[k]? = W2.heap[k]? := fun k hk => World.putObj_heap_other hk
    refine ⟨_, results_tmp rfl _ _ _, v', rfl, owns_keep HOW.out fun k hk => hne k (by have := hlow k hk; omega), ?_⟩
    refine ⟨HB.out.os, HB.out.tape, HB.out.output, by rw [World.putObj_size]; exact HB.out.size, fun k hk => ?_⟩
    rw [hne k (by omega)]; exact HB.out.block k hk
end Go.Proofs.YtnfiapjdkjbdhaaGreat
/- Layer 4 (journal): a transaction is kept, and read back. -/
namespace Go.Proofs.YtnfiapjdkjbdhaaGreat
open Go.RowKit Go.Maps
set_option linter.unusedVariables false
set_option linter.unusedSimpArgs false
set_option maxRecDepth 10000
theorem ownT_at {W : World} {base : Nat} {v : Value} {ss : List (List UInt8)} (h : OwnT W base v ss) : ∃ A c, v = .slice A ss.length c ∧ ∀ k (hk : k < ss.length), ∃ g, A = some ⟨g, 0, none⟩ ∧ base ≤ g ∧ g < W.heap.size ∧ ss.length ≤ c ∧ c ≤ maxLen ∧ W.cell? ⟨g, k, none⟩ = some (str ss[k]) := by
  rcases h.2 with ⟨rfl, h0⟩ | ⟨g, cap, cur, rfl, hb, hg, hc1, hc2, _⟩
  · exact ⟨none, 0, by rw [h0], fun k hk => by omega⟩
  · refine ⟨_, cap, rfl, fun k hk => ⟨g, rfl, hb, (Array.getElem?_eq_some_iff.1 hg).1, hc1, hc2, ?_⟩⟩
    have := h.cells (g := g) rfl k (str ss[k]) (by simp [hk])
    rwa [addr_add0] at this
theorem grown_of_below' {w w' : World} (h : Below w.heap.size w w') (row : Option Nat) : w.grownBy w' row := ⟨h.os, h.tape, h.output, h.size, fun i hi _ => h.block i hi⟩
set_option maxHeartbeats 2000000 in
theorem keep_any {W : World} (jb b F n rec g base : Nat) (pv : Value) (l : PutL) (hj : JAt W jb b F n rec) (hv : OwnP W base pv (castL l)) (hl : l.length ≤ 4096) (hn : ∀ p ∈ l, p.1 < 65536) (hF : F ≤ 4096) :
    Calls Tryz.prog 126 #[devp jb, txV g pv] W fun e w' => ∃ v', e = .returned v' ∧ Puts w' v' (castL (keepP F l)) ∧ Fresh W w' v' ∧ Below W.heap.size W w' := by
  have hpv : ∃ A m c, pv = .slice A m c := by obtain ⟨A, c, hv, _⟩ := hv.puts; exact ⟨A, _, c, hv⟩
  obtain ⟨A, m, c, rfl⟩ := hpv
  have hB : Below W.heap.size W (W.alloc (.cells #[.int .u64 (g : Int), .slice A m c] 158)) := (Below.refl _ _).alloc (Nat.le_refl _) _
  obtain ⟨k0, k1⟩ := txV_box (W := W) g (.slice A m c) 158
  have HBO := Lib.hid (body_any (.slice A m c) l base (W.alloc (.cells #[.int .u64 (g : Int), .slice A m c] 158)) hl hn (World.ownsRow.alloc hv _))
  have HJ := Lib.hid hj
  have hbl : (bodyL l).length ≤ 8192 := by rw [bodyL_length]; omega
  clear hj hv
  go_enter Tryz.func126, Tryz.ntmps126
  go_wp2_with fail
  refine HBO.out.mono ?_
  rintro e w1 ⟨v, rfl, hown, hb1⟩
  have hBW : Below W.heap.size W w1 := hB.trans (hb1.mono (by simp))
  obtain ⟨A2, c2, rfl, hat⟩ := ownT_at hown
  have HAT := Lib.hid hat
  have HK := keepP_length F l
  clear hown hat HBO hb1 k0 k1
  generalize hB2 : bodyL l = bl at *
  have HBL := Lib.hid hB2
  clear hB2
  go_wp2_with fail
  go_loopw [5, 12] (fun v i wr => ∃ k : Nat, k ≤ bl.length ∧ i = .int .i64 k ∧ OwnP wr w1.heap.size v (castL ((keepP F l).take k)) ∧ Below w1.heap.size w1 wr) (fun _ i _ => bl.length - (Go.RowKit.intOf i).toNat)
  case atStart => exact ⟨0, Nat.zero_le _, rfl, World.ownsRow_nil _ _ _ _, Below.refl _ _⟩
  case round =>
    obtain ⟨k, hk, rfl, hown, hb⟩ := hrel
    by_cases hlt : k < bl.length
    · obtain ⟨gb, rfl, hg1, hg2, hc1, hc2, hcell⟩ := HAT.out k hlt
      have hd1 : wr.cell? ⟨gb, k, none⟩ = some (str bl[k]) := (hb.cell (p := ⟨gb, k, none⟩) hg2).trans hcell
      have hj1 := (HJ.out.below (hBW.trans (hb.mono hBW.size))).c1
      have hts : (keepP F l).take (k + 1) = (keepP F l).take k ++ [(F + 1 + k, bl[k])] := by
        rw [List.take_succ_eq_append_getElem (by omega)]
        have h1 : k < (bodyL l).length := by rw [HBL.out]; exact hlt
        have h2 := keepP_get F l k h1
        have h3 : (bodyL l)[k] = bl[k] := by
          have : (bodyL l)[k]? = bl[k]? := by rw [HBL.out]
          rw [List.getElem?_eq_getElem h1, List.getElem?_eq_getElem hlt] at this
          exact Option.some.inj this
        rw [h2, h3]
      have htl : ((keepP F l).take k).length = k := by rw [List.length_take]; omega
      have HTS := Lib.hid hts
      clear hts hcell
      generalize bl[k] = s at *
      generalize (keepP F l).take k = acc at *
      have hsz := hb.size
      have hcs : castL (acc ++ [(F + 1 + k, s)]) = castL acc ++ [((F : Int) + 1 + (k : Int), s)] := by rw [castL_snoc]; simp
      have hown1 : OwnP (wr.alloc (.cells #[.int .i64 ((F : Int) + 1 + (k : Int)), str s] 117)) w1.heap.size _ (castL acc) := World.ownsRow.alloc hown _
      obtain ⟨x0, x1⟩ := cells2 wr (.int .i64 ((F : Int) + 1 + (k : Int))) (str s) 117
      have hcal : (castL acc).length = k := by rw [castL_length, htl]
      obtain ⟨v', W4, hap, hown4, hB4, -, -, -⟩ := append_put _ w1.heap.size w1.heap.size _ (castL acc) ((F : Int) + 1 + (k : Int), s) hown1 wr.heap.size 1 x0 x1 (by omega) (by simp; omega) (by simp; omega) (fun k hk => (hown1.lt k hk).1)
      rw [← hcs] at hown4
      obtain ⟨A3, c3, rfl, -⟩ := hown.puts
      rw [hcal] at hap ⊢
      have HF := Lib.hid hown4
      have HB := Lib.hid ((hb.alloc hsz (.cells #[.int .i64 ((F : Int) + 1 + (k : Int)), str s] 117)).trans hB4)
      clear hown4 hB4 hown1 hown x0 x1 hcs
      go_wp2_with fail
      go_roundw
      case rel => exact ⟨k + 1, by omega, by simp, by rw [HTS.out]; exact HF.out, HB.out⟩
      case measure => simp [Go.RowKit.intOf]; omega
    · obtain rfl : k = bl.length := by omega
      rw [← HK, List.take_length] at hown
      go_wp2_with fail
      go_ret
      exact ⟨_, rfl, hown.puts, fun k hk => ⟨by have := (hown.lt k hk).1; have := hBW.size; omega, (hown.lt k hk).2⟩, hBW.trans (hb.mono hBW.size)⟩
theorem readBody_none (base : Nat) (sv : Value) (w : World) (h : OwnT w base sv []) :
    Calls Tryz.prog 146 #[sv, .int .i64 0] w fun e w' => e = .returned (.slice none 0 0) ∧ w = w' := by
  obtain ⟨A, c, rfl, hat⟩ := ownT_at h
  clear hat
  rcases h.2 with ⟨h1, -⟩ | ⟨g, cap, cur, h1, hb, hg, hc1, hc2, -⟩
  · injection h1 with e1 e2 e3
    subst e1 e3
    go_enter Tryz.func146, Tryz.ntmps146
    go_wp2_with fail
    go_loopw [5, 20] (fun v i wr => v = .slice none 0 0 ∧ i = .int .i64 0 ∧ w = wr) (fun _ i _ => 0)
    case atStart => exact ⟨rfl, rfl, rfl⟩
    case round =>
      obtain ⟨rfl, rfl, rfl⟩ := hrel
      go_wp2_with fail
      go_ret
      exact ⟨rfl, rfl⟩
  · injection h1 with e1 e2 e3
    subst e1 e3
    unfold maxLen at hc2
    go_enter Tryz.func146, Tryz.ntmps146
    go_wp2_with fail
    go_loopw [5, 20] (fun v i wr => v = .slice none 0 0 ∧ i = .int .i64 0 ∧ w = wr) (fun _ i _ => 0)
    case atStart => exact ⟨rfl, rfl, rfl⟩
    case round =>
      obtain ⟨rfl, rfl, rfl⟩ := hrel
      go_wp2_with fail
      go_ret
      exact ⟨rfl, rfl⟩
set_option maxHeartbeats 2000000 in
theorem readBody_any (base : Nat) (sv : Value) (l : PutL) (w : World) (h : OwnT w base sv (bodyL l)) (hl : l.length ≤ 4096) (hn : ∀ p ∈ l, p.1 < 65536) (h64 : ∀ p ∈ l, p.2.length = 64) (hne : l ≠ []) :
    Calls Tryz.prog 146 #[sv, .int .i64 (l.length : Int)] w fun e w' => ∃ v', e = .returned v' ∧ OwnP w' w.heap.size v' (castL l) ∧ Below w.heap.size w w' := by
  obtain ⟨A, c, rfl, hat⟩ := ownT_at h
  have hbl := bodyL_length l
  have hpos := List.length_pos_iff.2 hne
  obtain ⟨g, rfl, -, hg, hc1, hc2, -⟩ := hat 0 (by omega)
  have hat2 : ∀ k (hk : k < (bodyL l).length), w.cell? ⟨g, k, none⟩ = some (str (bodyL l)[k]) := fun k hk => by
    obtain ⟨g', h1, -, -, -, -, h2⟩ := hat k hk
    obtain rfl : g = g' := by injection h1 with h1; injection h1
    exact h2
  have hcon : ∀ k (hk : k < l.length), w.cell? ⟨g, (bodyL l).length - l.length + k, none⟩ = some (str l[k].2) := fun k hk => by
    have h1 := hat2 ((bodyL l).length - l.length + k) (by omega)
    have h2 := body_rest l
    have h3 : ((bodyL l).drop ((bodyL l).length - l.length))[k]? = (l.map (·.2))[k]? := by rw [h2]
    rw [List.getElem?_drop, List.getElem?_eq_getElem (by omega), List.getElem?_map, List.getElem?_eq_getElem hk] at h3
    have h4 : (bodyL l)[(bodyL l).length - l.length + k] = l[k].2 := by simpa using h3
    rw [h1, h4]
  have hnum : ∀ k (hk : k < l.length) (hb : k / 32 < (bodyL l).length), leV ((((bodyL l)[k / 32]).drop (k % 32 * 2)).take 2) = l[k].1 := fun k hk hb => body_num l k hk (hn _ (List.getElem_mem _)) hb
  have heach := bodyL_each l h64
  have HAT := Lib.hid hat2
  have HCO := Lib.hid hcon
  have HNU := Lib.hid hnum
  have HEA := Lib.hid heach
  have HN := Lib.hid hn
  clear hat hat2 hcon hnum heach hn h64 h
  have hoff : ((bodyL l).length : Int) - (l.length : Int) = (((bodyL l).length - l.length : Nat) : Int) := by omega
  generalize hB : bodyL l = bl at *
  obtain ⟨o, ho⟩ : ∃ o, o = bl.length - l.length := ⟨_, rfl⟩
  rw [← ho] at hoff HCO
  have HOFF := Lib.hid hoff
  unfold maxLen at hc2
  have hle : l.length + o = bl.length := by omega
  have hn1 : l.length ≤ 32 * (bl.length - l.length) := by omega
  have HLE := Lib.hid hle
  have HBL := Lib.hid hbl
  have HO := Lib.hid ho
  have hI1 : (l.length : Int) ≤ (bl.length : Int) := by omega
  have hI2 : (bl.length : Int) ≤ (c : Int) := by omega
  have hI3 : bl.length ≤ 8192 := by omega
  clear hoff hB hbl hle hn1 ho
  go_enter Tryz.func146, Tryz.ntmps146
  go_wp2_with fail
  rw [show bl.length - (bl.length - l.length) = l.length by omega, show bl.length - l.length = o from HO.out.symm]
  have hoc : o ≤ c := by have := HLE.out; omega
  go_loopw [5, 20] (fun v i wr => ∃ k : Nat, k ≤ l.length ∧ i = .int .i64 k ∧ OwnP wr w.heap.size v (castL (l.take k)) ∧ Below w.heap.size w wr) (fun _ i _ => l.length - (Go.RowKit.intOf i).toNat)
  case atStart => exact ⟨0, Nat.zero_le _, rfl, World.ownsRow_nil _ _ _ _, Below.refl _ _⟩
  case round =>
    obtain ⟨k, hk, rfl, hown, hb⟩ := hrel
    by_cases hlt : k < l.length
    · have hkb : k / 32 < bl.length := by have := HBL.out; omega
      have hd1 : wr.cell? ⟨g, o + k, none⟩ = some (str l[k].2) := (hb.cell (p := ⟨g, o + k, none⟩) hg).trans (HCO.out k hlt)
      have hd2 : wr.cell? ⟨g, k / 32, none⟩ = some (str bl[k / 32]) := (hb.cell (p := ⟨g, k / 32, none⟩) hg).trans (HAT.out (k / 32) hkb)
      have h64 := HEA.out bl[k / 32] (List.getElem_mem _)
      have hnu := HNU.out k hlt hkb
      have hnx := HN.out l[k] (List.getElem_mem _)
      have hts : castL (l.take (k + 1)) = castL (l.take k) ++ [((l[k].1 : Int), l[k].2)] := by rw [List.take_succ_eq_append_getElem hlt, castL_snoc]
      have hcal : (castL (l.take k)).length = k := by rw [castL_length, List.length_take]; omega
      have HTS := Lib.hid hts
      have HT := Lib.hid fun W => take_any (bl[k / 32].drop (k % 32 * 2)) 2 W (by rw [List.length_drop]; omega) (by decide) (by rw [List.length_drop]; omega) 2 rfl
      rw [hnu] at HT
      have htk : bl[k / 32].take 64 = bl[k / 32] := List.take_of_length_le (by omega)
      rw [← htk] at HT
      clear hts hnu htk
      generalize bl[k / 32] = row at *
      generalize castL (l.take k) = acc at *
      generalize l[k] = x at *
      obtain ⟨s, d⟩ := x
      simp only at hnx
      have hsz := hb.size
      have hm32 : (k : Int) % 32 * 2 ≤ 64 := by omega
      have hm0 : (0 : Int) ≤ (k : Int) % 32 * 2 := by omega
      have hq0 : (0 : Int) ≤ (k : Int) / 32 := by omega
      have hq1 : (k : Int) / 32 < (bl.length : Int) := by omega
      go_wp2_with fail
      with_reducible refine (HT.out _).mono ?_
      rintro e w1 ⟨rfl, hb1⟩
      have hbw := hb.trans (hb1.mono hsz)
      have hsz1 := hbw.size
      have hown1 : OwnP (w1.alloc (.cells #[.int .i64 (s : Int), str d] 117)) w.heap.size _ acc := World.ownsRow.alloc (hown.kept (grown_of_below' hb1 none) (by cases hv : Value.ownBlock _ <;> simp)) _
      obtain ⟨x0, x1⟩ := cells2 w1 (.int .i64 (s : Int)) (str d) 117
      obtain ⟨v', W4, hap, hown4, hB4, -, -, -⟩ := append_put _ w.heap.size w.heap.size _ acc ((s : Int), d) hown1 w1.heap.size 1 x0 x1 (by omega) (by simp; omega) (by simp; omega) (fun k hk => (hown1.lt k hk).1)
      obtain ⟨A3, c3, rfl, -⟩ := hown.puts
      rw [hcal] at hap ⊢
      have hwrap : wrap64 (s : Int) = (s : Int) := IntWalk.wrap64_in _ (by omega)
      have HF := Lib.hid hown4
      have HB := Lib.hid ((hbw.alloc hsz1 (.cells #[.int .i64 (s : Int), str d] 117)).trans hB4)
      clear hown4 hB4 hown1 hown x0 x1 hd1 hd2 HT
      go_wp2_with fail
      go_roundw
      case rel => exact ⟨k + 1, by omega, by simp, by rw [HTS.out]; exact HF.out, HB.out⟩
      case measure => simp [Go.RowKit.intOf]; omega
    · obtain rfl : k = l.length := by omega
      rw [List.take_length] at hown
      go_wp2_with fail
      go_ret
      exact ⟨_, rfl, hown, hb⟩
end Go.Proofs.YtnfiapjdkjbdhaaGreat
/- Layer 4 (journal): what was kept; a journal is opened. -/
namespace Go.Proofs.YtnfiapjdkjbdhaaGreat
open Go.RowKit Go.Maps
set_option linter.unusedVariables false
set_option linter.unusedSimpArgs false
set_option maxRecDepth 10000
set_option maxHeartbeats 2000000 in
/-- The transaction that lies in the area. -/
theorem kept_any {S : Nat → Prop} {W : World} {b : Nat} {M : Dv} (jb F n rec : Nat) (l : PutL) (h : DevAt S W b M) (hj : JAt W jb b F n rec) (hdn : M.down = false) (hw : M.wr ≤ 1099511627776)
    (hT : Tr M.n F n l) (h4 : 4 ≤ n) (h256 : n ≤ 256) (hcap : l.length ≤ capL n) (hwhy : whyL M.n F n (castL l) = 0) (hbody : ∀ k (hk : k < (bodyL l).length), M.cur (F + 1 + k) = (bodyL l)[k]) :
    Calls Tryz.prog 82 #[devp jb, .int .i64 (l.length : Int)] W fun e w' => ∃ v', e = .returned v' ∧ Puts w' v' (castL l) ∧ (∀ k, v'.ownBlock = some k → W.heap.size ≤ k ∧ k < w'.heap.size) ∧ Below W.heap.size W w' := by
  have hfine := h.fine.n
  have harea := hT.area
  have hfits := hT.fits
  have hll := hT.len
  have hbl := bodyL_length l
  have HMX := Lib.hid (max_any jb b F n rec W hj h4 h256)
  have HBS := Lib.hid (bodySize_any l.length W (by omega))
  have HD := Lib.hid h
  have HJ := Lib.hid hj
  have HBY := Lib.hid hbody
  have hn16 : ∀ p ∈ l, p.1 < 65536 := fun p hp => by have := (hT.ok p hp).1; omega
  have h64 : ∀ p ∈ l, p.2.length = 64 := fun p hp => (hT.ok p hp).2
  have HRB0 := Lib.hid fun base sv w (h : OwnT w base sv []) => readBody_none base sv w h
  have HRB := Lib.hid fun base sv w (h : OwnT w base sv (bodyL l)) (hne : l ≠ []) => readBody_any base sv l w h hll hn16 h64 hne
  have HJO := Lib.hid (show JOn W jb b F n rec M.n from by obtain ⟨g, c, m, vals, hI⟩ := h; exact ⟨hj, g, c, hI.head.c2⟩)
  have hpl : ∀ p ∈ castL l, p.2.length ≤ 140737488351232 := fun p hp => by
    obtain ⟨q, hq, rfl⟩ := List.mem_map.1 hp
    have := h64 q hq
    show q.2.length ≤ _
    omega
  have HPL := Lib.hid hpl
  have hcapI : decide ((capL n : Int) < (l.length : Int)) = false := decide_eq_false (by omega)
  have hblI : ((l.length : Int) + 31) / 32 + (l.length : Int) = ((bodyL l).length : Int) := by rw [hbl]; omega
  rw [hblI] at HBS
  generalize capL n = q at *
  have hb8 : (bodyL l).length ≤ 8192 := by rw [hbl]; omega
  have hbF : F + 1 + (bodyL l).length ≤ M.n := by rw [hbl]; omega
  have hcl := castL_length l
  clear h hj hbody hn16 h64 hpl hblI hbl
  generalize hBB : bodyL l = bl at *
  have HBB := Lib.hid hBB
  clear hBB
  go_enter Tryz.func82, Tryz.ntmps82
  go_wp2_with fail
  refine HMX.out.mono ?_
  rintro e w1 ⟨rfl, rfl⟩
  go_wp2_with fail
  refine HBS.out.mono ?_
  rintro e w1 ⟨rfl, rfl⟩
  clear HMX HBS
  go_wp2_with fail
  go_loopw [5, 16] (fun v i wr => ∃ k : Nat, k ≤ bl.length ∧ i = .int .i64 k ∧ OwnT wr W.heap.size v (bl.take k) ∧ Below W.heap.size W wr) (fun _ i _ => bl.length - (Go.RowKit.intOf i).toNat)
  case atStart => exact ⟨0, Nat.zero_le _, rfl, World.ownsRow_nil _ _ _ _, Below.refl _ _⟩
  case round =>
    obtain ⟨k, hk, rfl, hown, hb⟩ := hrel
    by_cases hlt : k < bl.length
    · have hR := fun W' (hb2 : Below W.heap.size W W') => read_any (HD.out.below hb2) hdn hw (F + 1 + k) (by omega)
      have hci : ((F + 1 + k : Nat) : Int) = (F : Int) + 1 + (k : Int) := by omega
      rw [hci, HBY.out k hlt] at hR
      have HR := Lib.hid hR
      have hts : bl.take (k + 1) = bl.take k ++ [bl[k]] := List.take_succ_eq_append_getElem hlt
      have hcal : (bl.take k).length = k := by rw [List.length_take]; omega
      have HTS := Lib.hid hts
      clear hR hts hci
      generalize bl[k] = s at *
      generalize bl.take k = acc at *
      have hsz := hb.size
      have B := Lib.hid (hb.trans ((Below.refl W.heap.size wr).drew))
      obtain ⟨d0, d1⟩ := HJ.out.up B.out
      have HOWN := Lib.hid hown
      clear hown
      have hw1 : IntKind.i64.wrap ((F : Int) + 1) = (F : Int) + 1 := IntWalk.i64_in _ (by omega)
      have hw2 : IntKind.i64.wrap ((F : Int) + 1 + (k : Int)) = (F : Int) + 1 + (k : Int) := IntWalk.i64_in _ (by omega)
      go_wp2_with fail
      go_region_held3 (fun W' => W'.cell? ⟨jb, 0, none⟩ = some (devp b) ∧ W'.cell? ⟨jb, 1, none⟩ = some (.int .i64 (F : Int)))
        (exact ⟨d0, d1⟩)
        (first | (go_at_call 133; ((with_reducible refine (HR.out _ B.out).mono ?_); rintro e w4 ⟨rfl, hb4⟩; have HB4 := Lib.hid ((Below.refl wr.heap.size wr).drew.trans hb4); have B := Lib.hid (B.out.trans (hb4.mono hsz)); obtain ⟨d0, d1⟩ := HJ.out.up B.out)))
      have hown4 : OwnT w4 W.heap.size _ acc := HOWN.out.kept (grown_of_below' HB4.out none) (by cases hv : Value.ownBlock _ <;> simp)
      have hsz4 := B.out.size
      obtain ⟨v', W5, hap, hown5, hg5, -⟩ := append_txt (w4.alloc (.cells #[str s] 9)) W.heap.size _ acc s (World.ownsRow.alloc hown4 _) w4.heap.size 1 (cell_new_l w4 _ _) (by omega) (by simp; omega)
      have hB5 : Below W.heap.size W W5 := (B.out.alloc hsz4 _).grown hg5 (by simp; omega) (fun k hk => (hown4.lt k hk).1)
      have HF := Lib.hid hown5
      have HB := Lib.hid hB5
      clear hown5 hB5 hg5 hown4 d0 d1
      go_wp2_with fail
      go_roundw
      case rel => exact ⟨k + 1, by omega, by simp, by rw [HTS.out]; exact HF.out, HB.out⟩
      case measure => simp [Go.RowKit.intOf]; omega
    · obtain rfl : k = bl.length := by omega
      rw [List.take_length] at hown
      have HOWN := Lib.hid hown
      have HW := Lib.hid hwhy
      clear hown hwhy
      by_cases hne : l = []
      · subst hne
        have hb0 : bl = [] := by rw [← HBB.out]; rfl
        subst hb0
        have HR := Lib.hid (HRB0.out _ _ _ HOWN.out)
        go_wp2_with fail
        refine HR.out.mono ?_
        rintro e w1 ⟨rfl, rfl⟩
        have hpn : Puts wr (.slice none 0 0) [] := ⟨none, 0, rfl, fun j p hj => by simp at hj⟩
        have HREF := Lib.hid (refusal_any jb b F n rec M.n (.slice none 0 0) [] wr (HJO.out.below hb) hpn (by simp) (fun p hp => by cases hp) (by omega) h4 h256 hfine)
        have hz : whyL M.n F n [] = 0 := HW.out
        rw [hz] at HREF
        go_wp2_with fail
        refine HREF.out.mono ?_
        rintro e w2 ⟨rfl, hb2⟩
        have HB := Lib.hid (hb.trans (hb2.mono hb.size))
        clear HREF HR hpn
        go_wp2_with fail
        go_ret
        exact ⟨_, rfl, ⟨none, 0, rfl, fun j p hj => by simp [castL] at hj⟩, (fun k hk => by cases hk), HB.out⟩
      · have HR := Lib.hid (HRB.out _ _ _ HOWN.out hne)
        go_wp2_with fail
        refine HR.out.mono ?_
        rintro e w1 ⟨v', rfl, hown1, hb1⟩
        have hbw := hb.trans (hb1.mono hb.size)
        have HREF := Lib.hid (refusal_any jb b F n rec M.n v' (castL l) w1 (HJO.out.below hbw) hown1.puts (by rw [hcl]; unfold maxLen; omega) HPL.out (by omega) h4 h256 hfine)
        rw [HW.out] at HREF
        have HP := Lib.hid hown1
        clear hown1 HR
        go_wp2_with fail
        refine HREF.out.mono ?_
        rintro e w2 ⟨rfl, hb2⟩
        have HB := Lib.hid (hbw.trans (hb2.mono hbw.size))
        have HS := Lib.hid hb2.size
        have HP2 := Lib.hid (HP.out.puts.below hb2)
        have hs1 := hb.size
        clear HREF
        go_wp2_with fail
        go_ret
        exact ⟨_, rfl, HP2.out, fun k hk => ⟨by have := (HP.out.lt k hk).1; omega, by have := (HP.out.lt k hk).2; have := HS.out; omega⟩, HB.out⟩
end Go.Proofs.YtnfiapjdkjbdhaaGreat
/- Layer 4 (journal): a journal is opened. -/
namespace Go.Proofs.YtnfiapjdkjbdhaaGreat
open Go.RowKit Go.Maps
set_option linter.unusedVariables false
set_option linter.unusedSimpArgs false
set_option maxRecDepth 10000
theorem cells4 {W : World} {jb b F n : Nat} (h : W.heap[jb]? = some (.cells #[devp b, .int .i64 (F : Int), .int .i64 (n : Int), .int .i64 0] 152 (0, 0))) : JAt W jb b F n 0 := by
  refine ⟨?_, ?_, ?_, ?_⟩ <;> (unfold World.cell?; rw [h]; rfl)
set_option maxHeartbeats 1000000 in
/-- Where nothing is to be recovered. -/
theorem jopen_clean {K : Nat → Prop} {W : World} {b : Nat} {M : Dv} (h : Held K W W b M) (F n : Nat) (h4 : 4 ≤ n) (h256 : n ≤ 256) (hF : F + n ≤ M.n) (hdn : M.down = false) (hw : M.wr ≤ 1099511627776) (hp : (hd (M.cur F)).pend = false) :
    Calls Tryz.prog 39 #[devp b, .int .i64 (F : Int), .int .i64 (n : Int)] W fun e w' => ∃ jb, e = .returned (.tuple #[devp jb, .int .i64 0]) ∧ W.heap.size ≤ jb ∧ JAt w' jb b F n 0 ∧ Below W.heap.size W w' ∧ Held (fun k => K k ∨ k = jb) w' w' b M := by
  have hn := h.fine.n
  have HL := Lib.hid (held_len h)
  have hD := held_down h
  rw [hdn] at hD
  have HD := Lib.hid hD
  have HH := Lib.hid h
  clear hD
  -- the journal
  obtain ⟨V, hV⟩ : ∃ V, V = W.alloc (.cells #[devp b, .int .i64 (F : Int), .int .i64 (n : Int), .int .i64 0] 152) := ⟨_, rfl⟩
  have hVb : Below W.heap.size W V := by rw [hV]; exact (Below.refl _ _).alloc (Nat.le_refl _) _
  have hVs : V.heap.size = W.heap.size + 1 := by rw [hV]; simp
  have hjat : JAt V W.heap.size b F n 0 := cells4 (by rw [hV]; exact heap_alloc_new W _)
  have hhead : Calls Tryz.prog 81 #[devp W.heap.size] V fun e w' => e = .returned (hdV (M.headOf F)) ∧ Below V.heap.size V w' := by
    obtain ⟨h1, S, h3, _⟩ := h
    exact head_any W.heap.size F n 0 (h3.below hVb) hjat (by omega) hw
  have hpd : (M.headOf F).pend = false := by unfold Dv.headOf; rw [hdn, if_neg (by simp)]; exact hp
  have HHD := Lib.hid hhead
  have HJ := Lib.hid hjat
  clear h hhead hjat hp hdn
  generalize M.headOf F = x at *
  obtain ⟨g, p, c⟩ := x
  simp only at hpd
  subst hpd
  unfold hdV at HHD
  simp only at HHD
  have hfin : ∀ w', Below V.heap.size V w' → W.heap.size ≤ W.heap.size ∧ JAt w' W.heap.size b F n 0 ∧ Below W.heap.size W w' ∧ Held (fun k => K k ∨ k = W.heap.size) w' w' b M := fun w' hb => by
    have hbw := hVb.trans (hb.mono (by omega))
    exact ⟨Nat.le_refl _, HJ.out.below hb, hbw, HH.out.more hbw fun k hk => by
      rcases hk with hk | hk
      · exact .inl hk
      · have := hb.size; exact .inr (by omega)⟩
  have HF := Lib.hid hfin
  clear hfin
  generalize hN : M.n = N at *
  have e1 : decide ((n : Int) < 4) = false := decide_eq_false (by omega)
  have e2 : decide (256 < (n : Int)) = false := decide_eq_false (by omega)
  have e4 : decide ((N : Int) - (n : Int) < (F : Int)) = false := decide_eq_false (by omega)
  go_enter Tryz.func39, Tryz.ntmps39
  go_wp2_with fail
  refine HL.out.mono ?_
  rintro e w1 ⟨rfl, rfl⟩
  go_wp2_with fail
  refine HD.out.mono ?_
  rintro e w1 ⟨rfl, rfl⟩
  go_wp2_with fail
  rw [← hV]
  clear hV
  refine HHD.out.mono ?_
  rintro e w1 ⟨rfl, hb1⟩
  have hB2 := Lib.hid (hb1.alloc hb1.size (.cells #[.int .u64 (g : Int), .bool false, .int .i64 (c : Int)] 154))
  obtain ⟨x0, x1, x2⟩ := row3 (heap_alloc_new w1 (.cells #[.int .u64 (g : Int), .bool false, .int .i64 (c : Int)] 154))
  go_wp2_with fail
  go_ret2
  exact ⟨_, rfl, HF.out _ hB2.out⟩
end Go.Proofs.YtnfiapjdkjbdhaaGreat
/- Layer 4 (journal): a journal is opened, and something is recovered. -/
namespace Go.Proofs.YtnfiapjdkjbdhaaGreat
open Go.RowKit Go.Maps
set_option linter.unusedVariables false
set_option linter.unusedSimpArgs false
set_option maxRecDepth 10000
theorem held_set {K K' : Nat → Prop} {w W : World} {b : Nat} {M : Dv} (h : Held K w W b M) (a : Addr) (v : Value) (ha : K a.block) (hK : ∀ k, K' k → K k) : Held K' (W.setCell a v) (W.setCell a v) b M := by
  obtain ⟨h1, S, h3, h4⟩ := h
  have hne : ∀ k, S k → k ≠ a.block := fun k hk e => h4 k hk (e ▸ ha)
  have hs : (W.setCell a v).heap.size = W.heap.size := by simp [World.setCell]
  refine ⟨.refl fun k hk => ?_, S, h3.kept (by rw [hs]; exact Nat.le_refl _) (fun k hk => Below.heap_setCell W a v k (hne k hk)), fun k hk hk' => h4 k hk (hK k hk')⟩
  rw [hs]
  exact Nat.lt_of_lt_of_le (h1.lt k (hK k hk)) h1.size
theorem keeps_set {K : Nat → Prop} {w W : World} (h : Keeps K w W) (a : Addr) (v : Value) (ha : ¬ K a.block) : Keeps K w (W.setCell a v) :=
  ⟨h.lt, h.os, h.tape, h.output, by simp [World.setCell]; exact h.size, fun k hk => (Below.heap_setCell W a v k (fun e => ha (e ▸ hk))).trans (h.same k hk)⟩
theorem far2 {W : World} {q : Addr} {v a c : Value} {g : Nat} (h : W.cell? q = some v) (hg : g ≠ q.block) : ((W.setCell ⟨g, 0, none⟩ a).setCell ⟨g, 1, none⟩ c).cell? q = some v := by
  rw [World.cell?_setCell_far _ _ _ _ hg, World.cell?_setCell_far _ _ _ _ hg]
  exact h
theorem set2 {W : World} {g : Nat} {a b : Value} {t : TypeId} (h : W.heap[g]? = some (.cells #[a, b] t (0, 0))) (x y : Value) :
    ((W.setCell ⟨g, 0, none⟩ x).setCell ⟨g, 1, none⟩ y).heap[g]? = some (.cells #[x, y] t (0, 0)) :=
  heap_setCell_same _ g 1 _ t y (heap_setCell_same W g 0 _ t x h)
theorem frz2 {W : World} {g : Nat} {a b : Value} {t : TypeId} (h : W.heap[g]? = some (.cells #[a, b] t (0, 0))) : W.frozen? ⟨g, 0, none⟩ = false ∧ W.frozen? ⟨g, 1, none⟩ = false := ⟨frozen_of_row W _ 0 _ t h, frozen_of_row W _ 1 _ t h⟩
theorem jat_set {W : World} {jb b F n m : Nat} (h : W.heap[jb]? = some (.cells #[devp b, .int .i64 (F : Int), .int .i64 (n : Int), .int .i64 0] 152 (0, 0))) : JAt (W.setCell ⟨jb, 3, none⟩ (.int .i64 (m : Int))) jb b F n m := by
  have h2 : (W.setCell ⟨jb, 3, none⟩ (.int .i64 (m : Int))).heap[jb]? = some (.cells #[devp b, .int .i64 (F : Int), .int .i64 (n : Int), .int .i64 (m : Int)] 152 (0, 0)) := heap_setCell_same W jb 3 _ _ _ h
  refine ⟨?_, ?_, ?_, ?_⟩ <;> (unfold World.cell?; rw [h2]; rfl)
theorem redo_ok {K : Nat → Prop} {w : World} (jb b F n rec g : Nat) (v : Value) (l : PutL) (hj : JAt w jb b F n rec) (hKj : K jb) (hv : Puts w v (castL l)) (hKv : ∀ k, v.ownBlock = some k → K k) (hg : g < 18446744073709551616) :
    StepOk K w jb (txV g v) 147 l ∧ StepOk K w jb (txV g v) 148 (markP F g 0 0) := by
  obtain ⟨A, c, rfl, hc⟩ := hv
  refine ⟨⟨enters_of Tryz.func147 (by kernel_rfl) rfl, fun W hW => ?_⟩, ⟨enters_of Tryz.func148 (by kernel_rfl) rfl, fun W hW => ?_⟩⟩
  · refine (place_any jb g A _ c).mono ?_
    rintro e w' ⟨rfl, hb⟩
    have hp : Puts W (.slice A (castL l).length c) (castL l) := Puts.kept ⟨A, c, rfl, hc⟩ fun k hk => hW.same k (hKv k hk)
    exact ⟨_, rfl, hp.below hb, fun k hk => .inl (hKv k hk), hb⟩
  · refine (end_any jb b F n rec g A _ c (hj.kept (hW.same jb hKj)) hg).mono ?_
    rintro e w' ⟨v', rfl, hp, hf, hb⟩
    exact ⟨_, rfl, hp, fun k hk => .inr (hf k hk), hb⟩
set_option maxHeartbeats 4000000 in
/-- Where a transaction is committed, and not done. -/
theorem jopen_redo {K : Nat → Prop} {W : World} {b : Nat} {M : Dv} (h : Held K W W b M) (F n g : Nat) (l : PutL) (h4 : 4 ≤ n) (h256 : n ≤ 256) (hdn : M.down = false) (hw : M.wr + 8192 ≤ 1099511627776)
    (hT : Tr M.n F n l) (hcap : l.length ≤ capL n) (hwhy : whyL M.n F n (castL l) = 0) (hhd : hd (M.cur F) = ⟨g, true, l.length⟩) (hbody : ∀ k (hk : k < (bodyL l).length), M.cur (F + 1 + k) = (bodyL l)[k]) :
    Calls Tryz.prog 39 #[devp b, .int .i64 (F : Int), .int .i64 (n : Int)] W fun e w' =>
      ((M.runD (redoP F g l)).down = true ∧ e = .returned (.tuple #[.pointer none, .int .i64 30]) ∧ Held K W w' b (M.runD (redoP F g l))) ∨
      ((M.runD (redoP F g l)).down = false ∧ ∃ jb, e = .returned (.tuple #[devp jb, .int .i64 0]) ∧ W.heap.size ≤ jb ∧ JAt w' jb b F n l.length ∧ Keeps K W w' ∧ Held (fun k => K k ∨ k = jb) w' w' b (M.runD (redoP F g l))) := by
  have hn := h.fine.n
  have hg : g < 18446744073709551616 := by have := hd_gen_lt (M.cur F); rw [hhd] at this; exact this
  have hF := hT.area
  have hfits := hT.fits
  have hll := hT.len
  have HL := Lib.hid (held_len h)
  have hD := held_down h
  rw [hdn] at hD
  have HD := Lib.hid hD
  have HH := Lib.hid h
  have HT := Lib.hid hT
  clear hD
  -- the journal
  obtain ⟨V, hV⟩ : ∃ V, V = W.alloc (.cells #[devp b, .int .i64 (F : Int), .int .i64 (n : Int), .int .i64 0] 152) := ⟨_, rfl⟩
  have hVb : Below W.heap.size W V := by rw [hV]; exact (Below.refl _ _).alloc (Nat.le_refl _) _
  have hVs : V.heap.size = W.heap.size + 1 := by rw [hV]; simp
  have hVn : V.heap[W.heap.size]? = some (.cells #[devp b, .int .i64 (F : Int), .int .i64 (n : Int), .int .i64 0] 152 (0, 0)) := by rw [hV]; exact heap_alloc_new W _
  have hjat : JAt V W.heap.size b F n 0 := cells4 hVn
  have hhead : Calls Tryz.prog 81 #[devp W.heap.size] V fun e w' => e = .returned (hdV ⟨g, true, l.length⟩) ∧ Below V.heap.size V w' := by
    obtain ⟨h1, S, h3, _⟩ := h
    have := head_any W.heap.size F n 0 (h3.below hVb) hjat (by omega) (by omega)
    unfold Dv.headOf at this
    rwa [hdn, if_neg (by simp), hhd] at this
  have hkept : ∀ W', Below V.heap.size V W' → Calls Tryz.prog 82 #[devp W.heap.size, .int .i64 (l.length : Int)] W' fun e w' => ∃ A c, e = .returned (.slice A l.length c) ∧ Puts w' (.slice A l.length c) (castL l) ∧ (∀ k, (Value.slice A l.length c).ownBlock = some k → W'.heap.size ≤ k ∧ k < w'.heap.size) ∧ Below W'.heap.size W' w' := fun W' hb => by
    obtain ⟨h1, S, h3, _⟩ := h
    refine Calls.mono (?_ : Calls _ _ _ _ fun e w' => ∃ v', e = .returned v' ∧ Puts w' v' (castL l) ∧ (∀ k, v'.ownBlock = some k → W'.heap.size ≤ k ∧ k < w'.heap.size) ∧ Below W'.heap.size W' w') fun e w' hx => by
      obtain ⟨v', he, hp, hf, hb⟩ := hx
      have hp2 := hp
      obtain ⟨A, c, hv, _⟩ := hp2
      rw [castL_length] at hv
      subst hv
      exact ⟨A, c, he, hp, hf, hb⟩
    exact kept_any W.heap.size F n 0 l ((h3.below hVb).below hb) (hjat.below hb) hdn (by omega) hT h4 h256 hcap hwhy hbody
  have HHD := Lib.hid hhead
  have HKP := Lib.hid hkept
  have HJ := Lib.hid hjat
  clear h hhead hjat hkept hhd hbody hwhy
  unfold hdV at HHD
  simp only at HHD
  have hcl := castL_length l
  generalize hN : M.n = N at *
  have e1 : decide ((n : Int) < 4) = false := decide_eq_false (by omega)
  have e2 : decide (256 < (n : Int)) = false := decide_eq_false (by omega)
  have e4 : decide ((N : Int) - (n : Int) < (F : Int)) = false := decide_eq_false (by omega)
  go_enter Tryz.func39, Tryz.ntmps39
  go_wp2_with fail
  refine HL.out.mono ?_
  rintro e w1 ⟨rfl, rfl⟩
  go_wp2_with fail
  refine HD.out.mono ?_
  rintro e w1 ⟨rfl, rfl⟩
  go_wp2_with fail
  rw [← hV]
  clear hV
  refine HHD.out.mono ?_
  rintro e w1 ⟨rfl, hb1⟩
  obtain ⟨X, hX⟩ : ∃ X, X = w1.alloc (.cells #[.int .u64 (g : Int), .bool true, .int .i64 (l.length : Int)] 154) := ⟨_, rfl⟩
  have hXn : X.heap[w1.heap.size]? = some (.cells #[.int .u64 (g : Int), .bool true, .int .i64 (l.length : Int)] 154 (0, 0)) := by rw [hX]; exact heap_alloc_new w1 _
  have hXs : X.heap.size = w1.heap.size + 1 := by rw [hX]; simp
  have hB2 : Below V.heap.size V X := by rw [hX]; exact hb1.alloc hb1.size _
  obtain ⟨x0, x1, x2⟩ := row3 hXn
  have hXX : w1.alloc (.cells #[.int .u64 (g : Int), .bool true, .int .i64 (l.length : Int)] 154) = X := hX.symm
  clear hX HHD HL HD
  go_wp2_with fail
  have hs1 := hb1.size
  clear hXX
  obtain ⟨Y, hY⟩ : ∃ Y, Y = X.alloc (.cells #[.int .u64 0, .slice none 0 0] 158) := ⟨_, rfl⟩
  have hYn : Y.heap[X.heap.size]? = some (.cells #[.int .u64 0, .slice none 0 0] 158 (0, 0)) := by rw [hY]; exact heap_alloc_new X _
  have hYs : Y.heap.size = X.heap.size + 1 := by rw [hY]; simp
  have hXY : Below X.heap.size X Y := by rw [hY]; exact (Below.refl _ _).alloc (Nat.le_refl _) _
  have hYX : Y.heap[w1.heap.size]? = some (.cells #[.int .u64 (g : Int), .bool true, .int .i64 (l.length : Int)] 154 (0, 0)) := (hXY.block _ (by omega)).trans hXn
  rw [hXs] at hYn
  have B1 := Lib.hid (hB2.trans (Below.refl V.heap.size X).drew)
  have B2 := Lib.hid ((hB2.trans (hXY.mono (by omega))).trans (Below.refl V.heap.size Y).drew)
  have HYN := Lib.hid (show Y.drew.heap[w1.heap.size + 1]? = _ from hYn)
  obtain ⟨x0, x1, x2⟩ := row3 (show X.drew.heap[w1.heap.size]? = _ from hXn)
  obtain ⟨y0, y1, y2⟩ := row3 (show Y.drew.heap[w1.heap.size]? = _ from hYX)
  have HXN := Lib.hid (show X.drew.heap[w1.heap.size]? = _ from hXn)
  have HYX := Lib.hid (show Y.drew.heap[w1.heap.size]? = _ from hYX)
  have hXd : w1.heap.size < X.drew.heap.size := by show _ < X.heap.size; omega
  have hYd : w1.heap.size + 1 < Y.drew.heap.size := by show _ < Y.heap.size; omega
  have hYZ : X.alloc (.cells #[.int .u64 0, .slice none 0 0] 158) = Y := hY.symm
  clear hY hYn hYX hXn hXY
  have H1 := Lib.hid (HKP.out _ B1.out)
  have H2 := Lib.hid (HKP.out _ B2.out)
  go_region_held3 (fun W' => W'.cell? ⟨w1.heap.size, 0, none⟩ = some (.int .u64 (g : Int)) ∧ W'.cell? ⟨w1.heap.size, 2, none⟩ = some (.int .i64 (l.length : Int)))
    (first | exact ⟨x0, x2⟩ | exact ⟨y0, y2⟩ | exact ⟨z0, z2⟩ | exact ⟨up1 z0, up1 z2⟩ | exact ⟨far2 z0 (by simp), far2 z2 (by simp)⟩ | exact ⟨far2 z0 (by simp; omega), far2 z2 (by simp; omega)⟩)
    (first | (go_at_call 82; (first
      | (with_reducible refine H1.out.mono ?_; rintro e w3 ⟨A3, c3, rfl, hpv, hfv, hb3⟩; obtain ⟨z0, z1, z2⟩ := row3 ((hb3.block w1.heap.size (by omega)).trans HXN.out))
      | (with_reducible refine H2.out.mono ?_; rintro e w3 ⟨A3, c3, rfl, hpv, hfv, hb3⟩; obtain ⟨z0, z1, z2⟩ := row3 ((hb3.block w1.heap.size (by omega)).trans HYX.out); have hzn := (hb3.block (w1.heap.size + 1) hYd).trans HYN.out; obtain ⟨t0, t1⟩ := cells_two hzn; obtain ⟨t2, t3⟩ := frz2 hzn))))
  all_goals clear H1 H2 hYZ
  all_goals first
    | (have PZ : Puts ((w3.setCell ⟨w1.heap.size + 1, 0, none⟩ (.int .u64 (g : Int))).setCell ⟨w1.heap.size + 1, 1, none⟩ (.slice A3 l.length c3)) (.slice A3 l.length c3) (castL l) := hpv.kept fun k hk => by
         have h5 := (hfv k hk).1
         have h6 : Y.drew.heap.size = Y.heap.size := rfl
         rw [Below.heap_setCell _ _ _ _ (show k ≠ w1.heap.size + 1 by omega), Below.heap_setCell _ _ _ _ (show k ≠ w1.heap.size + 1 by omega)]
       have FZ : ∀ k, (Value.slice A3 l.length c3).ownBlock = some k → V.heap.size ≤ k ∧ k < ((w3.setCell ⟨w1.heap.size + 1, 0, none⟩ (.int .u64 (g : Int))).setCell ⟨w1.heap.size + 1, 1, none⟩ (.slice A3 l.length c3)).heap.size := fun k hk => by
         have h5 := hfv k hk
         have h6 : Y.drew.heap.size = Y.heap.size := rfl
         simp only [World.size_setCell]
         omega
       have BZ := ((B2.out.trans (hb3.mono (by show V.heap.size ≤ Y.heap.size; omega))).setCell (p := ⟨w1.heap.size + 1, 0, none⟩) (show V.heap.size ≤ w1.heap.size + 1 by omega) (.int .u64 (g : Int))).setCell (p := ⟨w1.heap.size + 1, 1, none⟩) (show V.heap.size ≤ w1.heap.size + 1 by omega) (.slice A3 l.length c3)
       have ZN := set2 hzn (.int .u64 (g : Int)) (.slice A3 l.length c3)
       have hTB : V.heap.size ≤ w1.heap.size + 1 := by omega
       clear x0 x1 x2 y0 y1 y2 z0 z1 z2 hzn t0 t1 t2 t3 hb3 hpv hfv B1 B2 hYd
       generalize ((w3.setCell ⟨w1.heap.size + 1, 0, none⟩ (.int .u64 (g : Int))).setCell ⟨w1.heap.size + 1, 1, none⟩ (.slice A3 l.length c3)) = Z at *
       generalize w1.heap.size + 1 = tb at *)
    | (have PZ : Puts (w3.alloc (.cells #[.int .u64 (g : Int), .slice A3 l.length c3] 158)) (.slice A3 l.length c3) (castL l) := hpv.below ((Below.refl _ _).alloc (Nat.le_refl _) _)
       have FZ : ∀ k, (Value.slice A3 l.length c3).ownBlock = some k → V.heap.size ≤ k ∧ k < (w3.alloc (.cells #[.int .u64 (g : Int), .slice A3 l.length c3] 158)).heap.size := fun k hk => by
         have h5 := hfv k hk
         have h6 : X.drew.heap.size = X.heap.size := rfl
         simp
         omega
       have BY := B1.out.trans (hb3.mono (by show V.heap.size ≤ X.heap.size; omega))
       have BZ := BY.alloc BY.size (.cells #[.int .u64 (g : Int), .slice A3 l.length c3] 158)
       have ZN := heap_alloc_new w3 (.cells #[.int .u64 (g : Int), .slice A3 l.length c3] 158)
       have hTB : V.heap.size ≤ w3.heap.size := BY.size
       clear x0 x1 x2 y0 y1 y2 z0 z1 z2 hb3 hpv hfv B1 B2 BY
       generalize w3.alloc (.cells #[.int .u64 (g : Int), .slice A3 l.length c3] 158) = Z at *
       generalize w3.heap.size = tb at *)
  all_goals
    have hTZ : tb < Z.heap.size := (Array.getElem?_eq_some_iff.1 ZN).1
    obtain ⟨U, hU⟩ : ∃ U, U = Z.drew.alloc (.cells #[meth 147 W.heap.size, meth 148 W.heap.size] 233) := ⟨_, rfl⟩
    have hUb : Below Z.heap.size Z U := by rw [hU]; exact (Below.refl Z.heap.size Z).drew.alloc (Nat.le_refl _) _
    have hUs : U.heap.size = Z.heap.size + 1 := by rw [hU]; simp
    have hUn : U.heap[Z.heap.size]? = some (.cells #[meth 147 W.heap.size, meth 148 W.heap.size] 233 (0, 0)) := by rw [hU]; exact heap_alloc_new Z.drew _
    have hzs := BZ.size
    have BU : Below V.heap.size V U := BZ.trans (hUb.mono hzs)
    have BWU : Below W.heap.size W U := hVb.trans (BU.mono (by omega))
    obtain ⟨K3, hK3⟩ : ∃ K3 : Nat → Prop, K3 = fun k => K k ∨ k = W.heap.size ∨ k = tb ∨ (Value.slice A3 l.length c3).ownBlock = some k ∨ k = Z.heap.size := ⟨_, rfl⟩
    have hHU : Held K3 U U b M := HH.out.more BWU fun k hk => by
      rw [hK3] at hk
      rcases hk with hk | hk | hk | hk | hk
      · exact .inl hk
      · exact .inr (by omega)
      · exact .inr (by omega)
      · exact .inr (by have := FZ k hk; omega)
      · exact .inr (by omega)
    have k3K : ∀ k, K k → K3 k := fun k hk => by rw [hK3]; exact .inl hk
    have k3j : K3 W.heap.size := by rw [hK3]; exact .inr (.inl rfl)
    have k3t : K3 tb := by rw [hK3]; exact .inr (.inr (.inl rfl))
    have k3v : ∀ k, (Value.slice A3 l.length c3).ownBlock = some k → K3 k := fun k hk => by rw [hK3]; exact .inr (.inr (.inr (.inl hk)))
    have k3s : K3 Z.heap.size := by rw [hK3]; exact .inr (.inr (.inr (.inr rfl)))
    have hjU : JAt U W.heap.size b F n 0 := HJ.out.below BU
    have hjUn := (BU.block W.heap.size (by omega)).trans hVn
    have hTU := (hUb.block tb hTZ).trans ZN
    obtain ⟨hs1', hs2'⟩ := redo_ok W.heap.size b F n 0 g (.slice A3 l.length c3) l hjU k3j (PZ.below hUb) k3v hg
    have hrow : Row U (.slice (some ⟨Z.heap.size, 0, none⟩) 2 2) ([147, 148].map fun f => meth f W.heap.size) := by
      obtain ⟨q0, q1⟩ := cells_two hUn
      refine ⟨_, 2, rfl, fun j u hu => ⟨_, rfl, ?_⟩⟩
      match j, hu with
      | 0, hu => simp at hu; subst hu; exact q0
      | 1, hu => simp at hu; subst hu; exact q1
    have hrun := run_any W.heap.size F n 0 g (.slice A3 l.length c3) (.slice (some ⟨Z.heap.size, 0, none⟩) 2 2) [147, 148] (redoP F g l) hHU hjU k3j hrow (fun k hk => by cases hk; exact k3s) rfl (by simp [redoP])
      (fun i h1 h2 => by
        match i, h1, h2 with
        | 0, _, _ => exact hs1'
        | 1, _, _ => exact hs2')
      (by rw [hN]; exact HT.out.redoOk g) (by simp [redoP, markP]; omega) (fun m hm => by simp only [redoP, List.mem_cons, List.not_mem_nil, or_false] at hm; rcases hm with rfl | rfl; omega; simp [markP]) (by simp)
    have hred := redoing_any Z.drew W.heap.size
    rw [← hU] at hred
    have hkU : Keeps K W U := HH.out.keeps.below BWU
    obtain ⟨t0, t1⟩ := cells_two (show Z.drew.heap[tb]? = _ from ZN)
    obtain ⟨u0, u1⟩ := cells_two hTU
    have HRED := Lib.hid hred
    have HTU := Lib.hid hTU
    have HJU := Lib.hid hjUn
    clear hU hred hrow hs1' hs2' hHU hTU hjUn hUn ZN PZ
    cases hdd : (M.runD (redoP F g l)).down
  all_goals
    rw [hdd] at hrun
    first | rw [if_pos rfl] at hrun | rw [if_neg Bool.false_ne_true] at hrun
    have HRUN := Lib.hid hrun
    have HDD := Lib.hid hdd
    clear hrun hdd
    generalize hM2 : M.runD (redoP F g l) = M2 at *
    go_wp2_with fail
    go_region_held3 (fun W' => W'.cell? ⟨tb, 0, none⟩ = some (.int .u64 (g : Int)) ∧ W'.cell? ⟨tb, 1, none⟩ = some (.slice A3 l.length c3))
      (first | exact ⟨t0, t1⟩ | exact ⟨u0, u1⟩ | exact ⟨s0, s1⟩)
      (first
      | (go_at_call 84; (with_reducible refine HRED.out.mono ?_; rintro e w5 ⟨rfl, rfl⟩))
      | (go_at_call 83; (with_reducible refine HRUN.out.mono ?_; rintro e w6 ⟨rfl, hH⟩; obtain ⟨s0, s1⟩ := cells_two ((hH.keeps.same tb k3t).trans HTU.out))))
  all_goals
    have hj6 := (hH.keeps.same W.heap.size k3j).trans HJU.out
    have c3' : w6.cell? ⟨W.heap.size, 3, none⟩ = some (.int .i64 0) := (cells4 hj6).c3
    have f3' : w6.frozen? ⟨W.heap.size, 3, none⟩ = false := frozen_of_row _ _ 3 _ _ hj6
    have HH6 := Lib.hid hH
    have HJ6 := Lib.hid hj6
    clear hH hj6
    go_wp2_with fail
    go_ret2
    subst hM2
    first
      | exact .inl ⟨HDD.out, rfl, HH6.out.back hkU k3K⟩
      | (refine .inr ⟨HDD.out, W.heap.size, rfl, Nat.le_refl _, ?_, ?_, ?_⟩
         · exact jat_set HJ6.out
         · exact keeps_set (hkU.trans HH6.out.keeps k3K) ⟨W.heap.size, 3, none⟩ _ (fun hk => absurd (HH.out.keeps.lt W.heap.size hk) (Nat.lt_irrefl _))
         · exact held_set (K' := fun k => K k ∨ k = W.heap.size) HH6.out ⟨W.heap.size, 3, none⟩ _ k3j (fun k hk => by
             rcases hk with hk | hk
             · exact k3K k hk
             · rw [hk]; exact k3j))
end Go.Proofs.YtnfiapjdkjbdhaaGreat
/- Layer 4 (journal): a commit. -/
namespace Go.Proofs.YtnfiapjdkjbdhaaGreat
open Go.RowKit Go.Maps
set_option linter.unusedVariables false
set_option linter.unusedSimpArgs false
set_option maxRecDepth 10000
def stepAppend (args : Array Value) : Sem Value := Builtin.append_ #[160, 160] 160 args
@[go_sem ↓] theorem step_append_fold (args : Array Value) : Builtin.append_ #[160, 160] 160 args = stepAppend args := rfl
theorem stepInfo : (Tryz.prog.info? 233).map (fun i => (i.zero, i.size, i.bytes)) = some (some .nilFunc, 1, 8) := by kernel_rfl
theorem append_steps (W : World) (base g1 g2 : Nat) (a b c d : Value) (h1 : W.heap[g1]? = some (.cells #[a, b] 233 (0, 0))) (h2 : W.heap[g2]? = some (.cells #[c, d] 233 (0, 0))) (hb1 : base ≤ g1) (hb : base ≤ W.heap.size) (hc : c.oneCell' = true) (hd : d.oneCell' = true) :
    ∃ v' W', (stepAppend #[.slice (some ⟨g1, 0, none⟩) 2 2, .slice (some ⟨g2, 0, none⟩) 2 2]).run Tryz.prog W = .ok v' W' ∧ Row W' v' [a, b, c, d] ∧ Below base W W' ∧ (∀ k, v'.ownBlock = some k → base ≤ k ∧ k < W'.heap.size) := by
  obtain ⟨i, hi, hz, hsz, hby⟩ := info_parts stepInfo
  have hown : W.ownsRow base 233 1 (.slice (some ⟨g1, 0, none⟩) 2 2) 2 [a, b] := ⟨rfl, .inr ⟨g1, 2, #[a, b], rfl, hb1, h1, Nat.le_refl _, by unfold maxLen; omega, rfl, rfl⟩⟩
  obtain ⟨q0, q1⟩ := cells_two h2
  obtain ⟨v', W', hap, hown', hg, _, _⟩ := run_append_own_at (P := Tryz.prog) (w := W) base 160 160 233 i _ 1 8 Tryz.underlying160 hi hz hsz hby rfl (by decide) _ 2 [a, b] hown
    ⟨g2, 0, none⟩ 2 2 [c, d] rfl (fun j u hj => by
      rw [Addr.add_lit]
      match j, hj with
      | 0, hj => simp at hj; subst hj; exact q0
      | 1, hj => simp at hj; subst hj; exact q1) (fun u hu => by simp at hu; rcases hu with rfl | rfl; exact hc; exact hd) (by unfold maxLen; omega) (by omega) hb
  exact ⟨v', W', hap, row_of_own hown', (Below.refl base W).grown hg hb (fun k hk => (hown.lt k hk).1), fun k hk => hown'.lt k hk⟩
theorem commit_steps {K : Nat → Prop} {w : World} (jb b F n rec g base : Nat) (v : Value) (l : PutL) (hj : JAt w jb b F n rec) (hKj : K jb) (hv : OwnP w base v (castL l)) (hKv : ∀ k, v.ownBlock = some k → K k) (hg : g < 18446744073709551616)
    (hl : l.length ≤ 4096) (hn : ∀ p ∈ l, p.1 < 65536) (hF : F ≤ 4096) :
    StepOk K w jb (txV g v) 126 (keepP F l) ∧ StepOk K w jb (txV g v) 127 (markP F g 1 l.length) := by
  have hcl := castL_length l
  have hp := hv.puts
  refine ⟨⟨enters_of Tryz.func126 (by kernel_rfl) rfl, fun W hW => ?_⟩, ⟨enters_of Tryz.func127 (by kernel_rfl) rfl, fun W hW => ?_⟩⟩
  · have hv2 : OwnP W base v (castL l) := by
      refine ⟨hv.1, ?_⟩
      rcases hv.2 with h0 | ⟨gg, cap, cur, rfl, hb, hgg, hr⟩
      · exact .inl h0
      · exact .inr ⟨gg, cap, cur, rfl, hb, (hW.same gg (hKv gg rfl)).trans hgg, hr⟩
    refine (keep_any jb b F n rec g base v l (hj.kept (hW.same jb hKj)) hv2 hl hn hF).mono ?_
    rintro e w' ⟨v', rfl, hp', hf, hb⟩
    exact ⟨_, rfl, hp', fun k hk => .inr (hf k hk), hb⟩
  · have hp2 : Puts W v (castL l) := hp.kept fun k hk => hW.same k (hKv k hk)
    refine (mark_any jb b F n rec g v (castL l) (hj.kept (hW.same jb hKj)) hp2 hg (by omega)).mono ?_
    rintro e w' ⟨v', rfl, hp', hf, hb⟩
    rw [hcl] at hp'
    exact ⟨_, rfl, hp', fun k hk => .inr (hf k hk), hb⟩
end Go.Proofs.YtnfiapjdkjbdhaaGreat
/- Layer 4 (journal): a commit, taken. -/
namespace Go.Proofs.YtnfiapjdkjbdhaaGreat
open Go.RowKit Go.Maps
set_option linter.unusedVariables false
set_option linter.unusedSimpArgs false
set_option maxRecDepth 10000
theorem why_zero {N F n : Nat} {l : PutL} (h : whyL N F n (castL l) = 0) : PutsOk N l ∧ (∀ p ∈ l, p.1 < F ∨ F + n ≤ p.1) ∧ l.length ≤ capL n := by
  unfold whyL at h
  split at h
  · cases h
  rename_i h1
  split at h
  · cases h
  rename_i h2
  split at h
  · cases h
  rename_i h3
  rw [castL_length] at h3
  simp only [Bool.not_eq_true, List.any_eq_false] at h1 h2
  refine ⟨fun p hp => ?_, fun p hp => ?_, by omega⟩
  · have := h1 ((p.1 : Int), p.2) (List.mem_map.2 ⟨p, hp, rfl⟩)
    simp [wrongB] at this
    exact ⟨by omega, this.2⟩
  · have := h2 ((p.1 : Int), p.2) (List.mem_map.2 ⟨p, hp, rfl⟩)
    simp [withinB] at this
    omega
theorem tr_last {N F n : Nat} {l : PutL} (h : whyL N F n (castL l) = 0) (h4 : 4 ≤ n) (hF : F + n ≤ N) (hN : N ≤ 4096) : Tr N F n (lastL l) := by
  obtain ⟨h1, h2, h3⟩ := why_zero h
  have hl := lastL_length l
  refine ⟨lastL_nodup l, fun p hp => h1 p (lastL_mem l p hp), fun p hp => h2 p (lastL_mem l p hp), ?_, hF, hN⟩
  unfold capL at h3
  omega
set_option maxHeartbeats 4000000 in
theorem commit_ok {K : Nat → Prop} {w : World} {b : Nat} {M : Dv} (jb F n rec g : Nat) (v : Value) (l : PutL) (h : Held K w w b M) (hj : JAt w jb b F n rec) (hKj : K jb) (hv : Puts w v (castL l)) (h4 : 4 ≤ n) (h256 : n ≤ 256) (hF : F + n ≤ M.n) (hw : M.wr + 16384 ≤ 1099511627776)
    (hwhy : whyL M.n F n (castL l) = 0) (hgen : M.headOf F = ⟨g, false, (M.headOf F).cnt⟩) (hg : g + 1 < 18446744073709551616) :
    Calls Tryz.prog 63 #[devp jb, v] w fun e w' =>
      e = .returned (.tuple #[.int .u64 (if (M.runD (commitP F (g + 1) (lastL l))).down then 0 else (g : Int) + 1), .int .i64 (if (M.runD (commitP F (g + 1) (lastL l))).down then 30 else 0)]) ∧ Held K w w' b (M.runD (commitP F (g + 1) (lastL l))) := by
  have hn := h.fine.n
  obtain ⟨ho1, ho2, ho3⟩ := why_zero hwhy
  have hT := tr_last hwhy h4 hF hn
  have hll := hT.len
  have hcap : capL n ≤ 256 := by unfold capL; omega
  have hcl := castL_length l
  have hcl2 := castL_length (lastL l)
  have hll2 := lastL_length l
  have hpl : ∀ p ∈ castL l, p.2.length ≤ 140737488351232 := fun p hp => by
    obtain ⟨q, hq, rfl⟩ := List.mem_map.1 hp
    have := (ho1 q hq).2
    show q.2.length ≤ _
    omega
  have hn16 : ∀ p ∈ lastL l, p.1 < 65536 := fun p hp => by have := (hT.ok p hp).1; omega
  have hFn : F < M.n := by omega
  have hrefuse := refusal_any jb b F n rec M.n v (castL l) w (JOn.of h hj) hv (by rw [hcl]; unfold maxLen; omega) hpl (by omega) h4 h256 hn
  rw [hwhy] at hrefuse
  have hhead : ∀ W, Below w.heap.size w W → Calls Tryz.prog 81 #[devp jb] W fun e w' => e = .returned (.agg #[.int .u64 (g : Int), .bool false, .int .i64 ((M.headOf F).cnt : Int)]) ∧ Below W.heap.size W w' := fun W hb => by
    obtain ⟨h1, S, h3, _⟩ := h
    have := head_any jb F n rec (h3.below hb) (hj.below hb) hFn (by omega)
    rw [hgen] at this
    exact this
  have hlast : ∀ W, Below w.heap.size w W → Calls Tryz.prog 125 #[v] W fun e w' => ∃ A c, e = .returned (.slice A (lastL l).length c) ∧ OwnP w' W.heap.size (.slice A (lastL l).length c) (castL (lastL l)) ∧ Below W.heap.size W w' := fun W hb => by
    refine (lasting_any v l M.n W (fun p hp => (ho1 p hp).1) hn (by omega) (hv.below hb)).mono ?_
    rintro e w' ⟨v', he, ho, hb'⟩
    obtain ⟨A, c, hvv, _⟩ := ho.puts
    rw [castL_length] at hvv
    subst hvv
    exact ⟨A, c, he, ho, hb'⟩
  have HRF := Lib.hid hrefuse
  have HHD := Lib.hid hhead
  have HLA := Lib.hid hlast
  have HH := Lib.hid h
  have HJ := Lib.hid hj
  have HT := Lib.hid hT
  have HN16 := Lib.hid hn16
  obtain ⟨A0, c0, rfl, -⟩ := hv
  rw [hcl] at HRF HLA ⊢
  generalize (M.headOf F).cnt = cn at *
  clear hrefuse hhead hlast h hj hT hpl hn16 ho1 ho2 hwhy hgen
  generalize hL : lastL l = L at *
  have hgw : IntKind.u64.wrap ((g : Int) + 1) = (g : Int) + 1 := u64_wrap _ (by omega) (by omega)
  have hX1 : ∃ r1 r2 : Int, ((M.runD (commitP F (g + 1) L)).down = false ∧ r1 = (g : Int) + 1 ∧ r2 = 0 ∨ (M.runD (commitP F (g + 1) L)).down = true ∧ r1 = 0 ∧ r2 = 30) ∧ (if (M.runD (commitP F (g + 1) L)).down = true then (0 : Int) else (g : Int) + 1) = r1 ∧ (if (M.runD (commitP F (g + 1) L)).down = true then (30 : Int) else 0) = r2 := by
    cases (M.runD (commitP F (g + 1) L)).down
    · exact ⟨_, _, .inl ⟨rfl, rfl, rfl⟩, rfl, rfl⟩
    · exact ⟨_, _, .inr ⟨rfl, rfl, rfl⟩, rfl, rfl⟩
  obtain ⟨r1, r2, hX1, hr1, hr2⟩ := hX1
  rw [hr1, hr2]
  have HR2 := Lib.hid hr2
  have HX := Lib.hid hX1
  clear hr1 hr2 hX1
  go_enter Tryz.func63, Tryz.ntmps63
  go_wp2_with fail
  refine HRF.out.mono ?_
  rintro e w0 ⟨rfl, hb0⟩
  go_wp2_with fail
  refine (HHD.out _ hb0).mono ?_
  rintro e w1 ⟨rfl, hb1⟩
  have hs0 := hb0.size
  have hbw1 := hb0.trans (hb1.mono hs0)
  obtain ⟨X, hX⟩ : ∃ X, X = w1.alloc (.cells #[.int .u64 (g : Int), .bool false, .int .i64 (cn : Int)] 154) := ⟨_, rfl⟩
  have hXn : X.heap[w1.heap.size]? = some (.cells #[.int .u64 (g : Int), .bool false, .int .i64 (cn : Int)] 154 (0, 0)) := by rw [hX]; exact heap_alloc_new w1 _
  have hXs : X.heap.size = w1.heap.size + 1 := by rw [hX]; simp
  have hB2 : Below w.heap.size w X := by rw [hX]; exact hbw1.alloc hbw1.size _
  obtain ⟨x0, x1, x2⟩ := row3 hXn
  have hXX : w1.alloc (.cells #[.int .u64 (g : Int), .bool false, .int .i64 (cn : Int)] 154) = X := hX.symm
  clear hX HHD HRF
  go_wp2_with fail
  have hs1 := hb1.size
  clear hXX
  obtain ⟨Y, hY⟩ : ∃ Y, Y = X.alloc (.cells #[.int .u64 0, .slice none 0 0] 158) := ⟨_, rfl⟩
  have hYn : Y.heap[X.heap.size]? = some (.cells #[.int .u64 0, .slice none 0 0] 158 (0, 0)) := by rw [hY]; exact heap_alloc_new X _
  have hYs : Y.heap.size = X.heap.size + 1 := by rw [hY]; simp
  have hXY : Below X.heap.size X Y := by rw [hY]; exact (Below.refl _ _).alloc (Nat.le_refl _) _
  have hYX : Y.heap[w1.heap.size]? = some (.cells #[.int .u64 (g : Int), .bool false, .int .i64 (cn : Int)] 154 (0, 0)) := (hXY.block _ (by omega)).trans hXn
  rw [hXs] at hYn
  have hsX := hB2.size
  have B1 := Lib.hid (hB2.trans (Below.refl w.heap.size X).drew)
  have B2 := Lib.hid ((hB2.trans (hXY.mono (by omega))).trans (Below.refl w.heap.size Y).drew)
  have HYN := Lib.hid (show Y.drew.heap[w1.heap.size + 1]? = _ from hYn)
  obtain ⟨x0, x1, x2⟩ := row3 (show X.drew.heap[w1.heap.size]? = _ from hXn)
  obtain ⟨y0, y1, y2⟩ := row3 (show Y.drew.heap[w1.heap.size]? = _ from hYX)
  have HXN := Lib.hid (show X.drew.heap[w1.heap.size]? = _ from hXn)
  have HYX := Lib.hid (show Y.drew.heap[w1.heap.size]? = _ from hYX)
  have hXd : w1.heap.size < X.drew.heap.size := by show _ < X.heap.size; omega
  have hYd : w1.heap.size + 1 < Y.drew.heap.size := by show _ < Y.heap.size; omega
  have hYZ : X.alloc (.cells #[.int .u64 0, .slice none 0 0] 158) = Y := hY.symm
  clear hY hYn hYX hXn hXY
  have H1 := Lib.hid (HLA.out _ B1.out)
  have H2 := Lib.hid (HLA.out _ B2.out)
  go_region_held3 (fun W' => W'.cell? ⟨w1.heap.size, 0, none⟩ = some (.int .u64 (g : Int)))
    (first | exact x0 | exact y0 | exact z0 | exact up1 z0 | exact far2 z0 (by simp) | exact far2 z0 (by simp; omega))
    (first | (go_at_call 125; (first
      | (with_reducible refine H1.out.mono ?_; rintro e w3 ⟨A3, c3, rfl, hpv, hb3⟩; obtain ⟨z0, z1, z2⟩ := row3 ((hb3.block w1.heap.size (by omega)).trans HXN.out))
      | (with_reducible refine H2.out.mono ?_; rintro e w3 ⟨A3, c3, rfl, hpv, hb3⟩; obtain ⟨z0, z1, z2⟩ := row3 ((hb3.block w1.heap.size (by omega)).trans HYX.out); have hzn := (hb3.block (w1.heap.size + 1) hYd).trans HYN.out; obtain ⟨t0, t1⟩ := cells_two hzn; obtain ⟨t2, t3⟩ := frz2 hzn))))
  all_goals clear H1 H2 hYZ
  all_goals first
    | (have PZ : OwnP ((w3.setCell ⟨w1.heap.size + 1, 0, none⟩ (.int .u64 ((g : Int) + 1))).setCell ⟨w1.heap.size + 1, 1, none⟩ (.slice A3 L.length c3)) Y.drew.heap.size (.slice A3 L.length c3) (castL L) :=
         ownsRow_setCell_below (a := ⟨w1.heap.size + 1, 1, none⟩) (ownsRow_setCell_below (a := ⟨w1.heap.size + 1, 0, none⟩) hpv hYd _) hYd _
       have FZ : ∀ k, (Value.slice A3 L.length c3).ownBlock = some k → w.heap.size ≤ k ∧ k < ((w3.setCell ⟨w1.heap.size + 1, 0, none⟩ (.int .u64 ((g : Int) + 1))).setCell ⟨w1.heap.size + 1, 1, none⟩ (.slice A3 L.length c3)).heap.size := fun k hk => by
         have h5 := PZ.lt k hk
         have h6 : Y.drew.heap.size = Y.heap.size := rfl
         omega
       have BZ := ((B2.out.trans (hb3.mono (by show w.heap.size ≤ Y.heap.size; omega))).setCell (p := ⟨w1.heap.size + 1, 0, none⟩) (show w.heap.size ≤ w1.heap.size + 1 by omega) (.int .u64 ((g : Int) + 1))).setCell (p := ⟨w1.heap.size + 1, 1, none⟩) (show w.heap.size ≤ w1.heap.size + 1 by omega) (.slice A3 L.length c3)
       have ZN := set2 hzn (.int .u64 ((g : Int) + 1)) (.slice A3 L.length c3)
       have hTB : w.heap.size ≤ w1.heap.size + 1 := by omega
       clear x0 x1 x2 y0 y1 y2 z0 z1 z2 hzn t0 t1 t2 t3 hb3 hpv B1 B2 hYd
       generalize ((w3.setCell ⟨w1.heap.size + 1, 0, none⟩ (.int .u64 ((g : Int) + 1))).setCell ⟨w1.heap.size + 1, 1, none⟩ (.slice A3 L.length c3)) = Z at *
       generalize w1.heap.size + 1 = tb at *
       generalize Y.drew.heap.size = base at *)
    | (have PZ : OwnP (w3.alloc (.cells #[.int .u64 ((g : Int) + 1), .slice A3 L.length c3] 158)) X.drew.heap.size (.slice A3 L.length c3) (castL L) := World.ownsRow.alloc hpv _
       have FZ : ∀ k, (Value.slice A3 L.length c3).ownBlock = some k → w.heap.size ≤ k ∧ k < (w3.alloc (.cells #[.int .u64 ((g : Int) + 1), .slice A3 L.length c3] 158)).heap.size := fun k hk => by
         have h5 := PZ.lt k hk
         have h6 : X.drew.heap.size = X.heap.size := rfl
         omega
       have BY := B1.out.trans (hb3.mono (by show w.heap.size ≤ X.heap.size; omega))
       have BZ := BY.alloc BY.size (.cells #[.int .u64 ((g : Int) + 1), .slice A3 L.length c3] 158)
       have ZN := heap_alloc_new w3 (.cells #[.int .u64 ((g : Int) + 1), .slice A3 L.length c3] 158)
       have hTB : w.heap.size ≤ w3.heap.size := BY.size
       clear x0 x1 x2 y0 y1 y2 z0 z1 z2 hb3 hpv B1 B2 BY
       generalize w3.alloc (.cells #[.int .u64 ((g : Int) + 1), .slice A3 L.length c3] 158) = Z at *
       generalize w3.heap.size = tb at *
       generalize X.drew.heap.size = base at *)
  all_goals
    have hTZ : tb < Z.heap.size := (Array.getElem?_eq_some_iff.1 ZN).1
    have hzs := BZ.size
    -- the two rows of steps, in either order
    obtain ⟨fs4, hfs4⟩ : ∃ fs4 : List Nat, fs4 = [126, 127, 147, 148] := ⟨_, rfl⟩
    obtain ⟨R1, hR1⟩ : ∃ R1 : Obj, R1 = .cells #[meth 126 jb, meth 127 jb] 233 := ⟨_, rfl⟩
    obtain ⟨R2, hR2⟩ : ∃ R2 : Obj, R2 = .cells #[meth 147 jb, meth 148 jb] 233 := ⟨_, rfl⟩
    have e12 : ((Z.drew.alloc R1).alloc R2).heap[Z.heap.size]? = some R1 := by rw [Below.heap_alloc _ _ _ (by simp)]; exact heap_alloc_new Z.drew _
    have e12' : ((Z.drew.alloc R1).alloc R2).heap[Z.heap.size + 1]? = some R2 := heap_new _ _ _ (by simp)
    have e21 : ((Z.drew.alloc R2).alloc R1).heap[Z.heap.size]? = some R2 := by rw [Below.heap_alloc _ _ _ (by simp)]; exact heap_alloc_new Z.drew _
    have e21' : ((Z.drew.alloc R2).alloc R1).heap[Z.heap.size + 1]? = some R1 := heap_new _ _ _ (by simp)
    have bel : ∀ (P Q : Obj), Below Z.heap.size Z ((Z.drew.alloc P).alloc Q) := fun P Q => ((Below.refl Z.heap.size Z).drew.alloc (Nat.le_refl _) _).alloc (by simp) _
    have b12 := bel R1 R2
    have b21 := bel R2 R1
    rw [hR1, hR2] at e12 e12' e21 e21' b12 b21
    obtain ⟨vA, WA, hapA, hrA, hbA, hoA⟩ := append_steps _ Z.heap.size Z.heap.size (Z.heap.size + 1) _ _ _ _ e12 e12' (Nat.le_refl _) b12.size rfl rfl
    obtain ⟨vB, WB, hapB, hrB, hbB, hoB⟩ := append_steps _ Z.heap.size (Z.heap.size + 1) Z.heap.size _ _ _ _ e21' e21 (by omega) b21.size rfl rfl
    -- the run, wherever the steps lie
    have hrun : ∀ (U : World) (sv : Value), Below Z.heap.size Z U → Row U sv [meth 126 jb, meth 127 jb, meth 147 jb, meth 148 jb] → (∀ k, sv.ownBlock = some k → Z.heap.size ≤ k ∧ k < U.heap.size) →
        Calls Tryz.prog 83 #[devp jb, .agg #[.int .u64 ((g : Int) + 1), .slice A3 L.length c3], sv] U fun e w' => e = .returned (.int .i64 r2) ∧ (w'.cell? ⟨tb, 0, none⟩ = some (.int .u64 ((g : Int) + 1)) ∧ w'.cell? ⟨tb, 1, none⟩ = some (.slice A3 L.length c3)) ∧ Held K w w' b (M.runD (commitP F (g + 1) L)) := by
      intro U sv hUb hrow hown
      have hus := hUb.size
      have BWU : Below w.heap.size w U := BZ.trans (hUb.mono hzs)
      obtain ⟨K3, hK3⟩ : ∃ K3 : Nat → Prop, K3 = fun k => K k ∨ k = tb ∨ (Value.slice A3 L.length c3).ownBlock = some k ∨ sv.ownBlock = some k := ⟨_, rfl⟩
      have hHU : Held K3 U U b M := HH.out.more BWU fun k hk => by
        rw [hK3] at hk
        rcases hk with hk | hk | hk | hk
        · exact .inl hk
        · exact .inr (by omega)
        · exact .inr (by have := FZ k hk; omega)
        · exact .inr (by have := hown k hk; omega)
      have k3K : ∀ k, K k → K3 k := fun k hk => by rw [hK3]; exact .inl hk
      have k3t : K3 tb := by rw [hK3]; exact .inr (.inl rfl)
      have k3v : ∀ k, (Value.slice A3 L.length c3).ownBlock = some k → K3 k := fun k hk => by rw [hK3]; exact .inr (.inr (.inl hk))
      have k3s : ∀ k, sv.ownBlock = some k → K3 k := fun k hk => by rw [hK3]; exact .inr (.inr (.inr hk))
      have hjU : JAt U jb b F n rec := HJ.out.below BWU
      have hTU := (hUb.block tb hTZ).trans ZN
      have PU : OwnP U base (.slice A3 L.length c3) (castL L) := by
        refine ⟨PZ.1, ?_⟩
        rcases PZ.2 with h0 | ⟨gg, cap, cur, hv, hb, hgg, hr⟩
        · exact .inl h0
        · exact .inr ⟨gg, cap, cur, hv, hb, (hUb.block gg (Array.getElem?_eq_some_iff.1 hgg).1).trans hgg, hr⟩
      obtain ⟨s1, s2⟩ := commit_steps jb b F n rec (g + 1) base (.slice A3 L.length c3) L hjU (k3K jb hKj) PU k3v hg hll HN16.out (by omega)
      obtain ⟨s3, s4⟩ := redo_ok jb b F n rec (g + 1) (.slice A3 L.length c3) L hjU (k3K jb hKj) PU.puts k3v hg
      have hbl := bodyL_length L
      have hkl := keepP_length F L
      have := run_any jb F n rec (g + 1) (.slice A3 L.length c3) sv [126, 127, 147, 148] (commitP F (g + 1) L) hHU hjU (k3K jb hKj) hrow k3s rfl (by simp [commitP])
        (fun i h1 h2 => by
          match i, h1, h2 with
          | 0, _, _ => exact s1
          | 1, _, _ => exact s2
          | 2, _, _ => exact s3
          | 3, _, _ => exact s4)
        (HT.out.commitOk (g + 1)) (by simp [commitP, markP]; omega) (fun m hm => by
          simp only [commitP, List.mem_cons, List.not_mem_nil, or_false] at hm
          rcases hm with rfl | rfl | rfl | rfl
          · omega
          · simp [markP]
          · omega
          · simp [markP]) (by simp)
      have hg1 : ((g + 1 : Nat) : Int) = (g : Int) + 1 := by omega
      unfold txV at this
      rw [hg1, HR2.out] at this
      refine this.mono ?_
      rintro e w' ⟨he, hH⟩
      exact ⟨he, cells_two ((hH.keeps.same tb k3t).trans hTU), hH.back (HH.out.keeps.below BWU) k3K⟩
    have HRA := hrun WA vA (b12.trans hbA) hrA hoA
    have HRB := hrun WB vB (b21.trans hbB) hrB hoB
    obtain ⟨t0, t1⟩ := cells_two (show Z.drew.heap[tb]? = _ from ZN)
    have hred1 := fun W => redoing_any W jb
    have HRED := Lib.hid hred1
    clear hred1 hrun
    have hapA' : (stepAppend #[.slice (some ⟨Z.heap.size, 0, none⟩) 2 2, .slice (some ⟨Z.heap.size + 1, 0, none⟩) 2 2]).run Tryz.prog (((Z.alloc (.cells #[.func (.func 126) #[devp jb] #[], .func (.func 127) #[devp jb] #[]] 233)).alloc (.cells #[meth 147 jb, meth 148 jb] 233)).drew) = .ok vA WA := hapA
    have hapB' : (stepAppend #[.slice (some ⟨Z.heap.size + 1, 0, none⟩) 2 2, .slice (some ⟨Z.heap.size, 0, none⟩) 2 2]).run Tryz.prog (((Z.alloc (.cells #[meth 147 jb, meth 148 jb] 233)).alloc (.cells #[.func (.func 126) #[devp jb] #[], .func (.func 127) #[devp jb] #[]] 233)).drew) = .ok vB WB := hapB
    clear hapA hapB
    have cA : WA.cell? ⟨tb, 0, none⟩ = some (.int .u64 ((g : Int) + 1)) ∧ WA.cell? ⟨tb, 1, none⟩ = some (.slice A3 L.length c3) := cells_two ((hbA.block tb hTZ).trans ((b12.block tb hTZ).trans ZN))
    have cB : WB.cell? ⟨tb, 0, none⟩ = some (.int .u64 ((g : Int) + 1)) ∧ WB.cell? ⟨tb, 1, none⟩ = some (.slice A3 L.length c3) := cells_two ((hbB.block tb hTZ).trans ((b21.block tb hTZ).trans ZN))
    have CA := Lib.hid cA
    have CB := Lib.hid cB
    clear cA cB
    clear HR2
    rcases HX.out with ⟨hdd, e1, e2⟩ | ⟨hdd, e1, e2⟩
  all_goals
    subst e1 e2
    have HA := Lib.hid HRA
    have HB := Lib.hid HRB
    clear HRA HRB hdd HX
    generalize hM2 : M.runD (commitP F (g + 1) L) = M2 at *
    go_wp2_with fail
    go_region_held3 (fun W' => W'.cell? ⟨tb, 0, none⟩ = some (.int .u64 ((g : Int) + 1)) ∧ W'.cell? ⟨tb, 1, none⟩ = some (.slice A3 L.length c3))
      (first | exact ⟨t0, t1⟩ | exact ⟨up1 t0, up1 t1⟩ | exact ⟨up1 (up1 t0), up1 (up1 t1)⟩ | exact CA.out | exact CB.out | exact hS6)
      (first
      | (go_at_call 84; (with_reducible refine (HRED.out _).mono ?_; rintro e w5 ⟨rfl, rfl⟩))
      | (go_at_call 83; (first
        | (with_reducible refine HA.out.mono ?_; rintro e w6 ⟨rfl, hS6, hH⟩)
        | (with_reducible refine HB.out.mono ?_; rintro e w6 ⟨rfl, hS6, hH⟩))))
  all_goals
    go_wp2_with fail
    go_ret2
    exact ⟨rfl, hM2 ▸ hH⟩
end Go.Proofs.YtnfiapjdkjbdhaaGreat
/- What a call holds in memory, as a row of things that lie apart: each in blocks of its own; what was there ahead lies as it lay. -/
namespace Go.Proofs.YtnfiapjdkjbdhaaGreat
open Go.RowKit Go.Maps
set_option linter.unusedVariables false
set_option linter.unusedSimpArgs false
set_option maxRecDepth 10000
structure Res where
  at_ : (Nat → Prop) → World → Prop
  lt : ∀ S W, at_ S W → ∀ k, S k → k < W.heap.size
  kept : ∀ S W W', at_ S W → W.heap.size ≤ W'.heap.size → (∀ k, S k → W'.heap[k]? = W.heap[k]?) → at_ S W'
structure SysOn (w W : World) (rs : List Res) (S : Nat → Nat → Prop) : Prop where
  keeps : Keeps (All w) w W
  at_ : ∀ (i : Nat) (r : Res), rs[i]? = some r → r.at_ (S i) W
  new : ∀ i, i < rs.length → ∀ k, S i k → w.heap.size ≤ k
  apart : ∀ i j, i < rs.length → j < rs.length → i ≠ j → ∀ k, S i k → ¬ S j k
def Sys (w W : World) (rs : List Res) : Prop := ∃ S, SysOn w W rs S
theorem idx_lt {α : Type} {rs : List α} {i : Nat} {r : α} (h : rs[i]? = some r) : i < rs.length := (List.getElem?_eq_some_iff.1 h).1
section
variable {w W : World} {rs : List Res} {S : Nat → Nat → Prop}
theorem SysOn.lt (h : SysOn w W rs S) {i : Nat} (hi : i < rs.length) (k : Nat) (hk : S i k) : k < W.heap.size :=
  rs[i].lt _ _ (h.at_ i _ (List.getElem?_eq_getElem hi)) k hk
theorem SysOn.below (h : SysOn w W rs S) {W' : World} (hb : Below W.heap.size W W') : SysOn w W' rs S :=
  ⟨h.keeps.below hb, fun i r hi => r.kept _ _ _ (h.at_ i r hi) hb.size fun k hk => hb.block k (h.lt (idx_lt hi) k hk), h.new, h.apart⟩
theorem SysOn.set (h : SysOn w W rs S) {i : Nat} {r r' : Res} (hi : rs[i]? = some r) {W' : World} {S' : Nat → Prop} (ho : Only (S i) W W') (hr : r'.at_ S' W') (hs : ∀ k, S' k → S i k ∨ W.heap.size ≤ k) : SysOn w W' (rs.set i r') (upd S i S') := by
  have hil := idx_lt hi
  have hlen : (rs.set i r').length = rs.length := List.length_set
  refine ⟨h.keeps.only ho fun k hk hK => ?_, fun j q hj => ?_, fun j hj k hk => ?_, fun a c ha hc hne k hk hk2 => ?_⟩
  · have := h.new i hil k hk
    have : k < w.heap.size := hK
    omega
  · by_cases e : j = i
    · subst e
      rw [List.getElem?_set_self hil] at hj
      cases hj
      rw [upd_same]
      exact hr
    · rw [List.getElem?_set_ne (fun h => e h.symm)] at hj
      rw [upd_other _ _ e]
      exact q.kept _ _ _ (h.at_ j q hj) ho.size fun k hk => ho.block k (h.lt (idx_lt hj) k hk) (h.apart j i (idx_lt hj) hil e k hk)
  · rw [hlen] at hj
    by_cases e : j = i
    · subst e
      rw [upd_same] at hk
      rcases hs k hk with h1 | h1
      · exact h.new j hj k h1
      · exact Nat.le_trans h.keeps.size h1
    · rw [upd_other _ _ e] at hk
      exact h.new j hj k hk
  · rw [hlen] at ha hc
    by_cases e : a = i
    · subst e
      rw [upd_same] at hk
      rw [upd_other _ _ (fun h => hne h.symm)] at hk2
      rcases hs k hk with h1 | h1
      · exact h.apart a c ha hc hne k h1 hk2
      · have := h.lt hc k hk2; omega
    · rw [upd_other _ _ e] at hk
      by_cases e2 : c = i
      · subst e2
        rw [upd_same] at hk2
        rcases hs k hk2 with h1 | h1
        · exact h.apart a c ha hc hne k hk h1
        · have := h.lt ha k hk; omega
      · rw [upd_other _ _ e2] at hk2
        exact h.apart a c ha hc hne k hk hk2
theorem SysOn.push (h : SysOn w W rs S) {q : Res} {T : Nat → Prop} (hq : q.at_ T W) (hn : ∀ k, T k → w.heap.size ≤ k) (hd : ∀ i, i < rs.length → ∀ k, S i k → ¬ T k) : SysOn w W (rs ++ [q]) (upd S rs.length T) := by
  have hlen : (rs ++ [q]).length = rs.length + 1 := by simp
  refine ⟨h.keeps, fun j r hj => ?_, fun j hj k hk => ?_, fun a c ha hc hne k hk hk2 => ?_⟩
  · by_cases e : j = rs.length
    · subst e
      rw [List.getElem?_append_right (Nat.le_refl _), Nat.sub_self] at hj
      cases hj
      rw [upd_same]
      exact hq
    · have hjl := idx_lt hj
      rw [hlen] at hjl
      rw [List.getElem?_append_left (by omega)] at hj
      rw [upd_other _ _ e]
      exact h.at_ j r hj
  · rw [hlen] at hj
    by_cases e : j = rs.length
    · subst e
      rw [upd_same] at hk
      exact hn k hk
    · rw [upd_other _ _ e] at hk
      exact h.new j (by omega) k hk
  · rw [hlen] at ha hc
    by_cases e : a = rs.length
    · subst e
      rw [upd_same] at hk
      rw [upd_other _ _ (fun h => hne h.symm)] at hk2
      exact hd c (by omega) k hk2 hk
    · rw [upd_other _ _ e] at hk
      by_cases e2 : c = rs.length
      · subst e2
        rw [upd_same] at hk2
        exact hd a (by omega) k hk hk2
      · rw [upd_other _ _ e2] at hk2
        exact h.apart a c (by omega) (by omega) hne k hk hk2
theorem Sys.start (w : World) : Sys w w [] := ⟨fun _ _ => False, Keeps.start w, fun i r h => by simp at h, fun i h => by simp at h, fun i j h => by simp at h⟩
theorem Sys.keeps (h : Sys w W rs) : Keeps (All w) w W := by obtain ⟨S, h⟩ := h; exact h.keeps
theorem Sys.all (h : Sys w W rs) : Below w.heap.size w W := h.keeps.all
theorem Sys.below (h : Sys w W rs) {W' : World} (hb : Below W.heap.size W W') : Sys w W' rs := by
  obtain ⟨S, h⟩ := h
  exact ⟨S, h.below hb⟩
theorem Sys.push (h : Sys w W rs) {W' : World} (hb : Below W.heap.size W W') {q : Res} {T : Nat → Prop} (hq : q.at_ T W') (hn : ∀ k, T k → W.heap.size ≤ k) : Sys w W' (rs ++ [q]) := by
  obtain ⟨S, h⟩ := h
  refine ⟨_, (h.below hb).push hq (fun k hk => Nat.le_trans h.keeps.size (hn k hk)) fun i hi k hk hT => ?_⟩
  have := h.lt hi k hk
  have := hn k hT
  omega
theorem Sys.take (h : Sys w W rs) (m : Nat) : Sys w W (rs.take m) := by
  obtain ⟨S, h⟩ := h
  have hlen : (rs.take m).length ≤ rs.length := by rw [List.length_take]; omega
  exact ⟨S, h.keeps, fun i r hi => h.at_ i r (by rw [List.getElem?_take] at hi; split at hi; exact hi; cases hi), fun i hi => h.new i (by omega), fun i j hi hj => h.apart i j (by omega) (by omega)⟩
theorem Sys.use (h : Sys w W rs) {i : Nat} {r : Res} (hi : rs[i]? = some r) : ∃ S, r.at_ S W ∧ (∀ k, S k → w.heap.size ≤ k) ∧ (∀ j q, j ≠ i → rs[j]? = some q → ∃ T, q.at_ T W ∧ ∀ k, T k → ¬ S k) ∧
    (∀ W' r' S', Only S W W' → r'.at_ S' W' → (∀ k, S' k → S k ∨ W.heap.size ≤ k) → Sys w W' (rs.set i r')) ∧
    ∀ W' r' S' q T, Only S W W' → r'.at_ S' W' → (∀ k, S' k → S k ∨ W.heap.size ≤ k) → q.at_ T W' → (∀ k, T k → W.heap.size ≤ k) → (∀ k, S' k → ¬ T k) → Sys w W' (rs.set i r' ++ [q]) := by
  obtain ⟨S, h⟩ := h
  have hil := idx_lt hi
  refine ⟨S i, h.at_ i r hi, h.new i hil, fun j q hj hq => ⟨S j, h.at_ j q hq, h.apart j i (idx_lt hq) hil hj⟩, fun W' r' S' ho hr hs => ⟨_, h.set hi ho hr hs⟩, fun W' r' S' q T ho hr hs hq hT hd => ?_⟩
  refine ⟨_, (h.set hi ho hr hs).push hq (fun k hk => Nat.le_trans h.keeps.size (hT k hk)) fun j hj k hk hTk => ?_⟩
  rw [List.length_set] at hj
  by_cases e : j = i
  · subst e
    rw [upd_same] at hk
    exact hd k hk hTk
  · rw [upd_other _ _ e] at hk
    have := h.lt hj k hk
    have := hT k hTk
    omega
end
/-! Things that are read only. -/
def memR (own : Nat → Prop) (p : World → Prop) (hp : ∀ W W', p W → (∀ k, own k → W'.heap[k]? = W.heap[k]?) → p W') : Res where
  at_ S W := (∀ k, S k ↔ own k) ∧ (∀ k, S k → k < W.heap.size) ∧ p W
  lt S W h := h.2.1
  kept S W W' h hs hb := ⟨h.1, fun k hk => Nat.lt_of_lt_of_le (h.2.1 k hk) hs, hp W W' h.2.2 fun k hk => hb k ((h.1 k).2 hk)⟩
section
variable {w W : World} {rs : List Res} {own : Nat → Prop} {p : World → Prop} {hp : ∀ W W', p W → (∀ k, own k → W'.heap[k]? = W.heap[k]?) → p W'}
theorem Sys.mem (h : Sys w W rs) {i : Nat} (hi : rs[i]? = some (memR own p hp)) : p W := by
  obtain ⟨S, h1, _⟩ := h.use hi
  exact h1.2.2
theorem Sys.addMem (h : Sys w W rs) {W' : World} (hb : Below W.heap.size W W') (hp' : p W') (hn : ∀ k, own k → W.heap.size ≤ k ∧ k < W'.heap.size) : Sys w W' (rs ++ [memR own p hp]) :=
  h.push hb (T := own) ⟨fun k => Iff.rfl, fun k hk => (hn k hk).2, hp'⟩ fun k hk => (hn k hk).1
end
def devR (b : Nat) (M : Dv) : Res := ⟨fun S W => DevAt S W b M, fun S W h => h.lt, fun S W W' h => h.kept⟩
def jourR (jb b F n rec : Nat) : Res := memR (fun k => k = jb) (fun W => JAt W jb b F n rec) fun W W' h hb => h.kept (hb jb rfl)
theorem Sys.dev {w W : World} {rs : List Res} (h : Sys w W rs) {i b : Nat} {M : Dv} (hi : rs[i]? = some (devR b M)) :
    ∃ K, Held K W W b M ∧ (∀ k, k < w.heap.size → K k) ∧ (∀ j own p hp, j ≠ i → rs[j]? = some (memR own p hp) → p W ∧ ∀ k, own k → K k) ∧ (∀ W' N, Held K W W' b N → Sys w W' (rs.set i (devR b N))) ∧
      ∀ W' N q jb, Keeps K W W' → Held (fun k => K k ∨ k = jb) W' W' b N → q.at_ (fun k => k = jb) W' → W.heap.size ≤ jb → Sys w W' (rs.set i (devR b N) ++ [q]) := by
  obtain ⟨S, h1, h2, h3, h4, h5⟩ := h.use hi
  have h1' : DevAt S W b M := h1
  have hon : ∀ W', Keeps (fun k => k < W.heap.size ∧ ¬ S k) W W' → Only S W W' := fun W' hk => ⟨hk.os, hk.tape, hk.output, hk.size, fun k hkl hS => hk.same k ⟨hkl, hS⟩⟩
  have hsub : ∀ S' : Nat → Prop, (∀ k, S' k → ¬ (k < W.heap.size ∧ ¬ S k)) → ∀ k, S' k → S k ∨ W.heap.size ≤ k := fun S' hh k hk => by
    by_cases e : S k
    · exact .inl e
    · exact .inr (Nat.le_of_not_lt fun hlt => hh k hk ⟨hlt, e⟩)
  refine ⟨fun k => k < W.heap.size ∧ ¬ S k, ⟨.refl fun k hk => hk.1, S, h1', fun k hk hK => hK.2 hk⟩, fun k hk => ⟨Nat.lt_of_lt_of_le hk h.keeps.size, fun hS => by have := h2 k hS; omega⟩, fun j own p hp hj hq => ?_, fun W' N hH => ?_, fun W' N q jb hk hH hq hjb => ?_⟩
  · obtain ⟨T, hT, hd⟩ := h3 j _ hj hq
    exact ⟨hT.2.2, fun k hk => ⟨hT.2.1 k ((hT.1 k).2 hk), hd k ((hT.1 k).2 hk)⟩⟩
  · obtain ⟨hk, S', hS', hn⟩ := hH
    exact h4 W' (devR b N) S' (hon W' hk) hS' (hsub S' hn)
  · obtain ⟨_, S', hS', hn⟩ := hH
    exact h5 W' (devR b N) S' q _ (hon W' hk) hS' (hsub S' fun k hkS hK => hn k hkS (.inl hK)) hq (fun k hk => by rw [hk]; exact hjb) fun k hkS hkj => hn k hkS (.inr hkj)
end Go.Proofs.YtnfiapjdkjbdhaaGreat
/- Layer 8 (tx): what was written, as mathematics: pairs of a sector and its contents, by sectors rising. -/
namespace Go.Proofs.YtnfiapjdkjbdhaaGreat
open Go.RowKit Go.Maps
set_option linter.unusedVariables false
set_option linter.unusedSimpArgs false
set_option maxRecDepth 10000
def asc (L : PutL) : Prop := (L.map (·.1)).Pairwise (· < ·)
def look : PutL → Nat → Option (List UInt8)
  | [], _ => none
  | p :: r, i => if p.1 = i then some p.2 else look r i
def ins : PutL → Nat → List UInt8 → PutL
  | [], i, d => [(i, d)]
  | p :: r, i, d => if p.1 < i then p :: ins r i d else if p.1 = i then (i, d) :: r else (i, d) :: p :: r
theorem asc_nil : asc [] := List.Pairwise.nil
theorem asc_cons {p : Nat × List UInt8} {r : PutL} : asc (p :: r) ↔ (∀ q ∈ r, p.1 < q.1) ∧ asc r := by
  unfold asc
  rw [List.map_cons, List.pairwise_cons]
  constructor
  · rintro ⟨h1, h2⟩
    exact ⟨fun q hq => h1 _ (List.mem_map_of_mem hq), h2⟩
  · rintro ⟨h1, h2⟩
    refine ⟨fun a ha => ?_, h2⟩
    obtain ⟨q, hq, rfl⟩ := List.mem_map.1 ha
    exact h1 q hq
theorem look_none {L : PutL} {i : Nat} (h : ∀ p ∈ L, p.1 ≠ i) : look L i = none := by
  induction L with
  | nil => rfl
  | cons p r ih =>
    unfold look
    rw [if_neg (h p (by simp)), ih fun q hq => h q (by simp [hq])]
theorem look_mem {L : PutL} {i : Nat} {d : List UInt8} (h : look L i = some d) : (i, d) ∈ L := by
  induction L with
  | nil => cases h
  | cons p r ih =>
    unfold look at h
    split at h
    · rename_i e
      cases h
      subst e
      simp
    · exact List.mem_cons_of_mem _ (ih h)
theorem look_of {L : PutL} (hL : asc L) {p : Nat × List UInt8} (h : p ∈ L) : look L p.1 = some p.2 := by
  induction L with
  | nil => cases h
  | cons q r ih =>
    obtain ⟨h1, h2⟩ := asc_cons.1 hL
    unfold look
    rcases List.mem_cons.1 h with rfl | h
    · rw [if_pos rfl]
    · have := h1 p h
      rw [if_neg (by omega), ih h2 h]
theorem ins_mem {L : PutL} {i : Nat} {d : List UInt8} {p : Nat × List UInt8} (h : p ∈ ins L i d) : p = (i, d) ∨ p ∈ L := by
  induction L with
  | nil => exact .inl (List.mem_singleton.1 h)
  | cons q r ih =>
    unfold ins at h
    split at h
    · rcases List.mem_cons.1 h with rfl | h
      · exact .inr (by simp)
      · rcases ih h with h | h
        · exact .inl h
        · exact .inr (List.mem_cons_of_mem _ h)
    · split at h
      · rcases List.mem_cons.1 h with rfl | h
        · exact .inl rfl
        · exact .inr (List.mem_cons_of_mem _ h)
      · rcases List.mem_cons.1 h with rfl | h
        · exact .inl rfl
        · exact .inr h
theorem asc_ins {L : PutL} (hL : asc L) (i : Nat) (d : List UInt8) : asc (ins L i d) := by
  induction L with
  | nil => exact asc_cons.2 ⟨fun q hq => by simp at hq, asc_nil⟩
  | cons p r ih =>
    obtain ⟨h1, h2⟩ := asc_cons.1 hL
    unfold ins
    split
    · rename_i h
      refine asc_cons.2 ⟨fun q hq => ?_, ih h2⟩
      rcases ins_mem hq with rfl | hq
      · exact h
      · exact h1 q hq
    · split
      · rename_i h h3
        subst h3
        exact asc_cons.2 ⟨h1, h2⟩
      · refine asc_cons.2 ⟨fun q hq => ?_, hL⟩
        show i < q.1
        rcases List.mem_cons.1 hq with rfl | hq
        · omega
        · have := h1 q hq; omega
theorem look_ins (L : PutL) (i : Nat) (d : List UInt8) : look (ins L i d) = upd (look L) i (some d) := by
  funext j
  induction L with
  | nil =>
    unfold upd ins look look
    by_cases e : j = i
    · subst e; simp
    · rw [if_neg e, if_neg (fun h => e h.symm)]
  | cons p r ih =>
    unfold upd at ih ⊢
    unfold ins
    split
    · rename_i h
      unfold look
      rw [ih]
      by_cases e : j = i
      · subst e; rw [if_neg (by omega), if_pos rfl]; simp
      · rw [if_neg e, if_neg e]
    · split
      · rename_i h h3
        subst h3
        unfold look
        by_cases e : j = p.1
        · subst e; simp
        · rw [if_neg e, if_neg (fun h => e h.symm), if_neg (fun h => e h.symm)]
      · rename_i h h3
        show (if i = j then some d else look (p :: r) j) = _
        by_cases e : j = i
        · subst e; simp
        · rw [if_neg e, if_neg (fun h => e h.symm)]
theorem ins_length {L : PutL} (hL : asc L) (i : Nat) (d : List UInt8) : (ins L i d).length = if (look L i).isSome then L.length else L.length + 1 := by
  induction L with
  | nil => rfl
  | cons p r ih =>
    obtain ⟨h1, h2⟩ := asc_cons.1 hL
    unfold ins
    split
    · rename_i h
      have e : look (p :: r) i = look r i := by show (if p.1 = i then _ else _) = _; rw [if_neg (by omega)]
      rw [List.length_cons, ih h2, e, List.length_cons]
      split <;> rfl
    · split
      · rename_i h h3
        have : look (p :: r) i = some p.2 := by unfold look; rw [if_pos h3]
        rw [this]
        rfl
      · rename_i h h3
        have : look (p :: r) i = none := look_none fun q hq => by
          rcases List.mem_cons.1 hq with rfl | hq
          · exact h3
          · have := h1 q hq; omega
        rw [this]
        rfl
theorem asc_nodup {L : PutL} (hL : asc L) : (L.map (·.1)).Nodup := by
  have := hL
  unfold asc at this
  exact List.nodup_iff_pairwise_ne.2 (this.imp fun h => by omega)
theorem laid_look {L : PutL} (hL : asc L) (f : Nat → List UInt8) (i : Nat) : laid f L i = (look L i).getD (f i) := by
  cases h : look L i with
  | some d => exact laid_mem f L (asc_nodup hL) (i, d) (look_mem h)
  | none =>
    refine laid_out f L i fun hm => ?_
    obtain ⟨p, hp, rfl⟩ := List.mem_map.1 hm
    rw [look_of hL hp] at h
    cases h
theorem asc_eq : ∀ {a b : List Nat}, a.Pairwise (· < ·) → b.Pairwise (· < ·) → (∀ x, x ∈ a ↔ x ∈ b) → a = b
  | [], [], _, _, _ => rfl
  | [], y :: s, _, _, h => by have := (h y).2 (by simp); simp at this
  | x :: r, [], _, _, h => by have := (h x).1 (by simp); simp at this
  | x :: r, y :: s, ha, hb, h => by
    obtain ⟨h1, h2⟩ := List.pairwise_cons.1 ha
    obtain ⟨h3, h4⟩ := List.pairwise_cons.1 hb
    have hxy : x = y := by
      have hx := (h x).1 (by simp)
      have hy := (h y).2 (by simp)
      rcases List.mem_cons.1 hx with e | e
      · exact e
      · rcases List.mem_cons.1 hy with e2 | e2
        · exact e2.symm
        · have := h3 x e; have := h1 y e2; omega
    subst hxy
    refine congrArg _ (asc_eq h2 h4 fun z => ⟨fun hz => ?_, fun hz => ?_⟩)
    · have hlt := h1 z hz
      rcases List.mem_cons.1 ((h z).1 (List.mem_cons_of_mem _ hz)) with e | e
      · omega
      · exact e
    · have hlt := h3 z hz
      rcases List.mem_cons.1 ((h z).2 (List.mem_cons_of_mem _ hz)) with e | e
      · omega
      · exact e
theorem keys_look {L : PutL} (hL : asc L) {n : Nat} (hn : ∀ p ∈ L, p.1 < n) (f : Nat → Option Value) (hf : ∀ i, (f i).isSome = (look L i).isSome) : keysOf n f = L.map (·.1) := by
  refine asc_eq ((List.pairwise_lt_range).filter _) hL fun x => ?_
  unfold keysOf
  rw [List.mem_filter, List.mem_range, hf, List.mem_map]
  constructor
  · rintro ⟨h1, h2⟩
    obtain ⟨d, hd⟩ := Option.isSome_iff_exists.1 h2
    exact ⟨_, look_mem hd, rfl⟩
  · rintro ⟨p, hp, rfl⟩
    exact ⟨hn p hp, by rw [look_of hL hp]; rfl⟩
theorem ok_ins {L : PutL} {n i : Nat} {d : List UInt8} (h : PutsOk n L) (hi : i < n) (hd : d.length = 64) : PutsOk n (ins L i d) := by
  intro p hp
  rcases ins_mem hp with rfl | hp
  · exact ⟨hi, hd⟩
  · exact h p hp
end Go.Proofs.YtnfiapjdkjbdhaaGreat
/- Layer 8 (tx): a transaction in memory; what is refused. -/
namespace Go.Proofs.YtnfiapjdkjbdhaaGreat
open Go.RowKit Go.Maps
set_option linter.unusedVariables false
set_option linter.unusedSimpArgs false
set_option maxRecDepth 10000
def putX (i : Nat) (d : List UInt8) : Value := .agg #[.int .i64 (i : Int), str d]
def txE (L : PutL) (i : Nat) : Option Value := (look L i).map (putX i)
theorem txE_isSome (L : PutL) (i : Nat) : (txE L i).isSome = (look L i).isSome := by unfold txE; cases look L i <;> rfl
theorem txE_ins (L : PutL) (i : Nat) (d : List UInt8) : txE (ins L i d) = upd (txE L) i (some (putX i d)) := by
  funext j
  unfold txE
  rw [look_ins]
  unfold upd
  by_cases e : j = i
  · subst e; simp
  · rw [if_neg e, if_neg e]
structure TxIn (W : World) (tb b jb m n : Nat) (L : PutL) : Prop where
  c0 : W.cell? ⟨tb, 0, none⟩ = some (devp b)
  c1 : W.cell? ⟨tb, 1, none⟩ = some (devp jb)
  c2 : W.cell? ⟨tb, 2, none⟩ = some (.map (some m))
  c3 : W.cell? ⟨tb, 3, none⟩ = some (.bool false)
  f2 : W.frozen? ⟨tb, 2, none⟩ = false
  f3 : W.frozen? ⟨tb, 3, none⟩ = false
  map : IMap Tryz.prog 3 W m n (txE L)
  asc : asc L
  ok : PutsOk n L
  small : n ≤ 4096
  ne : tb ≠ m
theorem TxIn.kept {W W' : World} {tb b jb m n : Nat} {L : PutL} (h : TxIn W tb b jb m n L) (h1 : W'.heap[tb]? = W.heap[tb]?) (h2 : W'.heap[m]? = W.heap[m]?) : TxIn W' tb b jb m n L :=
  { h with
    c0 := (cell_same 0 h1).trans h.c0
    c1 := (cell_same 1 h1).trans h.c1
    c2 := (cell_same 2 h1).trans h.c2
    c3 := (cell_same 3 h1).trans h.c3
    f2 := (World.frozen?_of_block (a := ⟨tb, 2, none⟩) h1).trans h.f2
    f3 := (World.frozen?_of_block (a := ⟨tb, 3, none⟩) h1).trans h.f3
    map := h.map.kept h2 }
theorem TxIn.lt {W : World} {tb b jb m n : Nat} {L : PutL} (h : TxIn W tb b jb m n L) : tb < W.heap.size ∧ m < W.heap.size := ⟨World.block_lt_of_cell? W _ h.c0, h.map.lt⟩
theorem TxIn.below {W W' : World} {tb b jb m n : Nat} {L : PutL} (h : TxIn W tb b jb m n L) (hb : Below W.heap.size W W') : TxIn W' tb b jb m n L :=
  h.kept (hb.block tb h.lt.1) (hb.block m h.lt.2)
theorem TxIn.len_le {W : World} {tb b jb m n : Nat} {L : PutL} (h : TxIn W tb b jb m n L) : L.length ≤ n := by
  have := nodup_bound n (L.map (·.1)) (asc_nodup h.asc) (fun x hx => by obtain ⟨p, hp, rfl⟩ := List.mem_map.1 hx; exact (h.ok p hp).1)
  simpa using this
def txR (tb b jb n : Nat) (L : PutL) : Res where
  at_ S W := ∃ m, TxIn W tb b jb m n L ∧ ∀ k, S k ↔ k = tb ∨ k = m
  lt S W h k hk := by
    obtain ⟨m, h1, h2⟩ := h
    rcases (h2 k).1 hk with rfl | rfl
    · exact h1.lt.1
    · exact h1.lt.2
  kept S W W' h hs hb := by
    obtain ⟨m, h1, h2⟩ := h
    exact ⟨m, h1.kept (hb tb ((h2 tb).2 (.inl rfl))) (hb m ((h2 m).2 (.inr rfl))), h2⟩
def doneR (tb : Nat) : Res := memR (fun k => k = tb) (fun W => W.cell? ⟨tb, 3, none⟩ = some (.bool true)) fun W W' h hb => (cell_same 3 (hb tb rfl)).trans h
/-! What is refused. -/
theorem over_any (tb : Nat) (d : Bool) (W : World) (h : W.cell? ⟨tb, 3, none⟩ = some (.bool d)) : Calls Tryz.prog 57 #[devp tb] W fun e w' => e = .returned (.int .i64 (if d then 80 else 0)) ∧ W = w' := by
  cases d
  all_goals
    go_enter Tryz.func57, Tryz.ntmps57
    go_wp2
    go_ret
    exact ⟨rfl, rfl⟩
section
variable (tb b N : Nat) (W : World) (h3 : W.cell? ⟨tb, 3, none⟩ = some (.bool false)) (h0 : W.cell? ⟨tb, 0, none⟩ = some (devp b))
  (hlen : Calls Tryz.prog 74 #[devp b] W fun e w' => e = .returned (.int .i64 (N : Int)) ∧ W = w')
include h3 h0 hlen
theorem refusal_out (i : Int) (v : Value) (hi : i < 0 ∨ (N : Int) ≤ i) : Calls Tryz.prog 95 #[devp tb, .int .i64 i, v] W fun e w' => e = .returned (.int .i64 2) ∧ W = w' := by
  have HL := Lib.hid hlen
  clear hlen
  by_cases h : i < 0
  · have hd : decide (i < 0) = true := decide_eq_true h
    go_enter Tryz.func95, Tryz.ntmps95
    go_wp2_with fail
    refine (over_any tb false W h3).mono ?_
    rintro e w1 ⟨rfl, rfl⟩
    go_wp2_with fail
    go_ret
    exact ⟨rfl, rfl⟩
  · have hd : decide (i < 0) = false := decide_eq_false h
    have hd2 : decide ((N : Int) ≤ i) = true := decide_eq_true (by omega)
    clear hi
    go_enter Tryz.func95, Tryz.ntmps95
    go_wp2_with fail
    refine (over_any tb false W h3).mono ?_
    rintro e w1 ⟨rfl, rfl⟩
    go_wp2_with fail
    refine HL.out.mono ?_
    rintro e w1 ⟨rfl, rfl⟩
    go_wp2_with fail
    go_ret
    exact ⟨rfl, rfl⟩
theorem refusal_read (i : Nat) (hi : i < N) : Calls Tryz.prog 95 #[devp tb, .int .i64 (i : Int), .func (.func 132) #[] #[]] W fun e w' => e = .returned (.int .i64 0) ∧ W = w' := by
  have HL := Lib.hid hlen
  clear hlen
  have hd : decide ((i : Int) < 0) = false := decide_eq_false (by omega)
  have hd2 : decide ((N : Int) ≤ (i : Int)) = false := decide_eq_false (by omega)
  have hm : Calls Tryz.prog 132 #[] W fun e w' => e = .returned (.bool true) ∧ W = w' := by
    go_enter Tryz.func132, Tryz.ntmps132
    go_wp2
    go_ret
    exact ⟨rfl, rfl⟩
  have HM := Lib.hid hm
  clear hm
  go_enter Tryz.func95, Tryz.ntmps95
  go_wp2_with fail
  refine (over_any tb false W h3).mono ?_
  rintro e w1 ⟨rfl, rfl⟩
  go_wp2_with fail
  refine HL.out.mono ?_
  rintro e w1 ⟨rfl, rfl⟩
  go_wp2_with fail
  refine HM.out.mono ?_
  rintro e w1 ⟨rfl, rfl⟩
  go_wp2_with fail
  go_ret
  exact ⟨rfl, rfl⟩
theorem refusal_write (i p : Nat) (s : List UInt8) (r : Bool) (hi : i < N) (hp : W.cell? ⟨p, 0, none⟩ = some (str s)) (hr : ((s.length : Int) == 64) = r) :
    Calls Tryz.prog 95 #[devp tb, .int .i64 (i : Int), .func (.func 104) #[] #[.pointer (some ⟨p, 0, none⟩)]] W fun e w' => e = .returned (.int .i64 (if r then 0 else 2)) ∧ W = w' := by
  have HL := Lib.hid hlen
  clear hlen
  have hd : decide ((i : Int) < 0) = false := decide_eq_false (by omega)
  have hd2 : decide ((N : Int) ≤ (i : Int)) = false := decide_eq_false (by omega)
  have hm : Calls Tryz.prog 104 #[.pointer (some ⟨p, 0, none⟩)] W fun e w' => e = .returned (.bool r) ∧ W = w' := by
    go_enter Tryz.func104, Tryz.ntmps104
    go_wp2
    go_ret
    exact ⟨rfl, rfl⟩
  have HM := Lib.hid hm
  clear hm
  cases r
  all_goals
    go_enter Tryz.func95, Tryz.ntmps95
    go_wp2_with fail
    refine (over_any tb false W h3).mono ?_
    rintro e w1 ⟨rfl, rfl⟩
    go_wp2_with fail
    refine HL.out.mono ?_
    rintro e w1 ⟨rfl, rfl⟩
    go_wp2_with fail
    refine HM.out.mono ?_
    rintro e w1 ⟨rfl, rfl⟩
    go_wp2_with fail
    go_ret
    exact ⟨rfl, rfl⟩
theorem refusal_patch (i p q : Nat) (f : Int) (s : List UInt8) (r : Bool) (hi : i < N) (hp : W.cell? ⟨p, 0, none⟩ = some (.int .i64 f)) (hq : W.cell? ⟨q, 0, none⟩ = some (str s)) (hs : s.length ≤ 140737488351232) (hr : (decide (0 ≤ f) && decide (f ≤ 64 - (s.length : Int))) = r) :
    Calls Tryz.prog 95 #[devp tb, .int .i64 (i : Int), .func (.func 96) #[] #[.pointer (some ⟨p, 0, none⟩), .pointer (some ⟨q, 0, none⟩)]] W fun e w' => e = .returned (.int .i64 (if r then 0 else 2)) ∧ W = w' := by
  have HL := Lib.hid hlen
  clear hlen
  have hd : decide ((i : Int) < 0) = false := decide_eq_false (by omega)
  have hd2 : decide ((N : Int) ≤ (i : Int)) = false := decide_eq_false (by omega)
  have hm : Calls Tryz.prog 96 #[.pointer (some ⟨p, 0, none⟩), .pointer (some ⟨q, 0, none⟩)] W fun e w' => e = .returned (.bool r) ∧ W = w' := by
    by_cases h1 : 0 ≤ f
    · have e1 : decide (0 ≤ f) = true := decide_eq_true h1
      rw [e1, Bool.true_and] at hr
      go_enter Tryz.func96, Tryz.ntmps96
      go_wp2
      go_ret
      exact ⟨rfl, rfl⟩
    · have e1 : decide (0 ≤ f) = false := decide_eq_false h1
      rw [e1, Bool.false_and] at hr
      subst hr
      go_enter Tryz.func96, Tryz.ntmps96
      go_wp2
      go_ret
      exact ⟨rfl, rfl⟩
  have HM := Lib.hid hm
  clear hm
  cases r
  all_goals
    go_enter Tryz.func95, Tryz.ntmps95
    go_wp2_with fail
    refine (over_any tb false W h3).mono ?_
    rintro e w1 ⟨rfl, rfl⟩
    go_wp2_with fail
    refine HL.out.mono ?_
    rintro e w1 ⟨rfl, rfl⟩
    go_wp2_with fail
    refine HM.out.mono ?_
    rintro e w1 ⟨rfl, rfl⟩
    go_wp2_with fail
    go_ret
    exact ⟨rfl, rfl⟩
end
/-! Begin, and the end. -/
theorem begin_any (b jb n : Nat) (hn : n ≤ 4096) (W : World) : Calls Tryz.prog 22 #[devp b, devp jb] W fun e w' => e = .returned (.tuple #[devp (W.heap.size + 1), .int .i64 0]) ∧ Below W.heap.size W w' ∧ TxIn w' (W.heap.size + 1) b jb W.heap.size n [] := by
  have hmm := @run_makeMap Tryz.prog
  go_enter Tryz.func22, Tryz.ntmps22
  go_wp2_with fail
  go_ret2
  have hnew := heap_alloc_new (W.alloc (.map #[] 0)) (.cells #[devp b, devp jb, .map (some W.heap.size), .bool false] 113)
  have hs1 : (W.alloc (.map #[] 0)).heap.size = W.heap.size + 1 := by simp
  rw [hs1] at hnew
  refine ⟨by simp [devp], ((Below.refl _ W).alloc (Nat.le_refl _) _).alloc (by simp) _, ?_⟩
  refine ⟨cell_of_row _ _ 0 _ _ _ hnew, cell_of_row _ _ 1 _ _ _ hnew, cell_of_row _ _ 2 _ _ _ hnew, cell_of_row _ _ 3 _ _ _ hnew, frozen_of_row _ _ 2 _ _ hnew, frozen_of_row _ _ 3 _ _ hnew, ?_, asc_nil, fun p hp => by simp at hp, hn, by omega⟩
  have h1 := (IMap.made W Tryz.prog 3 n).congr (g := txE []) fun i _ => rfl
  exact h1.kept (Below.heap_alloc _ _ _ (by simp))
theorem finish_any (tb : Nat) (W : World) (v2 v3 : Value) (h2 : W.cell? ⟨tb, 2, none⟩ = some v2) (h3 : W.cell? ⟨tb, 3, none⟩ = some v3) (f2 : W.frozen? ⟨tb, 2, none⟩ = false) (f3 : W.frozen? ⟨tb, 3, none⟩ = false) :
    Calls Tryz.prog 61 #[devp tb] W fun e w' => e = .returned (.tuple #[]) ∧ w' = (W.setCell ⟨tb, 2, none⟩ (.map none)).setCell ⟨tb, 3, none⟩ (.bool true) := by
  go_enter Tryz.func61, Tryz.ntmps61
  go_wp2_with fail
  go_end0
  exact ⟨rfl, rfl⟩
end Go.Proofs.YtnfiapjdkjbdhaaGreat
