/- Layer 4 (journal): a transaction's body. -/
import Derived.Test.YthgdkpkhnhjifaaGreatM15
import Derived.Stop.RegionWithIn
import Derived.BigRegion
namespace Go.Proofs.YthgdkpkhnhjifaaGreat
open Go.RowKit Go.Maps Go.Shelf
set_option linter.unusedVariables false
set_option linter.unusedSimpArgs false
set_option maxRecDepth 10000
attribute [local go_sem] Oper.semAt_some
theorem group_at (l : PutL) (j q : Nat) (hq : q < (group l j).length) : ∃ h : 32 * j + q < l.length, (group l j)[q] = l[32 * j + q] := by
  have hl : q < 32 ∧ 32 * j + q < l.length := by
    unfold group at hq
    rw [List.length_take, List.length_drop] at hq
    omega
  refine ⟨hl.2, ?_⟩
  have h1 : (group l j)[q]? = l[32 * j + q]? := by
    unfold group
    rw [List.getElem?_take, if_pos hl.1, List.getElem?_drop]
  rw [List.getElem?_eq_getElem hq, List.getElem?_eq_getElem hl.2] at h1
  exact Option.some.inj h1
theorem group_len (l : PutL) (j : Nat) : (group l j).length = min 32 (l.length - 32 * j) := by
  unfold group
  rw [List.length_take, List.length_drop]
theorem owns_base {W : World} {base base' : Nat} {e : TypeId} {v : Value} {n : Nat} {xs : List Value} {sz : Nat} (h : W.ownsRow base e sz v n xs) (hb : base' ≤ base) : W.ownsRow base' e sz v n xs := by
  refine ⟨h.1, ?_⟩
  rcases h.2 with h0 | ⟨g, cap, cur, hv, hb2, hr⟩
  · exact .inl h0
  · exact .inr ⟨g, cap, cur, hv, Nat.le_trans hb hb2, hr⟩
theorem numRow_snoc (l : PutL) (p : Nat × List UInt8) : numRow (l ++ [p]) = numRow l ++ leB 2 p.1 := by simp [numRow]
set_option maxHeartbeats 4000000 in
theorem body_any (v : Value) (l : PutL) (base : Nat) (w : World) (hl : l.length ≤ 4096) (hn : ∀ p ∈ l, p.1 < 65536) (h : OwnP w base v (castL l)) :
    Calls Tryz.prog 86 #[v] w fun e w' => ∃ v', e = .returned v' ∧ OwnT w' w.heap.size v' (bodyL l) ∧ Below w.heap.size w w' := by
  have hcl := castL_length l
  have hv : ∃ A c, v = .slice A l.length c ∧ (l = [] ∨ ∃ g, A = some ⟨g, 0, none⟩ ∧ g < w.heap.size ∧ l.length ≤ c ∧ c ≤ maxLen ∧ ∀ k (hk : k < l.length), w.cell? ⟨g, k * 2, none⟩ = some (.int .i64 (l[k].1 : Int)) ∧ w.cell? ⟨g, k * 2 + 1, none⟩ = some (str l[k].2)) := by
    rcases h.2 with ⟨rfl, h0⟩ | ⟨g, cap, cur, rfl, hb, hg, hc1, hc2, hrest⟩
    · rw [hcl] at h0
      exact ⟨none, 0, by rw [h0], .inl (List.length_eq_zero_iff.1 h0)⟩
    · refine ⟨_, cap, by rw [hcl], .inr ⟨g, rfl, (Array.getElem?_eq_some_iff.1 hg).1, by omega, hc2, fun k hk => ?_⟩⟩
      have hown : w.ownsRow base 81 2 (.slice (some ⟨g, 0, none⟩) (castL l).length cap) (castL l).length (putC (castL l)) := h
      obtain ⟨e1, e2⟩ := putC_at (castL l) k (by omega)
      have hx : (castL l)[k]'(by omega) = ((l[k].1 : Int), l[k].2) := by simp [castL]
      rw [hx] at e1 e2
      exact ⟨(hown.cellAt (k * 2) (by omega)).trans e1, (hown.cellAt (k * 2 + 1) (by omega)).trans e2⟩
  obtain ⟨A, c, rfl, hcells⟩ := hv
  clear h
  refine (callsIn_wide (n := 8)).1 ?_
  refine callsIn_of_wp_marks Tryz.func86 rfl trivial ?_ rfl
  simp only [Tryz.ntmps86, List.size_toArray, List.length_cons, List.length_nil, Nat.reduceAdd, Nat.reduceSub, Array.replicate_succ, Array.replicate_zero, List.push_toArray, List.append_toArray, List.nil_append, List.cons_append]
  gi_wp2_with fail
  refine ⟨trivial, (callsIn_wide.2 (chunk_any _ _ _ _)).mono ?_⟩
  rintro e w2 ⟨rfl, rfl⟩
  gi_wp2_with fail
  obtain ⟨W0, hW0⟩ : ∃ W0, (((w.alloc (.cells #[.slice none 0 0] 33)).alloc (.cells #[.slice none 0 0] 33)).alloc (.cells #[.slice A l.length c] 37)).alloc (.cells #[.int .i64 32] 3) = W0 := ⟨_, rfl⟩
  have hs0 : W0.heap.size = w.heap.size + 4 := by rw [← hW0]; simp
  have hB0 : Below w.heap.size w W0 := by rw [← hW0]; exact ((((Below.refl _ w).alloc (Nat.le_refl _) _).alloc (by simp) _).alloc (by simp; omega) _).alloc (by simp; omega) _
  have g0 : W0.heap[w.heap.size]? = some (.cells #[.slice none 0 0] 33 (0, 0)) := by
    rw [← hW0, Below.heap_alloc _ _ _ (by simp; omega), Below.heap_alloc _ _ _ (by simp; omega), Below.heap_alloc _ _ _ (by simp)]; exact heap_new _ _ _ rfl
  have g1 : W0.heap[w.heap.size + 1]? = some (.cells #[.slice none 0 0] 33 (0, 0)) := by
    rw [← hW0, Below.heap_alloc _ _ _ (by simp), Below.heap_alloc _ _ _ (by simp)]; exact heap_new _ _ _ (by simp)
  have g2 : W0.heap[w.heap.size + 2]? = some (.cells #[.slice A l.length c] 37 (0, 0)) := by
    rw [← hW0, Below.heap_alloc _ _ _ (by simp)]; exact heap_new _ _ _ (by simp)
  have g3 : W0.heap[w.heap.size + 3]? = some (.cells #[.int .i64 32] 3 (0, 0)) := by
    rw [← hW0]; exact heap_new _ _ _ (by simp)
  rw [hW0]
  clear hW0
  have hBW : w.heap.size + 1 < W0.heap.size := by omega
  have hI0 : BodyI W0 w.heap.size [] [] W0 := ⟨Only.refl _ _, .slice none 0 0, .slice none 0 0, g0, g1, World.ownsRow_nil _ _ _ _, World.ownsRow_nil _ _ _ _, fun k hk => by cases hk⟩
  have hbox : ∀ ns cs V, BodyI W0 w.heap.size ns cs V → V.cell? ⟨w.heap.size + 2, 0, none⟩ = some (.slice A l.length c) ∧ V.cell? ⟨w.heap.size + 3, 0, none⟩ = some (.int .i64 32) := by
    rintro ns cs V ⟨hO, _⟩
    exact ⟨(cell_same 0 (hO.block _ (by omega) (by omega))).trans (cell_of_row _ _ 0 _ _ _ g2), (cell_same 0 (hO.block _ (by omega) (by omega))).trans (cell_of_row _ _ 0 _ _ _ g3)⟩
  have Hbox := Lib.hid hbox
  have HI0 := Lib.hid hI0
  clear hbox g0 g1 g2 g3 hI0
  refine range_flat (n := 8) (by decide) (gf := 117) (lb := #[.pointer (some ⟨w.heap.size + 2, 0, none⟩), .pointer (some ⟨w.heap.size + 3, 0, none⟩)]) rfl (enters_of Tryz.func117 (by kernel_rfl) rfl) ((l.length + 31) / 32)
    (fun j args V => ∃ g, A = some ⟨g, 0, none⟩ ∧ args = #[groupV g l.length j])
    (fun j V => BodyI W0 w.heap.size ((numSecs l).take j) ((l.take (32 * j)).map (·.2)) V) ?hit ?h0 ?hdr ?hput
    (fun j a' V => BodyI W0 w.heap.size ((numSecs l).take j) ((l.take (32 * j)).map (·.2)) V ∧ ∃ g, A = some ⟨g, 0, none⟩ ∧ a' = { tmps := #[.slice A l.length c, undef, .slice none 0 0, .pointer (some ⟨w.heap.size, 0, none⟩), .pointer (some ⟨w.heap.size + 1, 0, none⟩), groupV g l.length j, undef, undef, undef, .slice A l.length c, .func (.func 117) #[] #[.pointer (some ⟨w.heap.size + 2, 0, none⟩), .pointer (some ⟨w.heap.size + 3, 0, none⟩)], groupV g l.length j, undef, undef, undef, undef, undef, undef, undef, undef, undef, undef, undef, undef, undef, undef, undef, undef, undef, undef, undef, undef, undef, undef, undef, undef, undef, undef], defers := [] }) ?hAx ?hassign ?hbody ?hdone
  case hit =>
    intro lp J V hJI hJd hJ0 hrd hb
    rcases hcells with rfl | ⟨g, rfl, hg, hc1, hc2, _⟩
    · exact chunk_nil lp (w.heap.size + 2) (w.heap.size + 3) c A J V (Hbox.out _ _ _ (hJI 0 V hJ0)).1 hJ0
    · refine chunk_in lp (w.heap.size + 2) (w.heap.size + 3) g l.length c (by omega) hc1 hc2 J V (fun j V' hJ => Hbox.out _ _ _ (hJI j V' hJ)) hJd hJ0 ?_
      intro j hj V1 hJ
      exact hrd j hj _ V1 hJ ⟨g, rfl, rfl⟩
  case h0 =>
    intro V hb
    rw [List.take_zero, Nat.mul_zero, List.take_zero]
    exact HI0.out.below hBW hb
  case hdr =>
    intro j V hV
    exact hV.below hBW (Below.refl V.heap.size V).drew
  case hput =>
    intro j V l o hl hl2 h
    exact h.put hBW l o hl hl2
  case hAx =>
    rintro j a' V l o hl hl2 ⟨hD, g, hg, rfl⟩
    exact ⟨hD.put hBW l o hl hl2, g, hg, rfl⟩
  case hassign =>
    rintro lp j args V hj hD ⟨g, rfl, rfl⟩
    refine ⟨rfl, ?_⟩
    have HD := Lib.hid hD
    clear hD
    unfold groupV
    generalize 32 * j * 2 = o at *
    gi_wp2
    exact ⟨KeepF.refl _ _, HD.out, g, rfl, rfl⟩
  case hbody =>
    rintro lp j a' V hj hV2 ⟨hD, g, rfl, rfl⟩
    rcases hcells with rfl | ⟨g', hgg, hgl, hc1, hc2, hcell⟩
    · simp at hj
    obtain rfl : g = g' := by injection hgg with h1; injection h1
    have hGl := group_len l j
    have hGa := fun q hq => group_at l j q hq
    have HC := Lib.hid hcell
    have HN := Lib.hid hn
    have HGA := Lib.hid hGa
    have HD := Lib.hid hD
    clear hcell hn hGa hD hgg
    unfold groupV
    rw [← hGl]
    obtain ⟨o, ho⟩ : ∃ o, o = 32 * j * 2 := ⟨_, rfl⟩
    rw [← ho]
    have HO := Lib.hid ho
    have HL := Lib.hid hGl
    have hG32 := group_length l j
    generalize hG : group l j = G at *
    have HG := Lib.hid hG
    clear ho hGl hG
    have hsz0 := HD.out.only.size
    gi_wp2
    gi_loopw [6, 14] (fun r i wr => ∃ q : Nat, q ≤ G.length ∧ i = .int .i64 q ∧ r = str (numRow (G.take q)) ∧ BodyI W0 w.heap.size ((numSecs l).take j) ((l.take (32 * j + q)).map (·.2)) wr ∧ KeepF W0.heap.size V wr ∧ V.heap.size ≤ wr.heap.size) (fun _ i _ => G.length - (intOf i).toNat)
    case atStart => exact ⟨0, Nat.zero_le _, rfl, rfl, HD.out, KeepF.refl _ _, Nat.le_refl _⟩
    case round =>
      obtain ⟨q, hq, rfl, rfl, hB, hK, hvs⟩ := hrel
      have HB := Lib.hid hB
      have HK := Lib.hid hK
      clear hB hK
      have hrl := numRow_length (G.take q)
      rw [List.length_take, Nat.min_eq_left hq] at hrl
      by_cases hlt : q < G.length
      · obtain ⟨hlx, hGx⟩ := HGA.out q hlt
        obtain ⟨k1, k2⟩ := HC.out (32 * j + q) hlx
        have hnx := HN.out l[32 * j + q] (List.getElem_mem _)
        have hrow : numRow (G.take (q + 1)) = numRow (G.take q) ++ leB 2 G[q].1 := by rw [List.take_succ_eq_append_getElem hlt, numRow_snoc]
        have hcs : (l.take (32 * j + (q + 1))).map (·.2) = (l.take (32 * j + q)).map (·.2) ++ [l[32 * j + q].2] := by rw [← Nat.add_assoc, List.take_succ_eq_append_getElem hlx, List.map_append]; rfl
        rw [hGx] at hrow
        have hlow : wr.heap[g]? = w.heap[g]? := (HB.out.only.block g (by omega) (by omega)).trans (hB0.block g hgl)
        have hd1 : wr.cell? ⟨g, o + q * 2, none⟩ = some (.int .i64 (l[32 * j + q].1 : Int)) := (World.cell?_of_block (a := ⟨g, o + q * 2, none⟩) hlow).trans (by rw [HO.out, show 32 * j * 2 + q * 2 = (32 * j + q) * 2 by omega]; exact k1)
        have hd2 : wr.cell? ⟨g, o + q * 2 + 1, none⟩ = some (str l[32 * j + q].2) := (World.cell?_of_block (a := ⟨g, o + q * 2 + 1, none⟩) hlow).trans (by rw [HO.out, show 32 * j * 2 + q * 2 + 1 = (32 * j + q) * 2 + 1 by omega]; exact k2)
        have HR := Lib.hid hrow
        have HCS := Lib.hid hcs
        clear hrow hcs k1 k2 hlow hGx
        have hlens : ((l.take (32 * j + q)).map (·.2)).length ≤ 1048576 := by rw [List.length_map, List.length_take]; omega
        generalize l[32 * j + q] = x at *
        obtain ⟨s, d⟩ := x
        simp only at hd1 hd2 hnx
        generalize numRow (G.take q) = row at *
        obtain ⟨X, hX⟩ : ∃ X, X = wr.alloc (.cells #[.int .i64 (s : Int), str d] 81) := ⟨_, rfl⟩
        have hXb : Below wr.heap.size wr X := by rw [hX]; exact (Below.refl _ _).alloc (Nat.le_refl _) _
        have hXn : X.heap[wr.heap.size]? = some (.cells #[.int .i64 (s : Int), str d] 81 (0, 0)) := by rw [hX]; exact heap_alloc_new wr _
        have hXs : X.heap.size = wr.heap.size + 1 := by rw [hX]; simp
        obtain ⟨p0, p1⟩ := cells_two hXn
        have hXX : wr.alloc (.cells #[.int .i64 (s : Int), str d] 81) = X := hX.symm
        clear hX
        have hcu : IntKind.u64.wrap (s : Int) = s := u64_wrap _ (by omega) (by omega)
        have HNU := Lib.hid (number_any (s : Int) s 2 X rfl (by omega) (by decide) (by simpa using hnx) 2 rfl)
        have h2l : (leB 2 s).length = 2 := leB_length 2 s
        generalize leB 2 s = t at *
        gi_wp2_with fail
        refine ⟨trivial, (CallsIn.inRound lp (callsIn_wide.2 HNU.out)).mono ?_⟩
        rintro e W2 ⟨rfl, hb2⟩
        have hbw : Below wr.heap.size wr W2 := hXb.trans (hb2.mono (by omega))
        have hs2 := hbw.size
        obtain ⟨cv, cv', W3, n0, hap, n1, f1, hfin, hkf, hsf, gc, gm, cc, rfl⟩ := (HB.out.below hBW hbw).addC hBW (by omega) d hlens
        have hb2r := hb2.block wr.heap.size (by omega)
        obtain ⟨p0, p1⟩ := cells_two (hb2r.trans hXn)
        have HF := Lib.hid hfin
        have HKF := Lib.hid ((HK.out.trans (KeepF.below hbw (by omega))).trans hkf)
        have HSF := Lib.hid hsf
        clear hfin hkf hsf hXX HNU hXn hb2r hb2
        gi_wp2_with fail
        go_roundw
        case rel => exact ⟨q + 1, by omega, by simp, by rw [HR.out], by rw [HCS.out]; exact HF.out, HKF.out, by have := HSF.out; omega⟩
        case measure => simp [intOf]; omega
      · obtain rfl : q = G.length := by omega
        rw [List.take_length] at hrl ⊢
        have hj1 : (l.take (32 * j + G.length)).map (·.2) = (l.take (32 * (j + 1))).map (·.2) := by
          congr 1
          rw [HL.out]
          rw [List.take_eq_take_iff]
          omega
        have hB := HB.out
        rw [hj1] at hB
        have hnl : (numSecs l).length = (l.length + 31) / 32 := numSecs_length l
        have hnt : (numSecs l).take (j + 1) = (numSecs l).take j ++ [pad64 (numRow G)] := by
          rw [List.take_succ_eq_append_getElem (by omega), numSecs_at l j (by omega), HG.out]
        have HNT := Lib.hid hnt
        have HB2 := Lib.hid hB
        have hlens : ((numSecs l).take j).length ≤ 1048576 := by rw [List.length_take]; omega
        have hpad : pad64 (numRow G) = numRow G ++ List.replicate (64 - (numRow G).length) 0 := rfl
        have hF := fun W => filled_any (numRow G) (64 - (numRow G).length) 64 W (by omega) (by omega)
        rw [← hpad] at hF
        have HFI := Lib.hid hF
        clear hB hj1 hnl hnt hpad hF HB
        generalize pad64 (numRow G) = pr at *
        generalize numRow G = row at *
        obtain ⟨cv0, -, -, n00, -⟩ := HB2.out.addN hBW (by omega) pr hlens
        gi_wp2_with fail
        gi_region_with (first | (refine ⟨trivial, (CallsIn.inRound lp (callsIn_wide.2 (HFI.out _))).mono ?_⟩; rintro e W2 ⟨rfl, hb2⟩; have hbx := (Below.refl wr.heap.size wr).drew.trans hb2; obtain ⟨cv, cv', W3, n0, hap, n1, f1, hfin, hkf, hsf, gc, gm, cc, rfl⟩ := (HB2.out.below hBW hbx).addN hBW (by have := hbx.size; omega) pr hlens; obtain rfl : cv = cv0 := Option.some.inj (n0.symm.trans ((hbx.cell (p := ⟨w.heap.size, 0, none⟩) (by show w.heap.size < wr.heap.size; omega)).trans n00)); have n2 := up1 (o := .cells #[str pr] 9) n0; have HF := Lib.hid hfin; have HKF := Lib.hid ((HK.out.trans (KeepF.below hbx (by omega))).trans hkf); clear hfin hkf))
        all_goals
          gi_wp2
          exact ⟨HKF.out, by rw [HNT.out]; exact HF.out⟩
  case hdone =>
    intro V hD hK
    have hN1 : (numSecs l).take ((l.length + 31) / 32) = numSecs l := List.take_of_length_le (by rw [numSecs_length]; omega)
    have hN2 : l.take (32 * ((l.length + 31) / 32)) = l := List.take_of_length_le (by omega)
    rw [hN1, hN2] at hD
    have hnl := numSecs_length l
    obtain ⟨hO, nv, cv, h1, h2, h3, h4, h5⟩ := hD
    have hsz := hO.size
    have hKl : W0.heap.size < V.heap.size := (Array.getElem?_eq_some_iff.1 hK).1
    have hVs : W0.heap.size + 2 ≤ V.heap.size + 2 := by omega
    have c1 := cell_of_row _ _ 0 _ _ _ h1
    have c2 := cell_of_row _ _ 0 _ _ _ h2
    have hbig : W0.heap.size + 2 ≤ V.heap.size ∨ V.heap.size < W0.heap.size + 2 := by omega
    obtain ⟨v', W2, hap, hown, hg⟩ := append_txts V (W0.heap.size + 1) nv cv (numSecs l) (l.map (·.2)) (owns_base h3 (by omega)) (owns_base h4 (by omega)) (by rw [hnl, List.length_map]; omega) (by omega)
    have hk2 : W2.heap[W0.heap.size]? = some (.deferred (some [])) := (hg.block _ hKl (fun e => by have := (h3.lt _ e.symm).1; omega)).trans hK
    have hbl : Below w.heap.size w W2 := by
      refine hB0.trans ⟨hg.os.trans hO.os, hg.tape.trans hO.tape, hg.output.trans hO.output, by have := hg.size; omega, fun k hk => ?_⟩
      exact (hg.block k (by omega) (fun e => by have := (h3.lt _ e.symm).1; omega)).trans (hO.block k (by omega) (by omega))
    have HOW := Lib.hid (owns_base hown (show w.heap.size ≤ W0.heap.size + 1 by omega))
    have HB := Lib.hid hbl
    have hlow : ∀ k, v'.ownBlock = some k → W0.heap.size + 1 ≤ k := fun k hk => (hown.lt k hk).1
    clear hown hbl hg h1 h2 h3 h4 h5 hO
    gi_wp2
    refine ⟨by simp, .inl ⟨_, _, rfl, run_takeDeferred hk2, ?_⟩⟩
    have hne : ∀ k, k ≠ W0.heap.size → (W2.putObj W0.heap.size (.deferred none)).heap[k]? = W2.heap[k]? := fun k hk => World.putObj_heap_other hk
    refine ⟨_, results_tmp rfl _ _ _, v', rfl, owns_keep HOW.out fun k hk => hne k (by have := hlow k hk; omega), ?_⟩
    refine ⟨HB.out.os, HB.out.tape, HB.out.output, by rw [World.putObj_size]; exact HB.out.size, fun k hk => ?_⟩
    rw [hne k (by omega)]; exact HB.out.block k hk
end Go.Proofs.YthgdkpkhnhjifaaGreat
/- Layer 4 (journal): a transaction is kept, and read back. -/
namespace Go.Proofs.YthgdkpkhnhjifaaGreat
open Go.RowKit Go.Maps
set_option linter.unusedVariables false
set_option linter.unusedSimpArgs false
set_option maxRecDepth 10000
theorem ownT_at {W : World} {base : Nat} {v : Value} {ss : List (List UInt8)} (h : OwnT W base v ss) : ∃ A c, v = .slice A ss.length c ∧ ∀ k (hk : k < ss.length), ∃ g, A = some ⟨g, 0, none⟩ ∧ base ≤ g ∧ g < W.heap.size ∧ ss.length ≤ c ∧ c ≤ maxLen ∧ W.cell? ⟨g, k, none⟩ = some (str ss[k]) := by
  rcases h.2 with ⟨rfl, h0⟩ | ⟨g, cap, cur, rfl, hb, hg, hc1, hc2, _⟩
  · exact ⟨none, 0, by rw [h0], fun k hk => by omega⟩
  · refine ⟨_, cap, rfl, fun k hk => ⟨g, rfl, hb, (Array.getElem?_eq_some_iff.1 hg).1, hc1, hc2, ?_⟩⟩
    have := h.cells (g := g) rfl k (str ss[k]) (by simp [hk])
    rwa [addr_add0] at this
theorem grown_of_below' {w w' : World} (h : Below w.heap.size w w') (row : Option Nat) : w.grownBy w' row := ⟨h.os, h.tape, h.output, h.size, fun i hi _ => h.block i hi⟩
set_option maxHeartbeats 2000000 in
theorem keep_any {W : World} (jb b F n rec g base : Nat) (pv : Value) (l : PutL) (hj : JAt W jb b F n rec) (hv : OwnP W base pv (castL l)) (hl : l.length ≤ 4096) (hn : ∀ p ∈ l, p.1 < 65536) (hF : F ≤ 4096) :
    Calls Tryz.prog 68 #[devp jb, txV g pv] W fun e w' => ∃ v', e = .returned v' ∧ Puts w' v' (castL (keepP F l)) ∧ Fresh W w' v' ∧ Below W.heap.size W w' := by
  have hpv : ∃ A m c, pv = .slice A m c := by obtain ⟨A, c, hv, _⟩ := hv.puts; exact ⟨A, _, c, hv⟩
  obtain ⟨A, m, c, rfl⟩ := hpv
  have hB : Below W.heap.size W (W.alloc (.cells #[.int .u64 (g : Int), .slice A m c] 108)) := (Below.refl _ _).alloc (Nat.le_refl _) _
  obtain ⟨k0, k1⟩ := txV_box (W := W) g (.slice A m c) 108
  have HBO := Lib.hid (body_any (.slice A m c) l base (W.alloc (.cells #[.int .u64 (g : Int), .slice A m c] 108)) hl hn (World.ownsRow.alloc hv _))
  have HJ := Lib.hid hj
  have hbl : (bodyL l).length ≤ 8192 := by rw [bodyL_length]; omega
  clear hj hv
  go_enter Tryz.func68, Tryz.ntmps68
  go_wp2_with fail
  refine HBO.out.mono ?_
  rintro e w1 ⟨v, rfl, hown, hb1⟩
  have hBW : Below W.heap.size W w1 := hB.trans (hb1.mono (by simp))
  obtain ⟨A2, c2, rfl, hat⟩ := ownT_at hown
  have HAT := Lib.hid hat
  have HK := keepP_length F l
  clear hown hat HBO hb1 k0 k1
  generalize hB2 : bodyL l = bl at *
  have HBL := Lib.hid hB2
  clear hB2
  go_wp2_with fail
  go_loopw [5, 12] (fun v i wr => ∃ k : Nat, k ≤ bl.length ∧ i = .int .i64 k ∧ OwnP wr w1.heap.size v (castL ((keepP F l).take k)) ∧ Below w1.heap.size w1 wr) (fun _ i _ => bl.length - (intOf i).toNat)
  case atStart => exact ⟨0, Nat.zero_le _, rfl, World.ownsRow_nil _ _ _ _, Below.refl _ _⟩
  case round =>
    obtain ⟨k, hk, rfl, hown, hb⟩ := hrel
    by_cases hlt : k < bl.length
    · obtain ⟨gb, rfl, hg1, hg2, hc1, hc2, hcell⟩ := HAT.out k hlt
      have hd1 : wr.cell? ⟨gb, k, none⟩ = some (str bl[k]) := (hb.cell (p := ⟨gb, k, none⟩) hg2).trans hcell
      have hj1 := (HJ.out.below (hBW.trans (hb.mono hBW.size))).c1
      have hts : (keepP F l).take (k + 1) = (keepP F l).take k ++ [(F + 1 + k, bl[k])] := by
        rw [List.take_succ_eq_append_getElem (by omega)]
        have h1 : k < (bodyL l).length := by rw [HBL.out]; exact hlt
        have h2 := keepP_get F l k h1
        have h3 : (bodyL l)[k] = bl[k] := by
          have : (bodyL l)[k]? = bl[k]? := by rw [HBL.out]
          rw [List.getElem?_eq_getElem h1, List.getElem?_eq_getElem hlt] at this
          exact Option.some.inj this
        rw [h2, h3]
      have htl : ((keepP F l).take k).length = k := by rw [List.length_take]; omega
      have HTS := Lib.hid hts
      clear hts hcell
      generalize bl[k] = s at *
      generalize (keepP F l).take k = acc at *
      have hsz := hb.size
      have hcs : castL (acc ++ [(F + 1 + k, s)]) = castL acc ++ [((F : Int) + 1 + (k : Int), s)] := by rw [castL_snoc]; simp
      have hown1 : OwnP (wr.alloc (.cells #[.int .i64 ((F : Int) + 1 + (k : Int)), str s] 81)) w1.heap.size _ (castL acc) := World.ownsRow.alloc hown _
      obtain ⟨x0, x1⟩ := cells2 wr (.int .i64 ((F : Int) + 1 + (k : Int))) (str s) 81
      have hcal : (castL acc).length = k := by rw [castL_length, htl]
      obtain ⟨v', W4, hap, hown4, hB4, -, -, -⟩ := append_put _ w1.heap.size w1.heap.size _ (castL acc) ((F : Int) + 1 + (k : Int), s) hown1 wr.heap.size 1 x0 x1 (by omega) (by simp; omega) (by simp; omega) (fun k hk => (hown1.lt k hk).1)
      rw [← hcs] at hown4
      obtain ⟨A3, c3, rfl, -⟩ := hown.puts
      rw [hcal] at hap ⊢
      have HF := Lib.hid hown4
      have HB := Lib.hid ((hb.alloc hsz (.cells #[.int .i64 ((F : Int) + 1 + (k : Int)), str s] 81)).trans hB4)
      clear hown4 hB4 hown1 hown x0 x1 hcs
      go_wp2_with fail
      go_roundw
      case rel => exact ⟨k + 1, by omega, by simp, by rw [HTS.out]; exact HF.out, HB.out⟩
      case measure => simp [intOf]; omega
    · obtain rfl : k = bl.length := by omega
      rw [← HK, List.take_length] at hown
      go_wp2_with fail
      go_ret
      exact ⟨_, rfl, hown.puts, fun k hk => ⟨by have := (hown.lt k hk).1; have := hBW.size; omega, (hown.lt k hk).2⟩, hBW.trans (hb.mono hBW.size)⟩
theorem readBody_none (base : Nat) (sv : Value) (w : World) (h : OwnT w base sv []) :
    Calls Tryz.prog 73 #[sv, .int .i64 0] w fun e w' => e = .returned (.slice none 0 0) ∧ w = w' := by
  obtain ⟨A, c, rfl, hat⟩ := ownT_at h
  clear hat
  rcases h.2 with ⟨h1, -⟩ | ⟨g, cap, cur, h1, hb, hg, hc1, hc2, -⟩
  · injection h1 with e1 e2 e3
    subst e1 e3
    go_enter Tryz.func73, Tryz.ntmps73
    go_wp2_with fail
    go_loopw [5, 20] (fun v i wr => v = .slice none 0 0 ∧ i = .int .i64 0 ∧ w = wr) (fun _ i _ => 0)
    case atStart => exact ⟨rfl, rfl, rfl⟩
    case round =>
      obtain ⟨rfl, rfl, rfl⟩ := hrel
      go_wp2_with fail
      go_ret
      exact ⟨rfl, rfl⟩
  · injection h1 with e1 e2 e3
    subst e1 e3
    unfold maxLen at hc2
    go_enter Tryz.func73, Tryz.ntmps73
    go_wp2_with fail
    go_loopw [5, 20] (fun v i wr => v = .slice none 0 0 ∧ i = .int .i64 0 ∧ w = wr) (fun _ i _ => 0)
    case atStart => exact ⟨rfl, rfl, rfl⟩
    case round =>
      obtain ⟨rfl, rfl, rfl⟩ := hrel
      go_wp2_with fail
      go_ret
      exact ⟨rfl, rfl⟩
set_option maxHeartbeats 2000000 in
theorem readBody_any (base : Nat) (sv : Value) (l : PutL) (w : World) (h : OwnT w base sv (bodyL l)) (hl : l.length ≤ 4096) (hn : ∀ p ∈ l, p.1 < 65536) (h64 : ∀ p ∈ l, p.2.length = 64) (hne : l ≠ []) :
    Calls Tryz.prog 73 #[sv, .int .i64 (l.length : Int)] w fun e w' => ∃ v', e = .returned v' ∧ OwnP w' w.heap.size v' (castL l) ∧ Below w.heap.size w w' := by
  obtain ⟨A, c, rfl, hat⟩ := ownT_at h
  have hbl := bodyL_length l
  have hpos := List.length_pos_iff.2 hne
  obtain ⟨g, rfl, -, hg, hc1, hc2, -⟩ := hat 0 (by omega)
  have hat2 : ∀ k (hk : k < (bodyL l).length), w.cell? ⟨g, k, none⟩ = some (str (bodyL l)[k]) := fun k hk => by
    obtain ⟨g', h1, -, -, -, -, h2⟩ := hat k hk
    obtain rfl : g = g' := by injection h1 with h1; injection h1
    exact h2
  have hcon : ∀ k (hk : k < l.length), w.cell? ⟨g, (bodyL l).length - l.length + k, none⟩ = some (str l[k].2) := fun k hk => by
    have h1 := hat2 ((bodyL l).length - l.length + k) (by omega)
    have h2 := body_rest l
    have h3 : ((bodyL l).drop ((bodyL l).length - l.length))[k]? = (l.map (·.2))[k]? := by rw [h2]
    rw [List.getElem?_drop, List.getElem?_eq_getElem (by omega), List.getElem?_map, List.getElem?_eq_getElem hk] at h3
    have h4 : (bodyL l)[(bodyL l).length - l.length + k] = l[k].2 := by simpa using h3
    rw [h1, h4]
  have hnum : ∀ k (hk : k < l.length) (hb : k / 32 < (bodyL l).length), leV ((((bodyL l)[k / 32]).drop (k % 32 * 2)).take 2) = l[k].1 := fun k hk hb => body_num l k hk (hn _ (List.getElem_mem _)) hb
  have heach := bodyL_each l h64
  have HAT := Lib.hid hat2
  have HCO := Lib.hid hcon
  have HNU := Lib.hid hnum
  have HEA := Lib.hid heach
  have HN := Lib.hid hn
  clear hat hat2 hcon hnum heach hn h64 h
  have hoff : ((bodyL l).length : Int) - (l.length : Int) = (((bodyL l).length - l.length : Nat) : Int) := by omega
  generalize hB : bodyL l = bl at *
  obtain ⟨o, ho⟩ : ∃ o, o = bl.length - l.length := ⟨_, rfl⟩
  rw [← ho] at hoff HCO
  have HOFF := Lib.hid hoff
  unfold maxLen at hc2
  have hle : l.length + o = bl.length := by omega
  have hn1 : l.length ≤ 32 * (bl.length - l.length) := by omega
  have HLE := Lib.hid hle
  have HBL := Lib.hid hbl
  have HO := Lib.hid ho
  have hI1 : (l.length : Int) ≤ (bl.length : Int) := by omega
  have hI2 : (bl.length : Int) ≤ (c : Int) := by omega
  have hI3 : bl.length ≤ 8192 := by omega
  clear hoff hB hbl hle hn1 ho
  go_enter Tryz.func73, Tryz.ntmps73
  go_wp2_with fail
  rw [show bl.length - (bl.length - l.length) = l.length by omega, show bl.length - l.length = o from HO.out.symm]
  have hoc : o ≤ c := by have := HLE.out; omega
  go_loopw [5, 20] (fun v i wr => ∃ k : Nat, k ≤ l.length ∧ i = .int .i64 k ∧ OwnP wr w.heap.size v (castL (l.take k)) ∧ Below w.heap.size w wr) (fun _ i _ => l.length - (intOf i).toNat)
  case atStart => exact ⟨0, Nat.zero_le _, rfl, World.ownsRow_nil _ _ _ _, Below.refl _ _⟩
  case round =>
    obtain ⟨k, hk, rfl, hown, hb⟩ := hrel
    by_cases hlt : k < l.length
    · have hkb : k / 32 < bl.length := by have := HBL.out; omega
      have hd1 : wr.cell? ⟨g, o + k, none⟩ = some (str l[k].2) := (hb.cell (p := ⟨g, o + k, none⟩) hg).trans (HCO.out k hlt)
      have hd2 : wr.cell? ⟨g, k / 32, none⟩ = some (str bl[k / 32]) := (hb.cell (p := ⟨g, k / 32, none⟩) hg).trans (HAT.out (k / 32) hkb)
      have h64 := HEA.out bl[k / 32] (List.getElem_mem _)
      have hnu := HNU.out k hlt hkb
      have hnx := HN.out l[k] (List.getElem_mem _)
      have hts : castL (l.take (k + 1)) = castL (l.take k) ++ [((l[k].1 : Int), l[k].2)] := by rw [List.take_succ_eq_append_getElem hlt, castL_snoc]
      have hcal : (castL (l.take k)).length = k := by rw [castL_length, List.length_take]; omega
      have HTS := Lib.hid hts
      have HT := Lib.hid fun W => take_any (bl[k / 32].drop (k % 32 * 2)) 2 W (by rw [List.length_drop]; omega) (by decide) (by rw [List.length_drop]; omega) 2 rfl
      rw [hnu] at HT
      have htk : bl[k / 32].take 64 = bl[k / 32] := List.take_of_length_le (by omega)
      rw [← htk] at HT
      clear hts hnu htk
      generalize bl[k / 32] = row at *
      generalize castL (l.take k) = acc at *
      generalize l[k] = x at *
      obtain ⟨s, d⟩ := x
      simp only at hnx
      have hsz := hb.size
      have hm32 : (k : Int) % 32 * 2 ≤ 64 := by omega
      have hm0 : (0 : Int) ≤ (k : Int) % 32 * 2 := by omega
      have hq0 : (0 : Int) ≤ (k : Int) / 32 := by omega
      have hq1 : (k : Int) / 32 < (bl.length : Int) := by omega
      go_wp2_with fail
      with_reducible refine (HT.out _).mono ?_
      rintro e w1 ⟨rfl, hb1⟩
      have hbw := hb.trans (hb1.mono hsz)
      have hsz1 := hbw.size
      have hown1 : OwnP (w1.alloc (.cells #[.int .i64 (s : Int), str d] 81)) w.heap.size _ acc := World.ownsRow.alloc (hown.kept (grown_of_below' hb1 none) (by cases hv : Value.ownBlock _ <;> simp)) _
      obtain ⟨x0, x1⟩ := cells2 w1 (.int .i64 (s : Int)) (str d) 81
      obtain ⟨v', W4, hap, hown4, hB4, -, -, -⟩ := append_put _ w.heap.size w.heap.size _ acc ((s : Int), d) hown1 w1.heap.size 1 x0 x1 (by omega) (by simp; omega) (by simp; omega) (fun k hk => (hown1.lt k hk).1)
      obtain ⟨A3, c3, rfl, -⟩ := hown.puts
      rw [hcal] at hap ⊢
      have hwrap : wrap64 (s : Int) = (s : Int) := IntWalk.wrap64_in _ (by omega)
      have HF := Lib.hid hown4
      have HB := Lib.hid ((hbw.alloc hsz1 (.cells #[.int .i64 (s : Int), str d] 81)).trans hB4)
      clear hown4 hB4 hown1 hown x0 x1 hd1 hd2 HT
      go_wp2_with fail
      go_roundw
      case rel => exact ⟨k + 1, by omega, by simp, by rw [HTS.out]; exact HF.out, HB.out⟩
      case measure => simp [intOf]; omega
    · obtain rfl : k = l.length := by omega
      rw [List.take_length] at hown
      go_wp2_with fail
      go_ret
      exact ⟨_, rfl, hown, hb⟩
end Go.Proofs.YthgdkpkhnhjifaaGreat
/- Layer 4 (journal): rows of sectors, as the statements make and compare them. -/
namespace Go.Proofs.YthgdkpkhnhjifaaGreat
open Go.RowKit Go.Maps
set_option linter.unusedVariables false
set_option linter.unusedSimpArgs false
set_option maxRecDepth 10000
/-- All sectors, in order. -/
def secs (N : Nat) (f : Nat → List UInt8) : List (List UInt8) := (List.range N).map f
theorem secs_length (N : Nat) (f : Nat → List UInt8) : (secs N f).length = N := by simp [secs]
theorem secs_get (N : Nat) (f : Nat → List UInt8) (i : Nat) (h : i < (secs N f).length) : (secs N f)[i] = f i := by simp [secs]
theorem secs_take (N : Nat) (f : Nat → List UInt8) (k : Nat) (h : k ≤ N) : (secs N f).take k = secs k f := by
  unfold secs
  rw [← List.map_take, List.take_range, Nat.min_eq_left h]
theorem secs_succ (k : Nat) (f : Nat → List UInt8) : secs (k + 1) f = secs k f ++ [f k] := by simp [secs, List.range_succ]
theorem secs_congr (N : Nat) (f g : Nat → List UInt8) (h : ∀ i, i < N → f i = g i) : secs N f = secs N g := by
  unfold secs
  exact List.map_congr_left fun i hi => h i (List.mem_range.1 hi)
/-- But an area. -/
def mask (F n : Nat) (f : Nat → List UInt8) (i : Nat) : List UInt8 := if F ≤ i ∧ i < F + n then [] else f i
theorem mask_out {F n i : Nat} (f : Nat → List UInt8) (h : i < F ∨ F + n ≤ i) : mask F n f i = f i := by unfold mask; rw [if_neg (by omega)]
/-- A row of texts, read. -/
abbrev Txt (W : World) (v : Value) (ss : List (List UInt8)) : Prop := Row W v (ss.map str)
theorem Txt.below {w W : World} {v : Value} {ss : List (List UInt8)} (h : Txt w v ss) (hb : Below w.heap.size w W) : Txt W v ss := by
  obtain ⟨A, c, rfl, hc⟩ := h
  refine ⟨A, c, rfl, fun j u hu => ?_⟩
  obtain ⟨g, rfl, hcell⟩ := hc j u hu
  exact ⟨g, rfl, (hb.cell (World.block_lt_of_cell? w _ hcell)).trans hcell⟩
theorem Txt.at {W : World} {v : Value} {ss : List (List UInt8)} (h : Txt W v ss) : ∃ A c, v = .slice A ss.length c ∧ ∀ k (hk : k < ss.length), ∃ g, A = some ⟨g, 0, none⟩ ∧ W.cell? ⟨g, k, none⟩ = some (str ss[k]) := by
  obtain ⟨A, c, rfl, hc⟩ := h
  refine ⟨A, c, by simp, fun k hk => ?_⟩
  obtain ⟨g, rfl, hcell⟩ := hc k (str ss[k]) (by simp [hk])
  exact ⟨g, rfl, hcell⟩
/-- The builtin at texts, from none. -/
theorem append_clone (W : World) (base : Nat) (v : Value) (ss : List (List UInt8)) (h : Txt W v ss) (hn : ss ≠ []) (hl : ss.length ≤ 1048576) (hb : base ≤ W.heap.size) :
    ∃ v' W', (txtAppend #[.slice none 0 0, v]).run Tryz.prog W = .ok v' W' ∧ OwnT W' base v' ss ∧ Below W.heap.size W W' := by
  obtain ⟨A, c, rfl, hc⟩ := h.at
  have hp := List.length_pos_iff.2 hn
  obtain ⟨g, rfl, -⟩ := hc 0 hp
  obtain ⟨i, hi, hz, hsz, hby⟩ := info_parts txtInfo
  obtain ⟨v', W', hap, hown, hg, _, hor⟩ := run_append_own_at (P := Tryz.prog) (w := W) base 33 33 9 i (str []) 1 16 Tryz.underlying33 hi hz hsz hby rfl (by decide) (.slice none 0 0) 0 [] ⟨rfl, .inl ⟨rfl, rfl⟩⟩
    ⟨g, 0, none⟩ ss.length c (ss.map str) (by simp) (fun j u hu => by
      rw [Addr.add_lit]
      rw [List.getElem?_map, Option.map_eq_some_iff] at hu
      obtain ⟨s, hs, rfl⟩ := hu
      obtain ⟨hj, rfl⟩ := List.getElem?_eq_some_iff.1 hs
      obtain ⟨g', e, h⟩ := hc j hj
      obtain rfl : g = g' := by injection e with e; injection e
      rw [Nat.zero_add]; exact h) (fun u hu => by obtain ⟨s, _, rfl⟩ := List.mem_map.1 hu; rfl) (by unfold maxLen; omega) (by omega) hb
  rw [Nat.zero_add, List.nil_append] at hown
  exact ⟨v', W', hap, hown, (Below.refl _ W).grown hg (Nat.le_refl _) (fun k hk => by cases hk)⟩
theorem secs_set (N : Nat) (f : Nat → List UInt8) (i : Nat) (h : i < N) (s : List UInt8) : (secs N f).set i s = secs N (upd f i s) := by
  apply List.ext_getElem
  · simp [secs]
  · intro j h1 h2
    simp only [secs, List.getElem_set, List.getElem_map, List.getElem_range]
    unfold upd
    by_cases e : i = j
    · rw [if_pos e, if_pos e.symm]
    · rw [if_neg e, if_neg (fun x => e x.symm)]
theorem own_form {W : World} {base : Nat} {v : Value} {ss : List (List UInt8)} (h : OwnT W base v ss) (hn : 0 < ss.length) : ∃ g cap, v = .slice (some ⟨g, 0, none⟩) ss.length cap ∧ base ≤ g ∧ g < W.heap.size ∧ ss.length ≤ cap ∧ cap ≤ maxLen := by
  rcases h.2 with ⟨h1, h0⟩ | ⟨g, cap, cur, hv, hb, hg, hc1, hc2, _⟩
  · omega
  · exact ⟨g, cap, hv, hb, (Array.getElem?_eq_some_iff.1 hg).1, hc1, hc2⟩
end Go.Proofs.YthgdkpkhnhjifaaGreat
/- Layer 4 (journal): what was kept; a journal is opened. -/
namespace Go.Proofs.YthgdkpkhnhjifaaGreat
open Go.RowKit Go.Maps
set_option linter.unusedVariables false
set_option linter.unusedSimpArgs false
set_option maxRecDepth 10000
theorem gen_any {S : Nat → Prop} {W : World} {b : Nat} {M : Dv} (jb F n rec : Nat) (h : DevAt S W b M) (hj : JAt W jb b F n rec) (hF : F < M.n) (hw : M.wr ≤ 1099511627776) :
    Calls Tryz.prog 16 #[devp jb] W fun e w' => e = .returned (.int .u64 ((M.headOf F).gen : Int)) ∧ Below W.heap.size W w' := by
  have HH := Lib.hid (head_any jb F n rec h hj hF hw)
  generalize M.headOf F = x at *
  unfold hdV at HH
  have hfield : ∀ (a : Int) (p : Bool) (c : Int) (W : World), (Instr.field 83 (.agg #[.int .u64 a, .bool p, .int .i64 c]) 0).run Tryz.prog W = .ok (.int .u64 a) W := fun a p c W => by kernel_rfl
  clear h hj
  go_enter Tryz.func16, Tryz.ntmps16
  go_wp2_with fail
  refine HH.out.mono ?_
  rintro e w1 ⟨rfl, hb⟩
  go_wp2_with fail
  go_ret
  exact ⟨rfl, hb⟩
set_option maxHeartbeats 2000000 in
/-- The transaction that lies in the area. -/
theorem kept_any {S : Nat → Prop} {W : World} {b : Nat} {M : Dv} (jb F n rec : Nat) (l : PutL) (h : DevAt S W b M) (hj : JAt W jb b F n rec) (hdn : M.down = false) (hw : M.wr ≤ 1099511627776)
    (hT : Tr M.n F n l) (h4 : 4 ≤ n) (h256 : n ≤ 256) (hcap : l.length ≤ capL n) (hwhy : whyL M.n F n (castL l) = 0) (hbody : ∀ k (hk : k < (bodyL l).length), M.cur (F + 1 + k) = (bodyL l)[k]) :
    Calls Tryz.prog 53 #[devp jb, .int .i64 (l.length : Int)] W fun e w' => ∃ v', e = .returned v' ∧ Puts w' v' (castL l) ∧ (∀ k, v'.ownBlock = some k → W.heap.size ≤ k ∧ k < w'.heap.size) ∧ Below W.heap.size W w' := by
  have hfine := h.fine.n
  have harea := hT.area
  have hfits := hT.fits
  have hll := hT.len
  have hbl := bodyL_length l
  have HMX := Lib.hid (max_any jb b F n rec W hj h4 h256)
  have HBS := Lib.hid (bodySize_any l.length W (by omega))
  have HD := Lib.hid h
  have HJ := Lib.hid hj
  have HBY := Lib.hid hbody
  have hn16 : ∀ p ∈ l, p.1 < 65536 := fun p hp => by have := (hT.ok p hp).1; omega
  have h64 : ∀ p ∈ l, p.2.length = 64 := fun p hp => (hT.ok p hp).2
  have HRB0 := Lib.hid fun base sv w (h : OwnT w base sv []) => readBody_none base sv w h
  have HRB := Lib.hid fun base sv w (h : OwnT w base sv (bodyL l)) (hne : l ≠ []) => readBody_any base sv l w h hll hn16 h64 hne
  have HJO := Lib.hid (show JOn W jb b F n rec M.n from by obtain ⟨g, c, m, vals, hI⟩ := h; exact ⟨hj, g, c, hI.head.c2⟩)
  have hpl : ∀ p ∈ castL l, p.2.length ≤ 140737488351232 := fun p hp => by
    obtain ⟨q, hq, rfl⟩ := List.mem_map.1 hp
    have := h64 q hq
    show q.2.length ≤ _
    omega
  have HPL := Lib.hid hpl
  have hcapI : decide ((capL n : Int) < (l.length : Int)) = false := decide_eq_false (by omega)
  have hblI : ((l.length : Int) + 31) / 32 + (l.length : Int) = ((bodyL l).length : Int) := by rw [hbl]; omega
  rw [hblI] at HBS
  generalize capL n = q at *
  have hb8 : (bodyL l).length ≤ 8192 := by rw [hbl]; omega
  have hbF : F + 1 + (bodyL l).length ≤ M.n := by rw [hbl]; omega
  have hcl := castL_length l
  clear h hj hbody hn16 h64 hpl hblI hbl
  generalize hBB : bodyL l = bl at *
  have HBB := Lib.hid hBB
  clear hBB
  go_enter Tryz.func53, Tryz.ntmps53
  go_wp2_with fail
  refine HMX.out.mono ?_
  rintro e w1 ⟨rfl, rfl⟩
  go_wp2_with fail
  refine HBS.out.mono ?_
  rintro e w1 ⟨rfl, rfl⟩
  clear HMX HBS
  go_wp2_with fail
  go_loopw [5, 16] (fun v i wr => ∃ k : Nat, k ≤ bl.length ∧ i = .int .i64 k ∧ OwnT wr W.heap.size v (bl.take k) ∧ Below W.heap.size W wr) (fun _ i _ => bl.length - (intOf i).toNat)
  case atStart => exact ⟨0, Nat.zero_le _, rfl, World.ownsRow_nil _ _ _ _, Below.refl _ _⟩
  case round =>
    obtain ⟨k, hk, rfl, hown, hb⟩ := hrel
    by_cases hlt : k < bl.length
    · have hR := fun W' (hb2 : Below W.heap.size W W') => read_any (HD.out.below hb2) hdn hw (F + 1 + k) (by omega)
      have hci : ((F + 1 + k : Nat) : Int) = (F : Int) + 1 + (k : Int) := by omega
      rw [hci, HBY.out k hlt] at hR
      have HR := Lib.hid hR
      have hts : bl.take (k + 1) = bl.take k ++ [bl[k]] := List.take_succ_eq_append_getElem hlt
      have hcal : (bl.take k).length = k := by rw [List.length_take]; omega
      have HTS := Lib.hid hts
      clear hR hts hci
      generalize bl[k] = s at *
      generalize bl.take k = acc at *
      have hsz := hb.size
      have B := Lib.hid (hb.trans ((Below.refl W.heap.size wr).drew))
      obtain ⟨d0, d1⟩ := HJ.out.up B.out
      have HOWN := Lib.hid hown
      clear hown
      have hw1 : IntKind.i64.wrap ((F : Int) + 1) = (F : Int) + 1 := IntWalk.i64_in _ (by omega)
      have hw2 : IntKind.i64.wrap ((F : Int) + 1 + (k : Int)) = (F : Int) + 1 + (k : Int) := IntWalk.i64_in _ (by omega)
      go_wp2_with fail
      go_region_held3 (fun W' => W'.cell? ⟨jb, 0, none⟩ = some (devp b) ∧ W'.cell? ⟨jb, 1, none⟩ = some (.int .i64 (F : Int)))
        (exact ⟨d0, d1⟩)
        (first | (go_at_call 34; ((with_reducible refine (HR.out _ B.out).mono ?_); rintro e w4 ⟨rfl, hb4⟩; have HB4 := Lib.hid ((Below.refl wr.heap.size wr).drew.trans hb4); have B := Lib.hid (B.out.trans (hb4.mono hsz)); obtain ⟨d0, d1⟩ := HJ.out.up B.out)))
      have hown4 : OwnT w4 W.heap.size _ acc := HOWN.out.kept (grown_of_below' HB4.out none) (by cases hv : Value.ownBlock _ <;> simp)
      have hsz4 := B.out.size
      obtain ⟨v', W5, hap, hown5, hg5, -⟩ := append_txt (w4.alloc (.cells #[str s] 9)) W.heap.size _ acc s (World.ownsRow.alloc hown4 _) w4.heap.size 1 (cell_new_l w4 _ _) (by omega) (by simp; omega)
      have hB5 : Below W.heap.size W W5 := (B.out.alloc hsz4 _).grown hg5 (by simp; omega) (fun k hk => (hown4.lt k hk).1)
      have HF := Lib.hid hown5
      have HB := Lib.hid hB5
      clear hown5 hB5 hg5 hown4 d0 d1
      go_wp2_with fail
      go_roundw
      case rel => exact ⟨k + 1, by omega, by simp, by rw [HTS.out]; exact HF.out, HB.out⟩
      case measure => simp [intOf]; omega
    · obtain rfl : k = bl.length := by omega
      rw [List.take_length] at hown
      have HOWN := Lib.hid hown
      have HW := Lib.hid hwhy
      clear hown hwhy
      by_cases hne : l = []
      · subst hne
        have hb0 : bl = [] := by rw [← HBB.out]; rfl
        subst hb0
        have HR := Lib.hid (HRB0.out _ _ _ HOWN.out)
        go_wp2_with fail
        refine HR.out.mono ?_
        rintro e w1 ⟨rfl, rfl⟩
        have hpn : Puts wr (.slice none 0 0) [] := ⟨none, 0, rfl, fun j p hj => by simp at hj⟩
        have HREF := Lib.hid (refusal_any jb b F n rec M.n (.slice none 0 0) [] wr (HJO.out.below hb) hpn (by simp) (fun p hp => by cases hp) (by omega) h4 h256 hfine)
        have hz : whyL M.n F n [] = 0 := HW.out
        rw [hz] at HREF
        go_wp2_with fail
        refine HREF.out.mono ?_
        rintro e w2 ⟨rfl, hb2⟩
        have HB := Lib.hid (hb.trans (hb2.mono hb.size))
        clear HREF HR hpn
        go_wp2_with fail
        go_ret
        exact ⟨_, rfl, ⟨none, 0, rfl, fun j p hj => by simp [castL] at hj⟩, (fun k hk => by cases hk), HB.out⟩
      · have HR := Lib.hid (HRB.out _ _ _ HOWN.out hne)
        go_wp2_with fail
        refine HR.out.mono ?_
        rintro e w1 ⟨v', rfl, hown1, hb1⟩
        have hbw := hb.trans (hb1.mono hb.size)
        have HREF := Lib.hid (refusal_any jb b F n rec M.n v' (castL l) w1 (HJO.out.below hbw) hown1.puts (by rw [hcl]; unfold maxLen; omega) HPL.out (by omega) h4 h256 hfine)
        rw [HW.out] at HREF
        have HP := Lib.hid hown1
        clear hown1 HR
        go_wp2_with fail
        refine HREF.out.mono ?_
        rintro e w2 ⟨rfl, hb2⟩
        have HB := Lib.hid (hbw.trans (hb2.mono hbw.size))
        have HS := Lib.hid hb2.size
        have HP2 := Lib.hid (HP.out.puts.below hb2)
        have hs1 := hb.size
        clear HREF
        go_wp2_with fail
        go_ret
        exact ⟨_, rfl, HP2.out, fun k hk => ⟨by have := (HP.out.lt k hk).1; omega, by have := (HP.out.lt k hk).2; have := HS.out; omega⟩, HB.out⟩
end Go.Proofs.YthgdkpkhnhjifaaGreat
/- Layer 4 (journal): a journal is opened. -/
namespace Go.Proofs.YthgdkpkhnhjifaaGreat
open Go.RowKit Go.Maps
set_option linter.unusedVariables false
set_option linter.unusedSimpArgs false
set_option maxRecDepth 10000
theorem jopen_nil (F n : Int) (W : World) : Calls Tryz.prog 29 #[.pointer none, .int .i64 F, .int .i64 n] W fun e w' => e = .returned (.tuple #[.pointer none, .int .i64 1]) ∧ W = w' := by
  go_enter Tryz.func29, Tryz.ntmps29
  go_wp2_with fail
  go_ret2
  exact ⟨rfl, rfl⟩
/-- An area that may be. -/
def mayB (N : Nat) (F n : Int) : Bool := decide (4 ≤ n) && decide (n ≤ 256) && decide (0 ≤ F) && decide (F ≤ (N : Int) - n)
set_option maxHeartbeats 1000000 in
theorem jopen_bad {K : Nat → Prop} {w W : World} {b : Nat} {M : Dv} (h : Held K w W b M) (F n : Int) (hb : mayB M.n F n = false) :
    Calls Tryz.prog 29 #[devp b, .int .i64 F, .int .i64 n] W fun e w' => e = .returned (.tuple #[.pointer none, .int .i64 2]) ∧ W = w' := by
  have hn := h.fine.n
  have HL := Lib.hid (held_len h)
  clear h
  unfold mayB at hb
  generalize M.n = N at *
  by_cases h1 : n < 4
  · clear hb
    go_enter Tryz.func29, Tryz.ntmps29
    go_wp2_with fail
    go_ret2
    exact ⟨rfl, rfl⟩
  have e1 : decide (n < 4) = false := decide_eq_false h1
  by_cases h2 : 256 < n
  · clear hb
    go_enter Tryz.func29, Tryz.ntmps29
    go_wp2_with fail
    go_ret2
    exact ⟨rfl, rfl⟩
  have e2 : decide (256 < n) = false := decide_eq_false h2
  by_cases h3 : F < 0
  · clear hb
    go_enter Tryz.func29, Tryz.ntmps29
    go_wp2_with fail
    go_ret2
    exact ⟨rfl, rfl⟩
  have e3 : decide (F < 0) = false := decide_eq_false h3
  have h4 : (N : Int) - n < F := by
    rw [decide_eq_true (show 4 ≤ n by omega), decide_eq_true (show n ≤ 256 by omega), decide_eq_true (show 0 ≤ F by omega)] at hb
    simp at hb
    omega
  clear hb
  have hi1 : -256 ≤ -n := by omega
  go_enter Tryz.func29, Tryz.ntmps29
  go_wp2_with fail
  refine HL.out.mono ?_
  rintro e w1 ⟨rfl, rfl⟩
  go_wp2_with fail
  go_ret2
  exact ⟨rfl, rfl⟩
set_option maxHeartbeats 1000000 in
theorem jopen_down {K : Nat → Prop} {w W : World} {b : Nat} {M : Dv} (h : Held K w W b M) (F n : Nat) (h4 : 4 ≤ n) (h256 : n ≤ 256) (hF : F + n ≤ M.n) (hd : M.down = true) :
    Calls Tryz.prog 29 #[devp b, .int .i64 (F : Int), .int .i64 (n : Int)] W fun e w' => e = .returned (.tuple #[.pointer none, .int .i64 30]) ∧ W = w' := by
  have hn := h.fine.n
  have HL := Lib.hid (held_len h)
  have hD := held_down h
  rw [hd] at hD
  have HD := Lib.hid hD
  clear h hD hd
  generalize M.n = N at *
  have e1 : decide ((n : Int) < 4) = false := decide_eq_false (by omega)
  have e2 : decide (256 < (n : Int)) = false := decide_eq_false (by omega)
  have e4 : decide ((N : Int) - (n : Int) < (F : Int)) = false := decide_eq_false (by omega)
  go_enter Tryz.func29, Tryz.ntmps29
  go_wp2_with fail
  refine HL.out.mono ?_
  rintro e w1 ⟨rfl, rfl⟩
  go_wp2_with fail
  refine HD.out.mono ?_
  rintro e w1 ⟨rfl, rfl⟩
  go_wp2_with fail
  go_ret2
  exact ⟨rfl, rfl⟩
theorem cells4 {W : World} {jb b F n : Nat} (h : W.heap[jb]? = some (.cells #[devp b, .int .i64 (F : Int), .int .i64 (n : Int), .int .i64 0] 78 (0, 0))) : JAt W jb b F n 0 := by
  refine ⟨?_, ?_, ?_, ?_⟩ <;> (unfold World.cell?; rw [h]; rfl)
set_option maxHeartbeats 1000000 in
/-- Where nothing is to be recovered. -/
theorem jopen_clean {K : Nat → Prop} {W : World} {b : Nat} {M : Dv} (h : Held K W W b M) (F n : Nat) (h4 : 4 ≤ n) (h256 : n ≤ 256) (hF : F + n ≤ M.n) (hdn : M.down = false) (hw : M.wr ≤ 1099511627776) (hp : (hd (M.cur F)).pend = false) :
    Calls Tryz.prog 29 #[devp b, .int .i64 (F : Int), .int .i64 (n : Int)] W fun e w' => ∃ jb, e = .returned (.tuple #[devp jb, .int .i64 0]) ∧ W.heap.size ≤ jb ∧ JAt w' jb b F n 0 ∧ Below W.heap.size W w' ∧ Held (fun k => K k ∨ k = jb) w' w' b M := by
  have hn := h.fine.n
  have HL := Lib.hid (held_len h)
  have hD := held_down h
  rw [hdn] at hD
  have HD := Lib.hid hD
  have HH := Lib.hid h
  clear hD
  -- the journal
  obtain ⟨V, hV⟩ : ∃ V, V = W.alloc (.cells #[devp b, .int .i64 (F : Int), .int .i64 (n : Int), .int .i64 0] 78) := ⟨_, rfl⟩
  have hVb : Below W.heap.size W V := by rw [hV]; exact (Below.refl _ _).alloc (Nat.le_refl _) _
  have hVs : V.heap.size = W.heap.size + 1 := by rw [hV]; simp
  have hjat : JAt V W.heap.size b F n 0 := cells4 (by rw [hV]; exact heap_alloc_new W _)
  have hhead : Calls Tryz.prog 40 #[devp W.heap.size] V fun e w' => e = .returned (hdV (M.headOf F)) ∧ Below V.heap.size V w' := by
    obtain ⟨h1, S, h3, _⟩ := h
    exact head_any W.heap.size F n 0 (h3.below hVb) hjat (by omega) hw
  have hpd : (M.headOf F).pend = false := by unfold Dv.headOf; rw [hdn, if_neg (by simp)]; exact hp
  have HHD := Lib.hid hhead
  have HJ := Lib.hid hjat
  clear h hhead hjat hp hdn
  generalize M.headOf F = x at *
  obtain ⟨g, p, c⟩ := x
  simp only at hpd
  subst hpd
  unfold hdV at HHD
  simp only at HHD
  have hfin : ∀ w', Below V.heap.size V w' → W.heap.size ≤ W.heap.size ∧ JAt w' W.heap.size b F n 0 ∧ Below W.heap.size W w' ∧ Held (fun k => K k ∨ k = W.heap.size) w' w' b M := fun w' hb => by
    have hbw := hVb.trans (hb.mono (by omega))
    exact ⟨Nat.le_refl _, HJ.out.below hb, hbw, HH.out.more hbw fun k hk => by
      rcases hk with hk | hk
      · exact .inl hk
      · have := hb.size; exact .inr (by omega)⟩
  have HF := Lib.hid hfin
  clear hfin
  generalize hN : M.n = N at *
  have e1 : decide ((n : Int) < 4) = false := decide_eq_false (by omega)
  have e2 : decide (256 < (n : Int)) = false := decide_eq_false (by omega)
  have e4 : decide ((N : Int) - (n : Int) < (F : Int)) = false := decide_eq_false (by omega)
  go_enter Tryz.func29, Tryz.ntmps29
  go_wp2_with fail
  refine HL.out.mono ?_
  rintro e w1 ⟨rfl, rfl⟩
  go_wp2_with fail
  refine HD.out.mono ?_
  rintro e w1 ⟨rfl, rfl⟩
  go_wp2_with fail
  rw [← hV]
  clear hV
  refine HHD.out.mono ?_
  rintro e w1 ⟨rfl, hb1⟩
  have hB2 := Lib.hid (hb1.alloc hb1.size (.cells #[.int .u64 (g : Int), .bool false, .int .i64 (c : Int)] 83))
  obtain ⟨x0, x1, x2⟩ := row3 (heap_alloc_new w1 (.cells #[.int .u64 (g : Int), .bool false, .int .i64 (c : Int)] 83))
  go_wp2_with fail
  go_ret2
  exact ⟨_, rfl, HF.out _ hB2.out⟩
end Go.Proofs.YthgdkpkhnhjifaaGreat
/- Layer 4 (journal): a journal is opened, and something is recovered. -/
namespace Go.Proofs.YthgdkpkhnhjifaaGreat
open Go.RowKit Go.Maps
set_option linter.unusedVariables false
set_option linter.unusedSimpArgs false
set_option maxRecDepth 10000
/-- What a journal writes of its own turns no device. -/
theorem held_set {K K' : Nat → Prop} {w W : World} {b : Nat} {M : Dv} (h : Held K w W b M) (a : Addr) (v : Value) (ha : K a.block) (hK : ∀ k, K' k → K k) : Held K' (W.setCell a v) (W.setCell a v) b M := by
  obtain ⟨h1, S, h3, h4⟩ := h
  have hne : ∀ k, S k → k ≠ a.block := fun k hk e => h4 k hk (e ▸ ha)
  have hs : (W.setCell a v).heap.size = W.heap.size := by simp [World.setCell]
  refine ⟨.refl fun k hk => ?_, S, h3.kept (by rw [hs]; exact Nat.le_refl _) (fun k hk => Below.heap_setCell W a v k (hne k hk)), fun k hk hk' => h4 k hk (hK k hk')⟩
  rw [hs]
  exact Nat.lt_of_lt_of_le (h1.lt k (hK k hk)) h1.size
theorem keeps_set {K : Nat → Prop} {w W : World} (h : Keeps K w W) (a : Addr) (v : Value) (ha : ¬ K a.block) : Keeps K w (W.setCell a v) :=
  ⟨h.lt, h.os, h.tape, h.output, by simp [World.setCell]; exact h.size, fun k hk => (Below.heap_setCell W a v k (fun e => ha (e ▸ hk))).trans (h.same k hk)⟩
theorem far2 {W : World} {q : Addr} {v a c : Value} {g : Nat} (h : W.cell? q = some v) (hg : g ≠ q.block) : ((W.setCell ⟨g, 0, none⟩ a).setCell ⟨g, 1, none⟩ c).cell? q = some v := by
  rw [World.cell?_setCell_far _ _ _ _ hg, World.cell?_setCell_far _ _ _ _ hg]
  exact h
theorem set2 {W : World} {g : Nat} {a b : Value} {t : TypeId} (h : W.heap[g]? = some (.cells #[a, b] t (0, 0))) (x y : Value) :
    ((W.setCell ⟨g, 0, none⟩ x).setCell ⟨g, 1, none⟩ y).heap[g]? = some (.cells #[x, y] t (0, 0)) :=
  heap_setCell_same _ g 1 _ t y (heap_setCell_same W g 0 _ t x h)
theorem frz2 {W : World} {g : Nat} {a b : Value} {t : TypeId} (h : W.heap[g]? = some (.cells #[a, b] t (0, 0))) : W.frozen? ⟨g, 0, none⟩ = false ∧ W.frozen? ⟨g, 1, none⟩ = false := ⟨frozen_of_row W _ 0 _ t h, frozen_of_row W _ 1 _ t h⟩
theorem jat_set {W : World} {jb b F n m : Nat} (h : W.heap[jb]? = some (.cells #[devp b, .int .i64 (F : Int), .int .i64 (n : Int), .int .i64 0] 78 (0, 0))) : JAt (W.setCell ⟨jb, 3, none⟩ (.int .i64 (m : Int))) jb b F n m := by
  have h2 : (W.setCell ⟨jb, 3, none⟩ (.int .i64 (m : Int))).heap[jb]? = some (.cells #[devp b, .int .i64 (F : Int), .int .i64 (n : Int), .int .i64 (m : Int)] 78 (0, 0)) := heap_setCell_same W jb 3 _ _ _ h
  refine ⟨?_, ?_, ?_, ?_⟩ <;> (unfold World.cell?; rw [h2]; rfl)
theorem castL_mark (F g st c : Nat) : castL (markP F g st c) = [((F : Int), headL g st c)] := rfl
/-- The steps behind the commit. -/
theorem redo_ok {K : Nat → Prop} {w : World} (jb b F n rec g : Nat) (v : Value) (l : PutL) (hj : JAt w jb b F n rec) (hKj : K jb) (hv : Puts w v (castL l)) (hKv : ∀ k, v.ownBlock = some k → K k) (hg : g < 18446744073709551616) :
    StepOk K w jb (txV g v) 76 l ∧ StepOk K w jb (txV g v) 77 (markP F g 0 0) := by
  obtain ⟨A, c, rfl, hc⟩ := hv
  refine ⟨⟨enters_of Tryz.func76 (by kernel_rfl) rfl, fun W hW => ?_⟩, ⟨enters_of Tryz.func77 (by kernel_rfl) rfl, fun W hW => ?_⟩⟩
  · refine (place_any jb g A _ c).mono ?_
    rintro e w' ⟨rfl, hb⟩
    have hp : Puts W (.slice A (castL l).length c) (castL l) := Puts.kept ⟨A, c, rfl, hc⟩ fun k hk => hW.same k (hKv k hk)
    exact ⟨_, rfl, hp.below hb, fun k hk => .inl (hKv k hk), hb⟩
  · refine (end_any jb b F n rec g A _ c (hj.kept (hW.same jb hKj)) hg).mono ?_
    rintro e w' ⟨v', rfl, hp, hf, hb⟩
    exact ⟨_, rfl, hp, fun k hk => .inr (hf k hk), hb⟩
set_option maxHeartbeats 4000000 in
/-- Where a transaction is committed, and not done. -/
theorem jopen_redo {K : Nat → Prop} {W : World} {b : Nat} {M : Dv} (h : Held K W W b M) (F n g : Nat) (l : PutL) (h4 : 4 ≤ n) (h256 : n ≤ 256) (hdn : M.down = false) (hw : M.wr + 8192 ≤ 1099511627776)
    (hT : Tr M.n F n l) (hcap : l.length ≤ capL n) (hwhy : whyL M.n F n (castL l) = 0) (hhd : hd (M.cur F) = ⟨g, true, l.length⟩) (hbody : ∀ k (hk : k < (bodyL l).length), M.cur (F + 1 + k) = (bodyL l)[k]) :
    Calls Tryz.prog 29 #[devp b, .int .i64 (F : Int), .int .i64 (n : Int)] W fun e w' =>
      ((M.runD (redoP F g l)).down = true ∧ e = .returned (.tuple #[.pointer none, .int .i64 30]) ∧ Held K W w' b (M.runD (redoP F g l))) ∨
      ((M.runD (redoP F g l)).down = false ∧ ∃ jb, e = .returned (.tuple #[devp jb, .int .i64 0]) ∧ W.heap.size ≤ jb ∧ JAt w' jb b F n l.length ∧ Keeps K W w' ∧ Held (fun k => K k ∨ k = jb) w' w' b (M.runD (redoP F g l))) := by
  have hn := h.fine.n
  have hg : g < 18446744073709551616 := by have := hd_gen_lt (M.cur F); rw [hhd] at this; exact this
  have hF := hT.area
  have hfits := hT.fits
  have hll := hT.len
  have HL := Lib.hid (held_len h)
  have hD := held_down h
  rw [hdn] at hD
  have HD := Lib.hid hD
  have HH := Lib.hid h
  have HT := Lib.hid hT
  clear hD
  -- the journal
  obtain ⟨V, hV⟩ : ∃ V, V = W.alloc (.cells #[devp b, .int .i64 (F : Int), .int .i64 (n : Int), .int .i64 0] 78) := ⟨_, rfl⟩
  have hVb : Below W.heap.size W V := by rw [hV]; exact (Below.refl _ _).alloc (Nat.le_refl _) _
  have hVs : V.heap.size = W.heap.size + 1 := by rw [hV]; simp
  have hVn : V.heap[W.heap.size]? = some (.cells #[devp b, .int .i64 (F : Int), .int .i64 (n : Int), .int .i64 0] 78 (0, 0)) := by rw [hV]; exact heap_alloc_new W _
  have hjat : JAt V W.heap.size b F n 0 := cells4 hVn
  have hhead : Calls Tryz.prog 40 #[devp W.heap.size] V fun e w' => e = .returned (hdV ⟨g, true, l.length⟩) ∧ Below V.heap.size V w' := by
    obtain ⟨h1, S, h3, _⟩ := h
    have := head_any W.heap.size F n 0 (h3.below hVb) hjat (by omega) (by omega)
    unfold Dv.headOf at this
    rwa [hdn, if_neg (by simp), hhd] at this
  have hkept : ∀ W', Below V.heap.size V W' → Calls Tryz.prog 53 #[devp W.heap.size, .int .i64 (l.length : Int)] W' fun e w' => ∃ A c, e = .returned (.slice A l.length c) ∧ Puts w' (.slice A l.length c) (castL l) ∧ (∀ k, (Value.slice A l.length c).ownBlock = some k → W'.heap.size ≤ k ∧ k < w'.heap.size) ∧ Below W'.heap.size W' w' := fun W' hb => by
    obtain ⟨h1, S, h3, _⟩ := h
    refine Calls.mono (?_ : Calls _ _ _ _ fun e w' => ∃ v', e = .returned v' ∧ Puts w' v' (castL l) ∧ (∀ k, v'.ownBlock = some k → W'.heap.size ≤ k ∧ k < w'.heap.size) ∧ Below W'.heap.size W' w') fun e w' hx => by
      obtain ⟨v', he, hp, hf, hb⟩ := hx
      have hp2 := hp
      obtain ⟨A, c, hv, _⟩ := hp2
      rw [castL_length] at hv
      subst hv
      exact ⟨A, c, he, hp, hf, hb⟩
    exact kept_any W.heap.size F n 0 l ((h3.below hVb).below hb) (hjat.below hb) hdn (by omega) hT h4 h256 hcap hwhy hbody
  have HHD := Lib.hid hhead
  have HKP := Lib.hid hkept
  have HJ := Lib.hid hjat
  clear h hhead hjat hkept hhd hbody hwhy
  unfold hdV at HHD
  simp only at HHD
  have hcl := castL_length l
  generalize hN : M.n = N at *
  have e1 : decide ((n : Int) < 4) = false := decide_eq_false (by omega)
  have e2 : decide (256 < (n : Int)) = false := decide_eq_false (by omega)
  have e4 : decide ((N : Int) - (n : Int) < (F : Int)) = false := decide_eq_false (by omega)
  go_enter Tryz.func29, Tryz.ntmps29
  go_wp2_with fail
  refine HL.out.mono ?_
  rintro e w1 ⟨rfl, rfl⟩
  go_wp2_with fail
  refine HD.out.mono ?_
  rintro e w1 ⟨rfl, rfl⟩
  go_wp2_with fail
  rw [← hV]
  clear hV
  refine HHD.out.mono ?_
  rintro e w1 ⟨rfl, hb1⟩
  obtain ⟨X, hX⟩ : ∃ X, X = w1.alloc (.cells #[.int .u64 (g : Int), .bool true, .int .i64 (l.length : Int)] 83) := ⟨_, rfl⟩
  have hXn : X.heap[w1.heap.size]? = some (.cells #[.int .u64 (g : Int), .bool true, .int .i64 (l.length : Int)] 83 (0, 0)) := by rw [hX]; exact heap_alloc_new w1 _
  have hXs : X.heap.size = w1.heap.size + 1 := by rw [hX]; simp
  have hB2 : Below V.heap.size V X := by rw [hX]; exact hb1.alloc hb1.size _
  obtain ⟨x0, x1, x2⟩ := row3 hXn
  have hXX : w1.alloc (.cells #[.int .u64 (g : Int), .bool true, .int .i64 (l.length : Int)] 83) = X := hX.symm
  clear hX HHD HL HD
  go_wp2_with fail
  have hs1 := hb1.size
  clear hXX
  obtain ⟨Y, hY⟩ : ∃ Y, Y = X.alloc (.cells #[.int .u64 0, .slice none 0 0] 108) := ⟨_, rfl⟩
  have hYn : Y.heap[X.heap.size]? = some (.cells #[.int .u64 0, .slice none 0 0] 108 (0, 0)) := by rw [hY]; exact heap_alloc_new X _
  have hYs : Y.heap.size = X.heap.size + 1 := by rw [hY]; simp
  have hXY : Below X.heap.size X Y := by rw [hY]; exact (Below.refl _ _).alloc (Nat.le_refl _) _
  have hYX : Y.heap[w1.heap.size]? = some (.cells #[.int .u64 (g : Int), .bool true, .int .i64 (l.length : Int)] 83 (0, 0)) := (hXY.block _ (by omega)).trans hXn
  rw [hXs] at hYn
  have B1 := Lib.hid (hB2.trans (Below.refl V.heap.size X).drew)
  have B2 := Lib.hid ((hB2.trans (hXY.mono (by omega))).trans (Below.refl V.heap.size Y).drew)
  have HYN := Lib.hid (show Y.drew.heap[w1.heap.size + 1]? = _ from hYn)
  obtain ⟨x0, x1, x2⟩ := row3 (show X.drew.heap[w1.heap.size]? = _ from hXn)
  obtain ⟨y0, y1, y2⟩ := row3 (show Y.drew.heap[w1.heap.size]? = _ from hYX)
  have HXN := Lib.hid (show X.drew.heap[w1.heap.size]? = _ from hXn)
  have HYX := Lib.hid (show Y.drew.heap[w1.heap.size]? = _ from hYX)
  have hXd : w1.heap.size < X.drew.heap.size := by show _ < X.heap.size; omega
  have hYd : w1.heap.size + 1 < Y.drew.heap.size := by show _ < Y.heap.size; omega
  have hYZ : X.alloc (.cells #[.int .u64 0, .slice none 0 0] 108) = Y := hY.symm
  clear hY hYn hYX hXn hXY
  have H1 := Lib.hid (HKP.out _ B1.out)
  have H2 := Lib.hid (HKP.out _ B2.out)
  go_region_held3 (fun W' => W'.cell? ⟨w1.heap.size, 0, none⟩ = some (.int .u64 (g : Int)) ∧ W'.cell? ⟨w1.heap.size, 2, none⟩ = some (.int .i64 (l.length : Int)))
    (first | exact ⟨x0, x2⟩ | exact ⟨y0, y2⟩ | exact ⟨z0, z2⟩ | exact ⟨up1 z0, up1 z2⟩ | exact ⟨far2 z0 (by simp), far2 z2 (by simp)⟩ | exact ⟨far2 z0 (by simp; omega), far2 z2 (by simp; omega)⟩)
    (first | (go_at_call 53; (first
      | (with_reducible refine H1.out.mono ?_; rintro e w3 ⟨A3, c3, rfl, hpv, hfv, hb3⟩; obtain ⟨z0, z1, z2⟩ := row3 ((hb3.block w1.heap.size (by omega)).trans HXN.out))
      | (with_reducible refine H2.out.mono ?_; rintro e w3 ⟨A3, c3, rfl, hpv, hfv, hb3⟩; obtain ⟨z0, z1, z2⟩ := row3 ((hb3.block w1.heap.size (by omega)).trans HYX.out); have hzn := (hb3.block (w1.heap.size + 1) hYd).trans HYN.out; obtain ⟨t0, t1⟩ := cells_two hzn; obtain ⟨t2, t3⟩ := frz2 hzn))))
  all_goals clear H1 H2 hYZ
  all_goals first
    | (have PZ : Puts ((w3.setCell ⟨w1.heap.size + 1, 0, none⟩ (.int .u64 (g : Int))).setCell ⟨w1.heap.size + 1, 1, none⟩ (.slice A3 l.length c3)) (.slice A3 l.length c3) (castL l) := hpv.kept fun k hk => by
         have h5 := (hfv k hk).1
         have h6 : Y.drew.heap.size = Y.heap.size := rfl
         rw [Below.heap_setCell _ _ _ _ (show k ≠ w1.heap.size + 1 by omega), Below.heap_setCell _ _ _ _ (show k ≠ w1.heap.size + 1 by omega)]
       have FZ : ∀ k, (Value.slice A3 l.length c3).ownBlock = some k → V.heap.size ≤ k ∧ k < ((w3.setCell ⟨w1.heap.size + 1, 0, none⟩ (.int .u64 (g : Int))).setCell ⟨w1.heap.size + 1, 1, none⟩ (.slice A3 l.length c3)).heap.size := fun k hk => by
         have h5 := hfv k hk
         have h6 : Y.drew.heap.size = Y.heap.size := rfl
         simp only [World.size_setCell]
         omega
       have BZ := ((B2.out.trans (hb3.mono (by show V.heap.size ≤ Y.heap.size; omega))).setCell (p := ⟨w1.heap.size + 1, 0, none⟩) (show V.heap.size ≤ w1.heap.size + 1 by omega) (.int .u64 (g : Int))).setCell (p := ⟨w1.heap.size + 1, 1, none⟩) (show V.heap.size ≤ w1.heap.size + 1 by omega) (.slice A3 l.length c3)
       have ZN := set2 hzn (.int .u64 (g : Int)) (.slice A3 l.length c3)
       have hTB : V.heap.size ≤ w1.heap.size + 1 := by omega
       clear x0 x1 x2 y0 y1 y2 z0 z1 z2 hzn t0 t1 t2 t3 hb3 hpv hfv B1 B2 hYd
       generalize ((w3.setCell ⟨w1.heap.size + 1, 0, none⟩ (.int .u64 (g : Int))).setCell ⟨w1.heap.size + 1, 1, none⟩ (.slice A3 l.length c3)) = Z at *
       generalize w1.heap.size + 1 = tb at *)
    | (have PZ : Puts (w3.alloc (.cells #[.int .u64 (g : Int), .slice A3 l.length c3] 108)) (.slice A3 l.length c3) (castL l) := hpv.below ((Below.refl _ _).alloc (Nat.le_refl _) _)
       have FZ : ∀ k, (Value.slice A3 l.length c3).ownBlock = some k → V.heap.size ≤ k ∧ k < (w3.alloc (.cells #[.int .u64 (g : Int), .slice A3 l.length c3] 108)).heap.size := fun k hk => by
         have h5 := hfv k hk
         have h6 : X.drew.heap.size = X.heap.size := rfl
         simp
         omega
       have BY := B1.out.trans (hb3.mono (by show V.heap.size ≤ X.heap.size; omega))
       have BZ := BY.alloc BY.size (.cells #[.int .u64 (g : Int), .slice A3 l.length c3] 108)
       have ZN := heap_alloc_new w3 (.cells #[.int .u64 (g : Int), .slice A3 l.length c3] 108)
       have hTB : V.heap.size ≤ w3.heap.size := BY.size
       clear x0 x1 x2 y0 y1 y2 z0 z1 z2 hb3 hpv hfv B1 B2 BY
       generalize w3.alloc (.cells #[.int .u64 (g : Int), .slice A3 l.length c3] 108) = Z at *
       generalize w3.heap.size = tb at *)
  all_goals
    have hTZ : tb < Z.heap.size := (Array.getElem?_eq_some_iff.1 ZN).1
    obtain ⟨U, hU⟩ : ∃ U, U = Z.drew.alloc (.cells #[meth 76 W.heap.size, meth 77 W.heap.size] 129) := ⟨_, rfl⟩
    have hUb : Below Z.heap.size Z U := by rw [hU]; exact (Below.refl Z.heap.size Z).drew.alloc (Nat.le_refl _) _
    have hUs : U.heap.size = Z.heap.size + 1 := by rw [hU]; simp
    have hUn : U.heap[Z.heap.size]? = some (.cells #[meth 76 W.heap.size, meth 77 W.heap.size] 129 (0, 0)) := by rw [hU]; exact heap_alloc_new Z.drew _
    have hzs := BZ.size
    have BU : Below V.heap.size V U := BZ.trans (hUb.mono hzs)
    have BWU : Below W.heap.size W U := hVb.trans (BU.mono (by omega))
    obtain ⟨K3, hK3⟩ : ∃ K3 : Nat → Prop, K3 = fun k => K k ∨ k = W.heap.size ∨ k = tb ∨ (Value.slice A3 l.length c3).ownBlock = some k ∨ k = Z.heap.size := ⟨_, rfl⟩
    have hHU : Held K3 U U b M := HH.out.more BWU fun k hk => by
      rw [hK3] at hk
      rcases hk with hk | hk | hk | hk | hk
      · exact .inl hk
      · exact .inr (by omega)
      · exact .inr (by omega)
      · exact .inr (by have := FZ k hk; omega)
      · exact .inr (by omega)
    have k3K : ∀ k, K k → K3 k := fun k hk => by rw [hK3]; exact .inl hk
    have k3j : K3 W.heap.size := by rw [hK3]; exact .inr (.inl rfl)
    have k3t : K3 tb := by rw [hK3]; exact .inr (.inr (.inl rfl))
    have k3v : ∀ k, (Value.slice A3 l.length c3).ownBlock = some k → K3 k := fun k hk => by rw [hK3]; exact .inr (.inr (.inr (.inl hk)))
    have k3s : K3 Z.heap.size := by rw [hK3]; exact .inr (.inr (.inr (.inr rfl)))
    have hjU : JAt U W.heap.size b F n 0 := HJ.out.below BU
    have hjUn := (BU.block W.heap.size (by omega)).trans hVn
    have hTU := (hUb.block tb hTZ).trans ZN
    obtain ⟨hs1', hs2'⟩ := redo_ok W.heap.size b F n 0 g (.slice A3 l.length c3) l hjU k3j (PZ.below hUb) k3v hg
    have hrow : Row U (.slice (some ⟨Z.heap.size, 0, none⟩) 2 2) ([76, 77].map fun f => meth f W.heap.size) := by
      obtain ⟨q0, q1⟩ := cells_two hUn
      refine ⟨_, 2, rfl, fun j u hu => ⟨_, rfl, ?_⟩⟩
      match j, hu with
      | 0, hu => simp at hu; subst hu; exact q0
      | 1, hu => simp at hu; subst hu; exact q1
    have hrun := run_any W.heap.size F n 0 g (.slice A3 l.length c3) (.slice (some ⟨Z.heap.size, 0, none⟩) 2 2) [76, 77] (redoP F g l) hHU hjU k3j hrow (fun k hk => by cases hk; exact k3s) rfl (by simp [redoP])
      (fun i h1 h2 => by
        match i, h1, h2 with
        | 0, _, _ => exact hs1'
        | 1, _, _ => exact hs2')
      (by rw [hN]; exact HT.out.redoOk g) (by simp [redoP, markP]; omega) (fun m hm => by simp only [redoP, List.mem_cons, List.not_mem_nil, or_false] at hm; rcases hm with rfl | rfl; omega; simp [markP]) (by simp)
    have hred := redoing_any Z.drew W.heap.size
    rw [← hU] at hred
    have hkU : Keeps K W U := HH.out.keeps.below BWU
    obtain ⟨t0, t1⟩ := cells_two (show Z.drew.heap[tb]? = _ from ZN)
    obtain ⟨u0, u1⟩ := cells_two hTU
    have HRED := Lib.hid hred
    have HTU := Lib.hid hTU
    have HJU := Lib.hid hjUn
    clear hU hred hrow hs1' hs2' hHU hTU hjUn hUn ZN PZ
    cases hdd : (M.runD (redoP F g l)).down
  all_goals
    rw [hdd] at hrun
    first | rw [if_pos rfl] at hrun | rw [if_neg Bool.false_ne_true] at hrun
    have HRUN := Lib.hid hrun
    have HDD := Lib.hid hdd
    clear hrun hdd
    generalize hM2 : M.runD (redoP F g l) = M2 at *
    go_wp2_with fail
    go_region_held3 (fun W' => W'.cell? ⟨tb, 0, none⟩ = some (.int .u64 (g : Int)) ∧ W'.cell? ⟨tb, 1, none⟩ = some (.slice A3 l.length c3))
      (first | exact ⟨t0, t1⟩ | exact ⟨u0, u1⟩ | exact ⟨s0, s1⟩)
      (first
      | (go_at_call 55; (with_reducible refine HRED.out.mono ?_; rintro e w5 ⟨rfl, rfl⟩))
      | (go_at_call 54; (with_reducible refine HRUN.out.mono ?_; rintro e w6 ⟨rfl, hH⟩; obtain ⟨s0, s1⟩ := cells_two ((hH.keeps.same tb k3t).trans HTU.out))))
  all_goals
    have hj6 := (hH.keeps.same W.heap.size k3j).trans HJU.out
    have c3' : w6.cell? ⟨W.heap.size, 3, none⟩ = some (.int .i64 0) := (cells4 hj6).c3
    have f3' : w6.frozen? ⟨W.heap.size, 3, none⟩ = false := frozen_of_row _ _ 3 _ _ hj6
    have HH6 := Lib.hid hH
    have HJ6 := Lib.hid hj6
    clear hH hj6
    go_wp2_with fail
    go_ret2
    subst hM2
    first
      | exact .inl ⟨HDD.out, rfl, HH6.out.back hkU k3K⟩
      | (refine .inr ⟨HDD.out, W.heap.size, rfl, Nat.le_refl _, ?_, ?_, ?_⟩
         · exact jat_set HJ6.out
         · exact keeps_set (hkU.trans HH6.out.keeps k3K) ⟨W.heap.size, 3, none⟩ _ (fun hk => absurd (HH.out.keeps.lt W.heap.size hk) (Nat.lt_irrefl _))
         · exact held_set (K' := fun k => K k ∨ k = W.heap.size) HH6.out ⟨W.heap.size, 3, none⟩ _ k3j (fun k hk => by
             rcases hk with hk | hk
             · exact k3K k hk
             · rw [hk]; exact k3j))
end Go.Proofs.YthgdkpkhnhjifaaGreat
/- Layer 4 (journal): a commit. -/
namespace Go.Proofs.YthgdkpkhnhjifaaGreat
open Go.RowKit Go.Maps
set_option linter.unusedVariables false
set_option linter.unusedSimpArgs false
set_option maxRecDepth 10000
theorem commit_nil (W : World) : Calls Tryz.prog 45 #[.pointer none, .slice none 0 0] W fun e w' => e = .returned (.tuple #[.int .u64 0, .int .i64 1]) ∧ W = w' := by
  go_enter Tryz.func45, Tryz.ntmps45
  go_wp2_with fail
  go_ret2
  exact ⟨rfl, rfl⟩
set_option maxHeartbeats 1000000 in
theorem commit_bad (jb b F n rec N : Nat) (v : Value) (l : PutI) (w : World) (hJ : JOn w jb b F n rec N) (h : Puts w v l) (hl : l.length ≤ maxLen) (hd : ∀ p ∈ l, p.2.length ≤ 140737488351232)
    (hF : F ≤ 4096) (h4 : 4 ≤ n) (h256 : n ≤ 256) (hN : N ≤ 4096) (hwhy : whyL N F n l ≠ 0) :
    Calls Tryz.prog 45 #[devp jb, v] w fun e w' => e = .returned (.tuple #[.int .u64 0, .int .i64 (whyL N F n l)]) ∧ Below w.heap.size w w' := by
  have HR := Lib.hid (refusal_any jb b F n rec N v l w hJ h hl hd hF h4 h256 hN)
  obtain ⟨A, c, rfl, -⟩ := h
  generalize whyL N F n l = r at *
  have hb : (r != 0) = true := by rw [bne_iff_ne]; exact hwhy
  clear hwhy
  go_enter Tryz.func45, Tryz.ntmps45
  go_wp2_with fail
  refine HR.out.mono ?_
  rintro e w1 ⟨rfl, hb1⟩
  go_wp2_with fail
  go_ret2
  exact ⟨rfl, hb1⟩
/-- The builtin at steps, closed. -/
def stepAppend (args : Array Value) : Sem Value := Builtin.append_ #[110, 110] 110 args
@[go_sem ↓] theorem step_append_fold (args : Array Value) : Builtin.append_ #[110, 110] 110 args = stepAppend args := rfl
theorem stepInfo : (Tryz.prog.info? 129).map (fun i => (i.zero, i.size, i.bytes)) = some (some .nilFunc, 1, 8) := by kernel_rfl
/-- Two steps, and two more. -/
theorem append_steps (W : World) (base g1 g2 : Nat) (a b c d : Value) (h1 : W.heap[g1]? = some (.cells #[a, b] 129 (0, 0))) (h2 : W.heap[g2]? = some (.cells #[c, d] 129 (0, 0))) (hb1 : base ≤ g1) (hb : base ≤ W.heap.size) (hc : c.oneCell' = true) (hd : d.oneCell' = true) :
    ∃ v' W', (stepAppend #[.slice (some ⟨g1, 0, none⟩) 2 2, .slice (some ⟨g2, 0, none⟩) 2 2]).run Tryz.prog W = .ok v' W' ∧ Row W' v' [a, b, c, d] ∧ Below base W W' ∧ (∀ k, v'.ownBlock = some k → base ≤ k ∧ k < W'.heap.size) := by
  obtain ⟨i, hi, hz, hsz, hby⟩ := info_parts stepInfo
  have hown : W.ownsRow base 129 1 (.slice (some ⟨g1, 0, none⟩) 2 2) 2 [a, b] := ⟨rfl, .inr ⟨g1, 2, #[a, b], rfl, hb1, h1, Nat.le_refl _, by unfold maxLen; omega, rfl, rfl⟩⟩
  obtain ⟨q0, q1⟩ := cells_two h2
  obtain ⟨v', W', hap, hown', hg, _, _⟩ := run_append_own_at (P := Tryz.prog) (w := W) base 110 110 129 i _ 1 8 Tryz.underlying110 hi hz hsz hby rfl (by decide) _ 2 [a, b] hown
    ⟨g2, 0, none⟩ 2 2 [c, d] rfl (fun j u hj => by
      rw [Addr.add_lit]
      match j, hj with
      | 0, hj => simp at hj; subst hj; exact q0
      | 1, hj => simp at hj; subst hj; exact q1) (fun u hu => by simp at hu; rcases hu with rfl | rfl; exact hc; exact hd) (by unfold maxLen; omega) (by omega) hb
  exact ⟨v', W', hap, row_of_own hown', (Below.refl base W).grown hg hb (fun k hk => (hown.lt k hk).1), fun k hk => hown'.lt k hk⟩
/-- The four steps of a commit. -/
theorem commit_steps {K : Nat → Prop} {w : World} (jb b F n rec g base : Nat) (v : Value) (l : PutL) (hj : JAt w jb b F n rec) (hKj : K jb) (hv : OwnP w base v (castL l)) (hKv : ∀ k, v.ownBlock = some k → K k) (hg : g < 18446744073709551616)
    (hl : l.length ≤ 4096) (hn : ∀ p ∈ l, p.1 < 65536) (hF : F ≤ 4096) :
    StepOk K w jb (txV g v) 68 (keepP F l) ∧ StepOk K w jb (txV g v) 69 (markP F g 1 l.length) := by
  have hcl := castL_length l
  have hp := hv.puts
  refine ⟨⟨enters_of Tryz.func68 (by kernel_rfl) rfl, fun W hW => ?_⟩, ⟨enters_of Tryz.func69 (by kernel_rfl) rfl, fun W hW => ?_⟩⟩
  · have hv2 : OwnP W base v (castL l) := by
      refine ⟨hv.1, ?_⟩
      rcases hv.2 with h0 | ⟨gg, cap, cur, rfl, hb, hgg, hr⟩
      · exact .inl h0
      · exact .inr ⟨gg, cap, cur, rfl, hb, (hW.same gg (hKv gg rfl)).trans hgg, hr⟩
    refine (keep_any jb b F n rec g base v l (hj.kept (hW.same jb hKj)) hv2 hl hn hF).mono ?_
    rintro e w' ⟨v', rfl, hp', hf, hb⟩
    exact ⟨_, rfl, hp', fun k hk => .inr (hf k hk), hb⟩
  · have hp2 : Puts W v (castL l) := hp.kept fun k hk => hW.same k (hKv k hk)
    refine (mark_any jb b F n rec g v (castL l) (hj.kept (hW.same jb hKj)) hp2 hg (by omega)).mono ?_
    rintro e w' ⟨v', rfl, hp', hf, hb⟩
    rw [hcl] at hp'
    exact ⟨_, rfl, hp', fun k hk => .inr (hf k hk), hb⟩
end Go.Proofs.YthgdkpkhnhjifaaGreat
/- Layer 4 (journal): a commit, taken. -/
namespace Go.Proofs.YthgdkpkhnhjifaaGreat
open Go.RowKit Go.Maps
set_option linter.unusedVariables false
set_option linter.unusedSimpArgs false
set_option maxRecDepth 10000
theorem why_zero {N F n : Nat} {l : PutL} (h : whyL N F n (castL l) = 0) : PutsOk N l ∧ (∀ p ∈ l, p.1 < F ∨ F + n ≤ p.1) ∧ l.length ≤ capL n := by
  unfold whyL at h
  split at h
  · cases h
  rename_i h1
  split at h
  · cases h
  rename_i h2
  split at h
  · cases h
  rename_i h3
  rw [castL_length] at h3
  simp only [Bool.not_eq_true, List.any_eq_false] at h1 h2
  refine ⟨fun p hp => ?_, fun p hp => ?_, by omega⟩
  · have := h1 ((p.1 : Int), p.2) (List.mem_map.2 ⟨p, hp, rfl⟩)
    simp [wrongB] at this
    exact ⟨by omega, this.2⟩
  · have := h2 ((p.1 : Int), p.2) (List.mem_map.2 ⟨p, hp, rfl⟩)
    simp [withinB] at this
    omega
theorem tr_last {N F n : Nat} {l : PutL} (h : whyL N F n (castL l) = 0) (h4 : 4 ≤ n) (hF : F + n ≤ N) (hN : N ≤ 4096) : Tr N F n (lastL l) := by
  obtain ⟨h1, h2, h3⟩ := why_zero h
  have hl := lastL_length l
  refine ⟨lastL_nodup l, fun p hp => h1 p (lastL_mem l p hp), fun p hp => h2 p (lastL_mem l p hp), ?_, hF, hN⟩
  unfold capL at h3
  omega
set_option maxHeartbeats 4000000 in
theorem commit_ok {K : Nat → Prop} {w : World} {b : Nat} {M : Dv} (jb F n rec g : Nat) (v : Value) (l : PutL) (h : Held K w w b M) (hj : JAt w jb b F n rec) (hKj : K jb) (hv : Puts w v (castL l)) (h4 : 4 ≤ n) (h256 : n ≤ 256) (hF : F + n ≤ M.n) (hw : M.wr + 16384 ≤ 1099511627776)
    (hwhy : whyL M.n F n (castL l) = 0) (hgen : M.headOf F = ⟨g, false, (M.headOf F).cnt⟩) (hg : g + 1 < 18446744073709551616) :
    Calls Tryz.prog 45 #[devp jb, v] w fun e w' =>
      e = .returned (.tuple #[.int .u64 (if (M.runD (commitP F (g + 1) (lastL l))).down then 0 else (g : Int) + 1), .int .i64 (if (M.runD (commitP F (g + 1) (lastL l))).down then 30 else 0)]) ∧ Held K w w' b (M.runD (commitP F (g + 1) (lastL l))) := by
  have hn := h.fine.n
  obtain ⟨ho1, ho2, ho3⟩ := why_zero hwhy
  have hT := tr_last hwhy h4 hF hn
  have hll := hT.len
  have hcap : capL n ≤ 256 := by unfold capL; omega
  have hcl := castL_length l
  have hcl2 := castL_length (lastL l)
  have hll2 := lastL_length l
  have hpl : ∀ p ∈ castL l, p.2.length ≤ 140737488351232 := fun p hp => by
    obtain ⟨q, hq, rfl⟩ := List.mem_map.1 hp
    have := (ho1 q hq).2
    show q.2.length ≤ _
    omega
  have hn16 : ∀ p ∈ lastL l, p.1 < 65536 := fun p hp => by have := (hT.ok p hp).1; omega
  have hFn : F < M.n := by omega
  have hrefuse := refusal_any jb b F n rec M.n v (castL l) w (JOn.of h hj) hv (by rw [hcl]; unfold maxLen; omega) hpl (by omega) h4 h256 hn
  rw [hwhy] at hrefuse
  have hhead : ∀ W, Below w.heap.size w W → Calls Tryz.prog 40 #[devp jb] W fun e w' => e = .returned (.agg #[.int .u64 (g : Int), .bool false, .int .i64 ((M.headOf F).cnt : Int)]) ∧ Below W.heap.size W w' := fun W hb => by
    obtain ⟨h1, S, h3, _⟩ := h
    have := head_any jb F n rec (h3.below hb) (hj.below hb) hFn (by omega)
    rw [hgen] at this
    exact this
  have hlast : ∀ W, Below w.heap.size w W → Calls Tryz.prog 67 #[v] W fun e w' => ∃ A c, e = .returned (.slice A (lastL l).length c) ∧ OwnP w' W.heap.size (.slice A (lastL l).length c) (castL (lastL l)) ∧ Below W.heap.size W w' := fun W hb => by
    refine (lasting_any v l M.n W (fun p hp => (ho1 p hp).1) hn (by omega) (hv.below hb)).mono ?_
    rintro e w' ⟨v', he, ho, hb'⟩
    obtain ⟨A, c, hvv, _⟩ := ho.puts
    rw [castL_length] at hvv
    subst hvv
    exact ⟨A, c, he, ho, hb'⟩
  have HRF := Lib.hid hrefuse
  have HHD := Lib.hid hhead
  have HLA := Lib.hid hlast
  have HH := Lib.hid h
  have HJ := Lib.hid hj
  have HT := Lib.hid hT
  have HN16 := Lib.hid hn16
  obtain ⟨A0, c0, rfl, -⟩ := hv
  rw [hcl] at HRF HLA ⊢
  generalize (M.headOf F).cnt = cn at *
  clear hrefuse hhead hlast h hj hT hpl hn16 ho1 ho2 hwhy hgen
  generalize hL : lastL l = L at *
  have hgw : IntKind.u64.wrap ((g : Int) + 1) = (g : Int) + 1 := u64_wrap _ (by omega) (by omega)
  have hX1 : ∃ r1 r2 : Int, ((M.runD (commitP F (g + 1) L)).down = false ∧ r1 = (g : Int) + 1 ∧ r2 = 0 ∨ (M.runD (commitP F (g + 1) L)).down = true ∧ r1 = 0 ∧ r2 = 30) ∧ (if (M.runD (commitP F (g + 1) L)).down = true then (0 : Int) else (g : Int) + 1) = r1 ∧ (if (M.runD (commitP F (g + 1) L)).down = true then (30 : Int) else 0) = r2 := by
    cases (M.runD (commitP F (g + 1) L)).down
    · exact ⟨_, _, .inl ⟨rfl, rfl, rfl⟩, rfl, rfl⟩
    · exact ⟨_, _, .inr ⟨rfl, rfl, rfl⟩, rfl, rfl⟩
  obtain ⟨r1, r2, hX1, hr1, hr2⟩ := hX1
  rw [hr1, hr2]
  have HR2 := Lib.hid hr2
  have HX := Lib.hid hX1
  clear hr1 hr2 hX1
  go_enter Tryz.func45, Tryz.ntmps45
  go_wp2_with fail
  refine HRF.out.mono ?_
  rintro e w0 ⟨rfl, hb0⟩
  go_wp2_with fail
  refine (HHD.out _ hb0).mono ?_
  rintro e w1 ⟨rfl, hb1⟩
  have hs0 := hb0.size
  have hbw1 := hb0.trans (hb1.mono hs0)
  obtain ⟨X, hX⟩ : ∃ X, X = w1.alloc (.cells #[.int .u64 (g : Int), .bool false, .int .i64 (cn : Int)] 83) := ⟨_, rfl⟩
  have hXn : X.heap[w1.heap.size]? = some (.cells #[.int .u64 (g : Int), .bool false, .int .i64 (cn : Int)] 83 (0, 0)) := by rw [hX]; exact heap_alloc_new w1 _
  have hXs : X.heap.size = w1.heap.size + 1 := by rw [hX]; simp
  have hB2 : Below w.heap.size w X := by rw [hX]; exact hbw1.alloc hbw1.size _
  obtain ⟨x0, x1, x2⟩ := row3 hXn
  have hXX : w1.alloc (.cells #[.int .u64 (g : Int), .bool false, .int .i64 (cn : Int)] 83) = X := hX.symm
  clear hX HHD HRF
  go_wp2_with fail
  have hs1 := hb1.size
  clear hXX
  obtain ⟨Y, hY⟩ : ∃ Y, Y = X.alloc (.cells #[.int .u64 0, .slice none 0 0] 108) := ⟨_, rfl⟩
  have hYn : Y.heap[X.heap.size]? = some (.cells #[.int .u64 0, .slice none 0 0] 108 (0, 0)) := by rw [hY]; exact heap_alloc_new X _
  have hYs : Y.heap.size = X.heap.size + 1 := by rw [hY]; simp
  have hXY : Below X.heap.size X Y := by rw [hY]; exact (Below.refl _ _).alloc (Nat.le_refl _) _
  have hYX : Y.heap[w1.heap.size]? = some (.cells #[.int .u64 (g : Int), .bool false, .int .i64 (cn : Int)] 83 (0, 0)) := (hXY.block _ (by omega)).trans hXn
  rw [hXs] at hYn
  have hsX := hB2.size
  have B1 := Lib.hid (hB2.trans (Below.refl w.heap.size X).drew)
  have B2 := Lib.hid ((hB2.trans (hXY.mono (by omega))).trans (Below.refl w.heap.size Y).drew)
  have HYN := Lib.hid (show Y.drew.heap[w1.heap.size + 1]? = _ from hYn)
  obtain ⟨x0, x1, x2⟩ := row3 (show X.drew.heap[w1.heap.size]? = _ from hXn)
  obtain ⟨y0, y1, y2⟩ := row3 (show Y.drew.heap[w1.heap.size]? = _ from hYX)
  have HXN := Lib.hid (show X.drew.heap[w1.heap.size]? = _ from hXn)
  have HYX := Lib.hid (show Y.drew.heap[w1.heap.size]? = _ from hYX)
  have hXd : w1.heap.size < X.drew.heap.size := by show _ < X.heap.size; omega
  have hYd : w1.heap.size + 1 < Y.drew.heap.size := by show _ < Y.heap.size; omega
  have hYZ : X.alloc (.cells #[.int .u64 0, .slice none 0 0] 108) = Y := hY.symm
  clear hY hYn hYX hXn hXY
  have H1 := Lib.hid (HLA.out _ B1.out)
  have H2 := Lib.hid (HLA.out _ B2.out)
  go_region_held3 (fun W' => W'.cell? ⟨w1.heap.size, 0, none⟩ = some (.int .u64 (g : Int)))
    (first | exact x0 | exact y0 | exact z0 | exact up1 z0 | exact far2 z0 (by simp) | exact far2 z0 (by simp; omega))
    (first | (go_at_call 67; (first
      | (with_reducible refine H1.out.mono ?_; rintro e w3 ⟨A3, c3, rfl, hpv, hb3⟩; obtain ⟨z0, z1, z2⟩ := row3 ((hb3.block w1.heap.size (by omega)).trans HXN.out))
      | (with_reducible refine H2.out.mono ?_; rintro e w3 ⟨A3, c3, rfl, hpv, hb3⟩; obtain ⟨z0, z1, z2⟩ := row3 ((hb3.block w1.heap.size (by omega)).trans HYX.out); have hzn := (hb3.block (w1.heap.size + 1) hYd).trans HYN.out; obtain ⟨t0, t1⟩ := cells_two hzn; obtain ⟨t2, t3⟩ := frz2 hzn))))
  all_goals clear H1 H2 hYZ
  all_goals first
    | (have PZ : OwnP ((w3.setCell ⟨w1.heap.size + 1, 0, none⟩ (.int .u64 ((g : Int) + 1))).setCell ⟨w1.heap.size + 1, 1, none⟩ (.slice A3 L.length c3)) Y.drew.heap.size (.slice A3 L.length c3) (castL L) :=
         ownsRow_setCell_below (a := ⟨w1.heap.size + 1, 1, none⟩) (ownsRow_setCell_below (a := ⟨w1.heap.size + 1, 0, none⟩) hpv hYd _) hYd _
       have FZ : ∀ k, (Value.slice A3 L.length c3).ownBlock = some k → w.heap.size ≤ k ∧ k < ((w3.setCell ⟨w1.heap.size + 1, 0, none⟩ (.int .u64 ((g : Int) + 1))).setCell ⟨w1.heap.size + 1, 1, none⟩ (.slice A3 L.length c3)).heap.size := fun k hk => by
         have h5 := PZ.lt k hk
         have h6 : Y.drew.heap.size = Y.heap.size := rfl
         omega
       have BZ := ((B2.out.trans (hb3.mono (by show w.heap.size ≤ Y.heap.size; omega))).setCell (p := ⟨w1.heap.size + 1, 0, none⟩) (show w.heap.size ≤ w1.heap.size + 1 by omega) (.int .u64 ((g : Int) + 1))).setCell (p := ⟨w1.heap.size + 1, 1, none⟩) (show w.heap.size ≤ w1.heap.size + 1 by omega) (.slice A3 L.length c3)
       have ZN := set2 hzn (.int .u64 ((g : Int) + 1)) (.slice A3 L.length c3)
       have hTB : w.heap.size ≤ w1.heap.size + 1 := by omega
       clear x0 x1 x2 y0 y1 y2 z0 z1 z2 hzn t0 t1 t2 t3 hb3 hpv B1 B2 hYd
       generalize ((w3.setCell ⟨w1.heap.size + 1, 0, none⟩ (.int .u64 ((g : Int) + 1))).setCell ⟨w1.heap.size + 1, 1, none⟩ (.slice A3 L.length c3)) = Z at *
       generalize w1.heap.size + 1 = tb at *
       generalize Y.drew.heap.size = base at *)
    | (have PZ : OwnP (w3.alloc (.cells #[.int .u64 ((g : Int) + 1), .slice A3 L.length c3] 108)) X.drew.heap.size (.slice A3 L.length c3) (castL L) := World.ownsRow.alloc hpv _
       have FZ : ∀ k, (Value.slice A3 L.length c3).ownBlock = some k → w.heap.size ≤ k ∧ k < (w3.alloc (.cells #[.int .u64 ((g : Int) + 1), .slice A3 L.length c3] 108)).heap.size := fun k hk => by
         have h5 := PZ.lt k hk
         have h6 : X.drew.heap.size = X.heap.size := rfl
         omega
       have BY := B1.out.trans (hb3.mono (by show w.heap.size ≤ X.heap.size; omega))
       have BZ := BY.alloc BY.size (.cells #[.int .u64 ((g : Int) + 1), .slice A3 L.length c3] 108)
       have ZN := heap_alloc_new w3 (.cells #[.int .u64 ((g : Int) + 1), .slice A3 L.length c3] 108)
       have hTB : w.heap.size ≤ w3.heap.size := BY.size
       clear x0 x1 x2 y0 y1 y2 z0 z1 z2 hb3 hpv B1 B2 BY
       generalize w3.alloc (.cells #[.int .u64 ((g : Int) + 1), .slice A3 L.length c3] 108) = Z at *
       generalize w3.heap.size = tb at *
       generalize X.drew.heap.size = base at *)
  all_goals
    have hTZ : tb < Z.heap.size := (Array.getElem?_eq_some_iff.1 ZN).1
    have hzs := BZ.size
    -- the two rows of steps, in either order
    obtain ⟨fs4, hfs4⟩ : ∃ fs4 : List Nat, fs4 = [68, 69, 76, 77] := ⟨_, rfl⟩
    obtain ⟨R1, hR1⟩ : ∃ R1 : Obj, R1 = .cells #[meth 68 jb, meth 69 jb] 129 := ⟨_, rfl⟩
    obtain ⟨R2, hR2⟩ : ∃ R2 : Obj, R2 = .cells #[meth 76 jb, meth 77 jb] 129 := ⟨_, rfl⟩
    have e12 : ((Z.drew.alloc R1).alloc R2).heap[Z.heap.size]? = some R1 := by rw [Below.heap_alloc _ _ _ (by simp)]; exact heap_alloc_new Z.drew _
    have e12' : ((Z.drew.alloc R1).alloc R2).heap[Z.heap.size + 1]? = some R2 := heap_new _ _ _ (by simp)
    have e21 : ((Z.drew.alloc R2).alloc R1).heap[Z.heap.size]? = some R2 := by rw [Below.heap_alloc _ _ _ (by simp)]; exact heap_alloc_new Z.drew _
    have e21' : ((Z.drew.alloc R2).alloc R1).heap[Z.heap.size + 1]? = some R1 := heap_new _ _ _ (by simp)
    have bel : ∀ (P Q : Obj), Below Z.heap.size Z ((Z.drew.alloc P).alloc Q) := fun P Q => ((Below.refl Z.heap.size Z).drew.alloc (Nat.le_refl _) _).alloc (by simp) _
    have b12 := bel R1 R2
    have b21 := bel R2 R1
    rw [hR1, hR2] at e12 e12' e21 e21' b12 b21
    obtain ⟨vA, WA, hapA, hrA, hbA, hoA⟩ := append_steps _ Z.heap.size Z.heap.size (Z.heap.size + 1) _ _ _ _ e12 e12' (Nat.le_refl _) b12.size rfl rfl
    obtain ⟨vB, WB, hapB, hrB, hbB, hoB⟩ := append_steps _ Z.heap.size (Z.heap.size + 1) Z.heap.size _ _ _ _ e21' e21 (by omega) b21.size rfl rfl
    -- the run, wherever the steps lie
    have hrun : ∀ (U : World) (sv : Value), Below Z.heap.size Z U → Row U sv [meth 68 jb, meth 69 jb, meth 76 jb, meth 77 jb] → (∀ k, sv.ownBlock = some k → Z.heap.size ≤ k ∧ k < U.heap.size) →
        Calls Tryz.prog 54 #[devp jb, .agg #[.int .u64 ((g : Int) + 1), .slice A3 L.length c3], sv] U fun e w' => e = .returned (.int .i64 r2) ∧ (w'.cell? ⟨tb, 0, none⟩ = some (.int .u64 ((g : Int) + 1)) ∧ w'.cell? ⟨tb, 1, none⟩ = some (.slice A3 L.length c3)) ∧ Held K w w' b (M.runD (commitP F (g + 1) L)) := by
      intro U sv hUb hrow hown
      have hus := hUb.size
      have BWU : Below w.heap.size w U := BZ.trans (hUb.mono hzs)
      obtain ⟨K3, hK3⟩ : ∃ K3 : Nat → Prop, K3 = fun k => K k ∨ k = tb ∨ (Value.slice A3 L.length c3).ownBlock = some k ∨ sv.ownBlock = some k := ⟨_, rfl⟩
      have hHU : Held K3 U U b M := HH.out.more BWU fun k hk => by
        rw [hK3] at hk
        rcases hk with hk | hk | hk | hk
        · exact .inl hk
        · exact .inr (by omega)
        · exact .inr (by have := FZ k hk; omega)
        · exact .inr (by have := hown k hk; omega)
      have k3K : ∀ k, K k → K3 k := fun k hk => by rw [hK3]; exact .inl hk
      have k3t : K3 tb := by rw [hK3]; exact .inr (.inl rfl)
      have k3v : ∀ k, (Value.slice A3 L.length c3).ownBlock = some k → K3 k := fun k hk => by rw [hK3]; exact .inr (.inr (.inl hk))
      have k3s : ∀ k, sv.ownBlock = some k → K3 k := fun k hk => by rw [hK3]; exact .inr (.inr (.inr hk))
      have hjU : JAt U jb b F n rec := HJ.out.below BWU
      have hTU := (hUb.block tb hTZ).trans ZN
      have PU : OwnP U base (.slice A3 L.length c3) (castL L) := by
        refine ⟨PZ.1, ?_⟩
        rcases PZ.2 with h0 | ⟨gg, cap, cur, hv, hb, hgg, hr⟩
        · exact .inl h0
        · exact .inr ⟨gg, cap, cur, hv, hb, (hUb.block gg (Array.getElem?_eq_some_iff.1 hgg).1).trans hgg, hr⟩
      obtain ⟨s1, s2⟩ := commit_steps jb b F n rec (g + 1) base (.slice A3 L.length c3) L hjU (k3K jb hKj) PU k3v hg hll HN16.out (by omega)
      obtain ⟨s3, s4⟩ := redo_ok jb b F n rec (g + 1) (.slice A3 L.length c3) L hjU (k3K jb hKj) PU.puts k3v hg
      have hbl := bodyL_length L
      have hkl := keepP_length F L
      have := run_any jb F n rec (g + 1) (.slice A3 L.length c3) sv [68, 69, 76, 77] (commitP F (g + 1) L) hHU hjU (k3K jb hKj) hrow k3s rfl (by simp [commitP])
        (fun i h1 h2 => by
          match i, h1, h2 with
          | 0, _, _ => exact s1
          | 1, _, _ => exact s2
          | 2, _, _ => exact s3
          | 3, _, _ => exact s4)
        (HT.out.commitOk (g + 1)) (by simp [commitP, markP]; omega) (fun m hm => by
          simp only [commitP, List.mem_cons, List.not_mem_nil, or_false] at hm
          rcases hm with rfl | rfl | rfl | rfl
          · omega
          · simp [markP]
          · omega
          · simp [markP]) (by simp)
      have hg1 : ((g + 1 : Nat) : Int) = (g : Int) + 1 := by omega
      unfold txV at this
      rw [hg1, HR2.out] at this
      refine this.mono ?_
      rintro e w' ⟨he, hH⟩
      exact ⟨he, cells_two ((hH.keeps.same tb k3t).trans hTU), hH.back (HH.out.keeps.below BWU) k3K⟩
    have HRA := hrun WA vA (b12.trans hbA) hrA hoA
    have HRB := hrun WB vB (b21.trans hbB) hrB hoB
    obtain ⟨t0, t1⟩ := cells_two (show Z.drew.heap[tb]? = _ from ZN)
    have hred1 := fun W => redoing_any W jb
    have HRED := Lib.hid hred1
    clear hred1 hrun
    have hapA' : (stepAppend #[.slice (some ⟨Z.heap.size, 0, none⟩) 2 2, .slice (some ⟨Z.heap.size + 1, 0, none⟩) 2 2]).run Tryz.prog (((Z.alloc (.cells #[.func (.func 68) #[devp jb] #[], .func (.func 69) #[devp jb] #[]] 129)).alloc (.cells #[meth 76 jb, meth 77 jb] 129)).drew) = .ok vA WA := hapA
    have hapB' : (stepAppend #[.slice (some ⟨Z.heap.size + 1, 0, none⟩) 2 2, .slice (some ⟨Z.heap.size, 0, none⟩) 2 2]).run Tryz.prog (((Z.alloc (.cells #[meth 76 jb, meth 77 jb] 129)).alloc (.cells #[.func (.func 68) #[devp jb] #[], .func (.func 69) #[devp jb] #[]] 129)).drew) = .ok vB WB := hapB
    clear hapA hapB
    have cA : WA.cell? ⟨tb, 0, none⟩ = some (.int .u64 ((g : Int) + 1)) ∧ WA.cell? ⟨tb, 1, none⟩ = some (.slice A3 L.length c3) := cells_two ((hbA.block tb hTZ).trans ((b12.block tb hTZ).trans ZN))
    have cB : WB.cell? ⟨tb, 0, none⟩ = some (.int .u64 ((g : Int) + 1)) ∧ WB.cell? ⟨tb, 1, none⟩ = some (.slice A3 L.length c3) := cells_two ((hbB.block tb hTZ).trans ((b21.block tb hTZ).trans ZN))
    have CA := Lib.hid cA
    have CB := Lib.hid cB
    clear cA cB
    clear HR2
    rcases HX.out with ⟨hdd, e1, e2⟩ | ⟨hdd, e1, e2⟩
  all_goals
    subst e1 e2
    have HA := Lib.hid HRA
    have HB := Lib.hid HRB
    clear HRA HRB hdd HX
    generalize hM2 : M.runD (commitP F (g + 1) L) = M2 at *
    go_wp2_with fail
    go_region_held3 (fun W' => W'.cell? ⟨tb, 0, none⟩ = some (.int .u64 ((g : Int) + 1)) ∧ W'.cell? ⟨tb, 1, none⟩ = some (.slice A3 L.length c3))
      (first | exact ⟨t0, t1⟩ | exact ⟨up1 t0, up1 t1⟩ | exact ⟨up1 (up1 t0), up1 (up1 t1)⟩ | exact CA.out | exact CB.out | exact hS6)
      (first
      | (go_at_call 55; (with_reducible refine (HRED.out _).mono ?_; rintro e w5 ⟨rfl, rfl⟩))
      | (go_at_call 54; (first
        | (with_reducible refine HA.out.mono ?_; rintro e w6 ⟨rfl, hS6, hH⟩)
        | (with_reducible refine HB.out.mono ?_; rintro e w6 ⟨rfl, hS6, hH⟩))))
  all_goals
    go_wp2_with fail
    go_ret2
    exact ⟨rfl, hM2 ▸ hH⟩
end Go.Proofs.YthgdkpkhnhjifaaGreat
/- Layer 4 (journal): a device, its journals and rows, held by a statement. -/
namespace Go.Proofs.YthgdkpkhnhjifaaGreat
open Go.RowKit Go.Maps
set_option linter.unusedVariables false
set_option linter.unusedSimpArgs false
set_option maxRecDepth 10000
abbrev Rows3 := List (Value × List (List UInt8))
/-- What a statement keeps beside its device: what was there, its journals, its rows. -/
def Kept (w : World) (js : List Nat) (vs : Rows3) (k : Nat) : Prop := k < w.heap.size ∨ k ∈ js ∨ ∃ x ∈ vs, x.1.ownBlock = some k
structure Law (F n : Nat) (w W : World) (b : Nat) (M : Dv) (js : List (Nat × Nat)) (vs : Rows3) : Prop where
  keeps : Keeps (All w) w W
  held : Held (Kept w (js.map (·.1)) vs) W W b M
  jat : ∀ x ∈ js, JAt W x.1 b F n x.2
  txt : ∀ x ∈ vs, Txt W x.1 x.2
section
variable {F n : Nat} {w W : World} {b : Nat} {M : Dv} {js : List (Nat × Nat)} {vs : Rows3}
theorem Law.below (h : Law F n w W b M js vs) {W' : World} (hb : Below W.heap.size W W') : Law F n w W' b M js vs :=
  ⟨h.keeps.below hb, h.held.more hb fun k hk => .inl hk, fun x hx => (h.jat x hx).below hb, fun x hx => Txt.below (h.txt x hx) hb⟩
theorem Law.all (h : Law F n w W b M js vs) : Below w.heap.size w W := h.keeps.all
theorem Law.fine (h : Law F n w W b M js vs) : Fine M := h.held.fine
theorem Law.on (h : Law F n w W b M js vs) {W' : World} {N : Dv} (hH : Held (Kept w (js.map (·.1)) vs) W W' b N) : Law F n w W' b N js vs :=
  ⟨h.keeps.trans hH.keeps fun k hk => .inl hk, hH.more (Below.refl _ _) fun k hk => .inl hk,
    fun x hx => (h.jat x hx).kept (hH.keeps.same _ (.inr (.inl (List.mem_map.2 ⟨x, hx, rfl⟩)))),
    fun x hx => Row.kept (h.txt x hx) fun k hk => hH.keeps.same k (.inr (.inr ⟨x, hx, hk⟩))⟩
theorem Law.step (h : Law F n w W b M js vs) {f : FuncId} {args : Array Value} {r : Ending} {N : Dv} (hc : Calls Tryz.prog f args W fun e w' => e = r ∧ Held (Kept w (js.map (·.1)) vs) W w' b N) :
    Calls Tryz.prog f args W fun e w' => e = r ∧ Law F n w w' b N js vs := hc.mono fun e w' hx => ⟨hx.1, h.on hx.2⟩
theorem Law.addTxt (h : Law F n w W b M js vs) {W' : World} {v : Value} {ss : List (List UInt8)} (ho : OwnT W' W.heap.size v ss) (hb : Below W.heap.size W W') : Law F n w W' b M js ((v, ss) :: vs) := by
  refine ⟨h.keeps.below hb, h.held.more hb fun k hk => ?_, fun x hx => (h.jat x hx).below hb, fun x hx => ?_⟩
  · rcases hk with hk | hk | ⟨x, hx, hk⟩
    · exact .inl (.inl hk)
    · exact .inl (.inr (.inl hk))
    · rcases List.mem_cons.1 hx with rfl | hx
      · exact .inr (ho.lt k hk)
      · exact .inl (.inr (.inr ⟨x, hx, hk⟩))
  · rcases List.mem_cons.1 hx with rfl | hx
    · exact row_of_own ho
    · exact Txt.below (h.txt x hx) hb
theorem Law.addJ (h : Law F n w W b M js vs) {W' : World} {N : Dv} (jb rec : Nat) (hk : Keeps (Kept w (js.map (·.1)) vs) W W') (hj : JAt W' jb b F n rec) (hH : Held (fun k => Kept w (js.map (·.1)) vs k ∨ k = jb) W' W' b N) : Law F n w W' b N ((jb, rec) :: js) vs := by
  refine ⟨h.keeps.trans hk fun k hk => .inl hk, hH.more (Below.refl _ _) fun k hk => ?_, fun x hx => ?_, fun x hx => Row.kept (h.txt x hx) fun k hk' => hk.same k (.inr (.inr ⟨x, hx, hk'⟩))⟩
  · rcases hk with hk | hk | hk
    · exact .inl (.inl (.inl hk))
    · rw [List.map_cons] at hk
      rcases List.mem_cons.1 hk with rfl | hk
      · exact .inl (.inr rfl)
      · exact .inl (.inl (.inr (.inl hk)))
    · exact .inl (.inl (.inr (.inr hk)))
  · rcases List.mem_cons.1 hx with rfl | hx
    · exact hj
    · exact (h.jat x hx).kept (hk.same _ (.inr (.inl (List.mem_map.2 ⟨x, hx, rfl⟩))))
theorem Law.less (h : Law F n w W b M js vs) {js' : List (Nat × Nat)} {vs' : Rows3} (hj : ∀ x ∈ js', x ∈ js) (hv : ∀ x ∈ vs', x ∈ vs) : Law F n w W b M js' vs' := by
  refine ⟨h.keeps, h.held.more (Below.refl _ _) fun k hk => .inl ?_, fun x hx => h.jat x (hj x hx), fun x hx => h.txt x (hv x hx)⟩
  rcases hk with hk | hk | ⟨x, hx, hk⟩
  · exact .inl hk
  · obtain ⟨x, hx, rfl⟩ := List.mem_map.1 hk
    exact .inr (.inl (List.mem_map.2 ⟨x, hj x hx, rfl⟩))
  · exact .inr (.inr ⟨x, hv x hx, hk⟩)
theorem law_new (N : Nat) (h8 : 8 ≤ N) (hN : N ≤ 4096) (w : World) : Calls Tryz.prog 36 #[.int .i64 (N : Int)] w fun e w' => ∃ b, e = .returned (.tuple #[devp b, .int .i64 0]) ∧ Law F n w w' b (dev0 N) [] [] := by
  refine (held_new N h8 hN (Keeps.start w)).mono ?_
  rintro e w' ⟨b, rfl, hH, hb⟩
  refine ⟨b, rfl, ⟨hH.keeps, hH.more (Below.refl _ _) fun k hk => .inl ?_, (fun x hx => by cases hx), (fun x hx => by cases hx)⟩⟩
  rcases hk with hk | hk | ⟨x, hx, hk⟩
  · exact hk
  · cases hk
  · cases hx
/-! Between two crashes. -/
/-- What may be durable behind a commit that was cut off. -/
def Aft (N F n g : Nat) (f : Nat → List UInt8) (L : PutL) (d : Nat → List UInt8) : Prop := StA N F n g f d ∨ StB N F n (g + 1) f L d ∨ StA N F n (g + 1) (laid f L) d
theorem calm_head (hc : M.calm) (F : Nat) : M.headOf F = hd (M.dur F) := by
  unfold Dv.headOf
  split
  · rfl
  · rw [calm_cur M hc]
theorem sta_head {N g : Nat} {f d : Nat → List UInt8} (h : StA N F n g f d) : hd (d F) = ⟨g, false, (hd (d F)).cnt⟩ := by
  have h1 := h.gen; have h2 := h.pend
  generalize hd (d F) = x at *
  obtain ⟨a, p, c⟩ := x
  simp only at h1 h2
  rw [h1, h2]
theorem sta_lt {N g : Nat} {f d : Nat → List UInt8} (h : StA N F n g f d) : g < 18446744073709551616 := by have := hd_gen_lt (d F); rw [h.gen] at this; exact this
theorem sta_new (N : Nat) : StA N F n 0 (fun _ => List.replicate 64 0) (dev0 N).dur :=
  ⟨by show (hd (List.replicate 64 0)).gen = 0; rw [hd_zero], by show (hd (List.replicate 64 0)).pend = false; rw [hd_zero], fun i _ => rfl⟩
theorem free_of (hd : M.down = false) (hl : M.left = 0) : M.free := ⟨hd, hl⟩
theorem redo_len (F g : Nat) (l : PutL) : (redoP F g l).flatten.length = l.length + 1 := by simp [redoP, markP]
theorem commit_len (F g : Nat) (l : PutL) : (commitP F g l).flatten.length = 2 * l.length + (l.length + 31) / 32 + 2 := by
  have := keepP_length F l
  have := bodyL_length l
  simp [commitP, markP]
  omega
/-- A commit, cut off or not. -/
theorem commit_all {N g : Nat} {f : Nat → List UInt8} {L : PutL} (hT : Tr N F n L) (hN : M.n = N) (hc : M.calm) (hg : g < 18446744073709551615) (hA : StA N F n g f M.dur) :
    (M.runD (commitP F (g + 1) L)).n = N ∧ (M.runD (commitP F (g + 1) L)).wr ≤ M.wr + (2 * L.length + (L.length + 31) / 32 + 2) ∧
    (∀ keep, Aft N F n g f L ((M.runD (commitP F (g + 1) L)).crash keep).dur) ∧
    ((M.runD (commitP F (g + 1) L)).down = false → (M.runD (commitP F (g + 1) L)).calm ∧ StA N F n (g + 1) (laid f L) (M.runD (commitP F (g + 1) L)).dur) ∧
    (M.down = false → M.left = 0 → (M.runD (commitP F (g + 1) L)).down = false ∧ (M.runD (commitP F (g + 1) L)).left = 0) := by
  refine ⟨(runD_n _ _).trans hN, ?_, fun keep => ?_, fun hd => ?_, fun h1 h2 => runD_free M ⟨h1, h2⟩ _⟩
  · have := runD_wr M (commitP F (g + 1) L)
    rwa [commit_len] at this
  · rcases commit_crash hT M hN hc hg hA keep with ⟨-, h⟩ | ⟨-, h⟩
    · exact .inr (.inr h)
    · exact h
  · obtain ⟨h1, -⟩ := runD_calm M hc (commitP F (g + 1) L) (by rw [hN]; exact hT.commitOk (g + 1)) hd
    refine ⟨h1, ?_⟩
    rcases commit_crash hT M hN hc hg hA [] with ⟨-, h⟩ | ⟨h, -⟩
    · rwa [crash_dur _ h1] at h
    · rw [hd] at h; cases h
theorem redo_all {N g : Nat} {f : Nat → List UInt8} {L : PutL} (hT : Tr N F n L) (hN : M.n = N) (hc : M.calm) (hg : g < 18446744073709551615) (hB : StB N F n (g + 1) f L M.dur) :
    (M.runD (redoP F (g + 1) L)).n = N ∧ (M.runD (redoP F (g + 1) L)).wr ≤ M.wr + (L.length + 1) ∧
    (∀ keep, Aft N F n g f L ((M.runD (redoP F (g + 1) L)).crash keep).dur) ∧
    ((M.runD (redoP F (g + 1) L)).down = false → (M.runD (redoP F (g + 1) L)).calm ∧ StA N F n (g + 1) (laid f L) (M.runD (redoP F (g + 1) L)).dur) ∧
    (M.down = false → M.left = 0 → (M.runD (redoP F (g + 1) L)).down = false ∧ (M.runD (redoP F (g + 1) L)).left = 0) := by
  refine ⟨(runD_n _ _).trans hN, ?_, fun keep => ?_, fun hd => ?_, fun h1 h2 => runD_free M ⟨h1, h2⟩ _⟩
  · have := runD_wr M (redoP F (g + 1) L)
    rwa [redo_len] at this
  · rcases redo_crash hT M hN hc (by omega) hB keep with ⟨-, h⟩ | ⟨-, h | h⟩
    · exact .inr (.inr h)
    · exact .inr (.inl h)
    · exact .inr (.inr h)
  · obtain ⟨h1, -⟩ := runD_calm M hc (redoP F (g + 1) L) (by rw [hN]; exact hT.redoOk (g + 1)) hd
    refine ⟨h1, ?_⟩
    rcases redo_crash hT M hN hc (by omega) hB [] with ⟨-, h⟩ | ⟨h, -⟩
    · rwa [crash_dur _ h1] at h
    · rw [hd] at h; cases h
/-! The calls. -/
theorem law_gen {jb rec : Nat} (h : Law F n w W b M js vs) (hj : (jb, rec) ∈ js) (hF : F < M.n) (hw : M.wr ≤ 1099511627776) (hc : M.calm) {N g : Nat} {f : Nat → List UInt8} (hA : StA N F n g f M.dur) :
    Calls Tryz.prog 16 #[devp jb] W fun e w' => e = .returned (.int .u64 (g : Int)) ∧ Law F n w w' b M js vs := by
  obtain ⟨h1, S, h3, -⟩ := h.held
  have := gen_any jb F n rec h3 (h.jat _ hj) hF hw
  rw [calm_head hc, hA.gen] at this
  exact this.mono fun e w' hx => ⟨hx.1, h.below hx.2⟩
theorem law_crash (h : Law F n w W b M js vs) (hw : M.wr ≤ 1099511627776) (keep : List UInt8) (hk : keep.length ≤ 140737488351232) :
    Calls Tryz.prog 28 #[devp b, str keep] W fun e w' => e = .returned (.int .i64 0) ∧ Law F n w w' b (M.crash keep) js vs := h.step (held_crash h.held hw keep hk)
theorem law_fuse (h : Law F n w W b M js vs) (k : Nat) (hk : k ≤ 9223372036854775807) :
    Calls Tryz.prog 27 #[devp b, .int .i64 (k : Int)] W fun e w' => e = .returned (.int .i64 0) ∧ Law F n w w' b (M.fuse k) js vs := h.step (held_fuse h.held k hk)
theorem law_commit {jb rec g : Nat} {v : Value} {l : PutL} {f : Nat → List UInt8} (h : Law F n w W b M js vs) (hj : (jb, rec) ∈ js) (hv : Puts W v (castL l)) (h4 : 4 ≤ n) (h256 : n ≤ 256) (hF : F + n ≤ M.n) (hw : M.wr + 16384 ≤ 1099511627776)
    (hwhy : whyL M.n F n (castL l) = 0) (hc : M.calm) (hA : StA M.n F n g f M.dur) (hg : g + 1 < 18446744073709551616) :
    Calls Tryz.prog 45 #[devp jb, v] W fun e w' =>
      (∃ r1 r2 : Int, e = .returned (.tuple #[.int .u64 r1, .int .i64 r2]) ∧ ((M.runD (commitP F (g + 1) (lastL l))).down = false → r1 = (g : Int) + 1 ∧ r2 = 0)) ∧ Law F n w w' b (M.runD (commitP F (g + 1) (lastL l))) js vs := by
  refine (commit_ok (K := Kept w (js.map (·.1)) vs) jb F n rec g v l h.held (h.jat _ hj) (.inr (.inl (List.mem_map.2 ⟨_, hj, rfl⟩))) hv h4 h256 hF hw hwhy (by rw [calm_head hc]; exact sta_head hA) hg).mono ?_
  rintro e w' ⟨rfl, hH⟩
  refine ⟨⟨_, _, rfl, fun hd => ?_⟩, h.on hH⟩
  rw [hd]
  exact ⟨rfl, rfl⟩
/-- A journal, opened on what a commit left. -/
theorem law_open {g : Nat} {f : Nat → List UInt8} {L : PutL} (h : Law F n w W b M js vs) (hT : Tr M.n F n L) (hcap : L.length ≤ capL n) (hwhy : whyL M.n F n (castL L) = 0) (h4 : 4 ≤ n) (h256 : n ≤ 256) (hc : M.calm) (hw : M.wr + 8192 ≤ 1099511627776)
    (hA : Aft M.n F n g f L M.dur) (hg : g < 18446744073709551615) :
    Calls Tryz.prog 29 #[devp b, .int .i64 (F : Int), .int .i64 (n : Int)] W fun e w' =>
      ∃ M2, M2.n = M.n ∧ M2.wr ≤ M.wr + 4097 ∧ (∀ keep, Aft M.n F n g f L (M2.crash keep).dur) ∧
        ((M2.down = true ∧ (M.down = false → M.left ≠ 0) ∧ e = .returned (.tuple #[.pointer none, .int .i64 30]) ∧ Law F n w w' b M2 js vs) ∨
         (M2.down = false ∧ M2.calm ∧ (M.left = 0 → M2.left = 0) ∧ ∃ jb rec g2 f2, e = .returned (.tuple #[devp jb, .int .i64 0]) ∧ Law F n w w' b M2 ((jb, rec) :: js) vs ∧ StA M.n F n g2 f2 M2.dur ∧ (g2 = g ∧ f2 = f ∨ g2 = g + 1 ∧ f2 = laid f L) ∧ ((hd (M.dur F)).pend = false → rec = 0 ∧ M2 = M))) := by
  have hF := hT.area
  have hll := hT.len
  cases hdM : M.down
  · have clean : ∀ g2 f2, StA M.n F n g2 f2 M.dur → (g2 = g ∧ f2 = f ∨ g2 = g + 1 ∧ f2 = laid f L) → Calls Tryz.prog 29 #[devp b, .int .i64 (F : Int), .int .i64 (n : Int)] W fun e w' =>
        ∃ jb, e = .returned (.tuple #[devp jb, .int .i64 0]) ∧ Law F n w w' b M ((jb, 0) :: js) vs := fun g2 f2 hS hor => by
      refine (jopen_clean h.held F n h4 h256 hF hdM (by omega) (by rw [calm_cur M hc]; exact hS.pend)).mono ?_
      rintro e w' ⟨jb, rfl, hjb, hj, hb, hH⟩
      exact ⟨jb, rfl, h.addJ jb 0 (h.held.keeps.below hb) hj hH⟩
    have hkeep : ∀ keep, Aft M.n F n g f L (M.crash keep).dur := fun keep => by rw [crash_dur M hc]; exact hA
    rcases hA with hS | hB | hS
    · refine (clean g f hS (.inl ⟨rfl, rfl⟩)).mono ?_
      rintro e w' ⟨jb, rfl, hL⟩
      exact ⟨M, rfl, by omega, hkeep, .inr ⟨hdM, hc, fun x => x, jb, 0, g, f, rfl, hL, hS, .inl ⟨rfl, rfl⟩, fun _ => ⟨rfl, rfl⟩⟩⟩
    · obtain ⟨r1, r2, r3, r4, r5⟩ := redo_all hT rfl hc hg hB
      have hhd : hd (M.cur F) = ⟨g + 1, true, L.length⟩ := by rw [calm_cur M hc]; exact hB.head
      have hbody : ∀ k (hk : k < (bodyL L).length), M.cur (F + 1 + k) = (bodyL L)[k] := fun k hk => by rw [calm_cur M hc]; exact hB.body k hk
      refine (jopen_redo h.held F n (g + 1) L h4 h256 hdM (by omega) hT hcap hwhy hhd hbody).mono ?_
      rintro e w' (⟨hdn, rfl, hH⟩ | ⟨hdn, jb, rfl, hjb, hj, hk, hH⟩)
      · refine ⟨_, r1, by omega, r3, .inl ⟨hdn, fun _ hl => ?_, rfl, h.on hH⟩⟩
        have := (r5 hdM hl).1
        rw [hdn] at this; cases this
      · exact ⟨_, r1, by omega, r3, .inr ⟨hdn, (r4 hdn).1, fun hl => (r5 hdM hl).2, jb, L.length, g + 1, laid f L, rfl, h.addJ jb L.length hk hj hH, (r4 hdn).2, .inr ⟨rfl, rfl⟩, fun hp => by rw [hB.head] at hp; cases hp⟩⟩
    · refine (clean (g + 1) (laid f L) hS (.inr ⟨rfl, rfl⟩)).mono ?_
      rintro e w' ⟨jb, rfl, hL⟩
      exact ⟨M, rfl, by omega, hkeep, .inr ⟨hdM, hc, fun x => x, jb, 0, g + 1, laid f L, rfl, hL, hS, .inr ⟨rfl, rfl⟩, fun _ => ⟨rfl, rfl⟩⟩⟩
  · refine (jopen_down h.held F n h4 h256 hF hdM).mono ?_
    rintro e w' ⟨rfl, rfl⟩
    exact ⟨M, rfl, by omega, fun keep => by rw [crash_dur M hc]; exact hA, .inl ⟨hdM, (fun hx => by cases hx), rfl, h⟩⟩
end
end Go.Proofs.YthgdkpkhnhjifaaGreat
/- Layer 4 (journal): the chapter's examples, walked. -/
namespace Go.Proofs.YthgdkpkhnhjifaaGreat
open Go.RowKit Go.Maps
set_option linter.unusedVariables false
set_option linter.unusedSimpArgs false
set_option maxRecDepth 10000
section
variable {F n : Nat} {w W : World} {b : Nat} {M : Dv} {js : List (Nat × Nat)} {vs : Rows3}
/-- A journal, opened where nothing is to be recovered. -/
theorem law_open_new {g : Nat} {f : Nat → List UInt8} (h : Law F n w W b M js vs) (h4 : 4 ≤ n) (h256 : n ≤ 256) (hF : F + n ≤ M.n) (hc : M.calm) (hd : M.down = false) (hw : M.wr + 8192 ≤ 1099511627776) (hS : StA M.n F n g f M.dur) :
    Calls Tryz.prog 29 #[devp b, .int .i64 (F : Int), .int .i64 (n : Int)] W fun e w' => ∃ jb, e = .returned (.tuple #[devp jb, .int .i64 0]) ∧ Law F n w w' b M ((jb, 0) :: js) vs := by
  refine (jopen_clean h.held F n h4 h256 hF hd (by omega) (by rw [calm_cur M hc]; exact hS.pend)).mono ?_
  rintro e w' ⟨jb, rfl, hjb, hj, hb, hH⟩
  exact ⟨jb, rfl, h.addJ jb 0 (h.held.keeps.below hb) hj hH⟩
/-- A commit on a device without a fuse. -/
theorem law_commit_free {jb rec g : Nat} {v : Value} {l : PutL} {f : Nat → List UInt8} (h : Law F n w W b M js vs) (hj : (jb, rec) ∈ js) (hv : Puts W v (castL l)) (h4 : 4 ≤ n) (h256 : n ≤ 256) (hF : F + n ≤ M.n) (hw : M.wr + 16384 ≤ 1099511627776)
    (hwhy : whyL M.n F n (castL l) = 0) (hc : M.calm) (hA : StA M.n F n g f M.dur) (hg : g + 1 < 18446744073709551616) (hd : M.down = false) (hl : M.left = 0) :
    Calls Tryz.prog 45 #[devp jb, v] W fun e w' =>
      e = .returned (.tuple #[.int .u64 ((g : Int) + 1), .int .i64 0]) ∧ ∃ M2, Law F n w w' b M2 js vs ∧ M2.n = M.n ∧ M2.down = false ∧ M2.left = 0 ∧ M2.calm ∧ M2.wr ≤ M.wr + (2 * l.length + (l.length + 31) / 32 + 2) ∧ StA M.n F n (g + 1) (laid f l) M2.dur := by
  have hT := tr_last hwhy h4 hF h.fine.n
  obtain ⟨h1, h2, h3, h5, h6⟩ := commit_all hT rfl hc (by omega) hA
  obtain ⟨h7, h8⟩ := h6 hd hl
  obtain ⟨h9, h10⟩ := h5 h7
  refine (law_commit h hj hv h4 h256 hF hw hwhy hc hA hg).mono ?_
  rintro e w' ⟨⟨r1, r2, rfl, hr⟩, hL⟩
  obtain ⟨rfl, rfl⟩ := hr h7
  rw [laid_lastL] at h10
  have := lastL_length l
  exact ⟨rfl, _, hL, h1, h7, h8, h9, by omega, h10⟩
theorem law_refused {jb rec : Nat} {v : Value} {l : PutI} (h : Law F n w W b M js vs) (hj : (jb, rec) ∈ js) (hv : Puts W v l) (hl : l.length ≤ maxLen) (hd : ∀ p ∈ l, p.2.length ≤ 140737488351232) (h4 : 4 ≤ n) (h256 : n ≤ 256) (hF : F ≤ 4096) (hwhy : whyL M.n F n l ≠ 0) :
    Calls Tryz.prog 45 #[devp jb, v] W fun e w' => e = .returned (.tuple #[.int .u64 0, .int .i64 (whyL M.n F n l)]) ∧ Law F n w w' b M js vs :=
  (commit_bad jb b F n rec M.n v l W (JOn.of h.held (h.jat _ hj)) hv hl hd hF h4 h256 h.fine.n hwhy).mono fun e w' hx => ⟨hx.1, h.below hx.2⟩
theorem law_read (h : Law F n w W b M js vs) (hd : M.down = false) (hw : M.wr ≤ 1099511627776) (i : Nat) (hi : i < M.n) :
    Calls Tryz.prog 34 #[devp b, .int .i64 (i : Int)] W fun e w' => e = .returned (.tuple #[str (M.cur i), .int .i64 0]) ∧ Law F n w w' b M js vs := h.step (held_read h.held hd hw i hi)
theorem law_max {jb rec : Nat} (h : Law F n w W b M js vs) (hj : (jb, rec) ∈ js) (h4 : 4 ≤ n) (h256 : n ≤ 256) :
    Calls Tryz.prog 13 #[devp jb] W fun e w' => e = .returned (.int .i64 (capL n : Int)) ∧ W = w' := max_any jb b F n rec W (h.jat _ hj) h4 h256
end
theorem puts_lit' (w : World) (s : Nat) (d : List UInt8) (n : Int) (hn : n = s) : Puts (w.alloc (.cells #[.int .i64 n, str d] 81)) (.slice (some ⟨w.heap.size, 0, none⟩) 1 1) (castL [(s, d)]) := by
  subst hn
  exact puts_lit w (s : Int) d
def exPut : PutL := [(20, secOf [97])]
theorem exFacts : whyL 32 2 8 (castL exPut) = 0 ∧ whyL 32 2 8 (castL [(9, secOf [97])]) = 40 ∧ capL 8 = 6 ∧ laid (fun _ => List.replicate 64 0) exPut 20 = secOf [97] := by
  decide +kernel
end Go.Proofs.YthgdkpkhnhjifaaGreat
