/- Layer 8 (tx): what was written, collected; Commit, Abort. -/
import Derived.Test.YthgdkpkhnhjifaaGreatTx4
namespace Go.Proofs.YthgdkpkhnhjifaaGreat
open Go.RowKit Go.Maps Go.Sort Go.Shelf
set_option linter.unusedVariables false
set_option linter.unusedSimpArgs false
set_option maxRecDepth 10000
attribute [local go_sem] Oper.semAt_some
theorem castL_nth {L : PutL} {j : Nat} (hj : j < L.length) : castL (L.take (j + 1)) = castL (L.take j) ++ [(((nth L j).1 : Int), (nth L j).2)] := by
  rw [nth_get hj, List.take_succ_eq_append_getElem hj, castL_snoc]
set_option maxRecDepth 100000 in
set_option maxHeartbeats 2000000 in
theorem appendSeq_any {W : World} {tb b jb m n : Nat} {L : PutL} (Bd : Nat) (h : TxIn W tb b jb m n L) (hbd : W.cell? ⟨Bd, 0, none⟩ = some (devp tb)) :
    Calls Tryz.prog 62 #[.slice none 0 0, .func (.func 63) #[] #[.pointer (some ⟨Bd, 0, none⟩)]] W fun e w' => ∃ v, e = .returned v ∧ OwnP w' W.heap.size v (castL L) ∧ Below W.heap.size W w' := by
  refine (callsIn_wide (n := 8)).1 ?_
  refine callsIn_of_wp_marks Tryz.func62 rfl trivial ?_ rfl
  simp only [Tryz.ntmps62, List.size_toArray, List.length_cons, List.length_nil, Nat.reduceAdd, Nat.reduceSub, Array.replicate_succ, Array.replicate_zero, List.push_toArray, List.append_toArray, List.nil_append, List.cons_append]
  have HI := Lib.hid h
  have HBd := Lib.hid hbd
  have hBdl := World.block_lt_of_cell? W _ hbd
  clear h hbd
  gi_wp2_with fail
  obtain ⟨W0, hW0⟩ : ∃ W0, W.alloc (.cells #[Value.slice none 0 0] 37) = W0 := ⟨_, rfl⟩
  have hs0 : W0.heap.size = W.heap.size + 1 := by rw [← hW0]; simp
  have hB0 : Below W.heap.size W W0 := by rw [← hW0]; exact (Below.refl _ W).alloc (Nat.le_refl _) _
  have hg1 : W0.heap[W.heap.size]? = some (.cells #[Value.slice none 0 0] 37 (0, 0)) := by
    rw [← hW0]; exact heap_new _ _ _ rfl
  rw [hW0]
  obtain ⟨htl, hml⟩ := HI.out.lt
  have hBk : W.heap.size < W0.heap.size := by omega
  have hD0 : TxIn W0 tb b jb m n L := HI.out.below hB0
  have hbx0 : W0.cell? ⟨Bd, 0, none⟩ = some (devp tb) := (hB0.cell hBdl).trans HBd.out
  have hbox : ∀ (p len : Nat) (cs : List Value) (V : World), TouchI W0 tb b jb m n L W.heap.size p 81 2 len cs V → TxIn V tb b jb m n L ∧ V.cell? ⟨Bd, 0, none⟩ = some (devp tb) := by
    rintro p len cs V ⟨hT, ho, _⟩
    exact ⟨hT, (cell_same 0 (ho.block _ (by omega) (by omega))).trans hbx0⟩
  have h00 : ∀ p, TouchI W0 tb b jb m n L W.heap.size p 81 2 0 [] W0 := fun p => ⟨hD0, Only.refl _ _, .slice none 0 0, cell_of_row _ _ 0 _ _ _ hg1, frozen_of_row _ _ 0 _ _ hg1, World.ownsRow_nil _ _ _ _, fun k hk => by cases hk⟩
  have Hbox := Lib.hid hbox
  clear hbox hg1 hW0 hbx0
  refine range_told (n := 8) (by decide) (gf := 63) (lb := #[.pointer (some ⟨Bd, 0, none⟩)]) rfl (enters_of Tryz.func63 (by kernel_rfl) rfl) L.length
    (fun j args V => args = #[putX (nth L j).1 (nth L j).2])
    (fun p j V => TouchI W0 tb b jb m n L W.heap.size p 81 2 j (putC (castL (L.take j))) V) ?hit ?h0 ?hput
    (fun p j a' V => TouchI W0 tb b jb m n L W.heap.size p 81 2 j (putC (castL (L.take j))) V ∧ ∃ Br, a' = { tmps := #[.slice none 0 0, .func (.func 63) #[] #[.pointer (some ⟨Bd, 0, none⟩)], .pointer (some ⟨W.heap.size, 0, none⟩), undef, .slice none 0 0, .pointer (some ⟨Br, 0, none⟩), .func (.func 63) #[] #[.pointer (some ⟨Bd, 0, none⟩)], putX (nth L j).1 (nth L j).2, undef, undef, undef, undef, undef], defers := [] } ∧
      W0.heap.size + 2 ≤ Br ∧ V.cell? ⟨Br, 0, none⟩ = some (.int .i64 ((nth L j).1 : Int)) ∧ V.cell? ⟨Br, 1, none⟩ = some (str (nth L j).2)) ?hAx ?hassign ?hbody ?hdone
  case hit =>
    intro l J V hJI hst hrd hb
    exact hit_tx (w := W0) Bd _ (fun p j V hV => Hbox.out _ _ _ V hV) (fun V hb => Hbox.out 0 0 [] V ((h00 0).below hBk hb)) l J V hJI hst hrd hb
  case h0 =>
    intro p V hb _ _
    exact (h00 p).below hBk hb
  case hput =>
    intro p j V l o hl hl2 h
    exact h.put hBk (by omega) (by omega) l o hl hl2
  case hAx =>
    rintro p j a' V l o hl hl2 ⟨hD, Br, rfl, hBr, hc, hc1⟩
    exact ⟨hD.put hBk (by omega) (by omega) l o hl hl2, Br, rfl, hBr, (cell_same 0 (World.putObj_heap_other (by omega))).trans hc, (cell_same 1 (World.putObj_heap_other (by omega))).trans hc1⟩
  case hassign =>
    rintro l p j args V hj hp1 hp2 hD rfl
    refine ⟨rfl, ?_⟩
    have HD := Lib.hid hD
    clear hD
    generalize nth L j = x
    obtain ⟨s, d⟩ := x
    unfold putX
    gi_wp2
    have hsz := HD.out.2.1.size
    have hbl : Below V.heap.size V (V.alloc (.cells #[.int .i64 (s : Int), str d] 81)) := (Below.refl _ V).alloc (Nat.le_refl _) _
    exact ⟨KeepB.below hbl (by omega) hp2, HD.out.below hBk hbl, V.heap.size, rfl, by omega, cell_of_row _ _ 0 _ _ _ (heap_alloc_new V _), cell_of_row _ _ 1 _ _ _ (heap_alloc_new V _)⟩
  case hbody =>
    rintro l p j a' V hj hp1 hp2 ⟨hD, Br, rfl, hBr, hcB, hcB1⟩
    have hlen : L.length ≤ 4096 := by have h1 := HI.out.len_le; have h2 := HI.out.small; omega
    have hts := castL_nth hj
    have hlj : (castL (L.take j)).length = j := by rw [castL_length, List.length_take]; omega
    have HT := Lib.hid hts
    clear hts
    generalize nth L j = x at *
    obtain ⟨s, d⟩ := x
    simp only at hcB hcB1 HT
    generalize castL (L.take j) = xs at *
    obtain ⟨hT, ho, v, hc, hf, hw, hp⟩ := hD
    have hsz := ho.size
    have hvb : ∀ k, v.ownBlock = some k → W0.heap.size + 2 ≤ k ∧ k < V.heap.size := fun k hk => hw.lt k hk
    have hw' : OwnP V (W0.heap.size + 2) v xs := by show V.ownsRow _ _ _ _ xs.length _; rw [hlj]; exact hw
    obtain ⟨k0, k1⟩ := cells2 V (.int .i64 (s : Int)) (str d) 81
    obtain ⟨v', W2, hap, hown, hbl2, -, hg, hor⟩ := append_put (V.alloc (.cells #[.int .i64 (s : Int), str d] 81)) (W0.heap.size + 2) (W0.heap.size + 2) v xs ((s : Int), d) (World.ownsRow.alloc hw' _) V.heap.size 1 k0 k1 (by omega) (by simp; omega) (by simp; omega) (fun k hk => (hvb k hk).1)
    have hown' : W2.ownsRow (W0.heap.size + 2) 81 2 v' (j + 1) (putC (xs ++ [((s : Int), d)])) := by
      have := hown
      unfold OwnP at this
      rwa [List.length_append, hlj] at this
    obtain ⟨g', cap', rfl⟩ := ownsRow_succ hown'
    have hsz2 : V.heap.size + 1 ≤ W2.heap.size := by have := hg.size; simpa using this
    have hkeep : ∀ k, k < V.heap.size → v.ownBlock ≠ some k → W2.heap[k]? = V.heap[k]? := fun k hk hne => (hg.block k (by simp; omega) (fun e => hne e.symm)).trans (Below.heap_alloc V _ k hk)
    have hlow : ∀ k, k < W0.heap.size + 2 → W2.heap[k]? = V.heap[k]? := by
      intro k hk
      by_cases hkv : k < V.heap.size
      · exact hkeep k hkv (fun e => by have := hvb k e; omega)
      · exfalso; omega
    have hc2 : W2.cell? ⟨W.heap.size, 0, none⟩ = some v := (cell_same 0 (hlow _ (by omega))).trans hc
    have hf2 : W2.frozen? ⟨W.heap.size, 0, none⟩ = false := (World.frozen?_of_block (a := ⟨W.heap.size, 0, none⟩) (hlow W.heap.size (by omega))).trans hf
    have hset : ∀ k, k ≠ W.heap.size → (W2.setCell ⟨W.heap.size, 0, none⟩ (.slice (some ⟨g', 0, none⟩) (j + 1) cap')).heap[k]? = W2.heap[k]? := fun k hk => set_other _ _ _ _ _ hk
    have hfin : KeepB W0.heap.size p V (W2.setCell ⟨W.heap.size, 0, none⟩ (.slice (some ⟨g', 0, none⟩) (j + 1) cap')) ∧ TouchI W0 tb b jb m n L W.heap.size p 81 2 (j + 1) (putC (xs ++ [((s : Int), d)])) (W2.setCell ⟨W.heap.size, 0, none⟩ (.slice (some ⟨g', 0, none⟩) (j + 1) cap')) := by
      refine ⟨⟨?_, ?_, ?_⟩, ?_, ?_, _, set_here _ hc2, by rw [World.frozen?_setCell]; exact hf2, ?_, ?_⟩
      · rw [hset _ (by omega)]; exact hlow _ (by omega)
      · rw [hset _ (by omega)]; exact hlow _ (by omega)
      · rw [hset _ (by omega)]; exact hkeep p hp2 (fun e => hp p e rfl)
      · exact hT.kept (by rw [hset _ (by omega)]; exact hlow _ (by omega)) (by rw [hset _ (by omega)]; exact hlow _ (by omega))
      · refine ⟨hg.os.trans ho.os, hg.tape.trans ho.tape, hg.output.trans ho.output, by rw [set_size]; omega, fun k hk hn => ?_⟩
        rw [hset k hn, hlow k (by omega)]
        exact ho.block k hk hn
      · exact ownsRow_setCell_below hown' (by show W.heap.size < _; omega) _
      · intro k hk
        rcases hor with e | e
        · rw [e] at hk; exact hp k hk
        · rw [e] at hk; cases hk; simp; omega
    have HF := Lib.hid hfin
    clear hfin hkeep hlow hset hvb hown hown' hg hor hw hw' hp hT ho hbl2
    gi_wp2
    exact ⟨HF.out.1, by rw [HT.out]; exact HF.out.2⟩
  case hdone =>
    intro p V hD hK
    rw [List.take_length] at hD
    obtain ⟨hT, ho2, v, hc, hf, hw, _⟩ := hD
    have hbl : Below W.heap.size W0 V := ho2.below (by omega) (fun k e => by omega)
    have HB := Lib.hid (hB0.trans hbl)
    have HW := Lib.hid hw
    clear hbl ho2 hw
    gi_wp2
    refine ⟨by simp, .inl ⟨_, _, rfl, run_takeDeferred hK, ?_⟩⟩
    have hne : ∀ k, k ≠ W0.heap.size → (V.putObj W0.heap.size (.deferred none)).heap[k]? = V.heap[k]? := fun k hk => World.putObj_heap_other hk
    refine ⟨_, results_tmp rfl _ _ _, v, rfl, ?_, ?_⟩
    · have hw2 := HW.out.kept (w' := V.putObj W0.heap.size (.deferred none)) (row := some W0.heap.size) ⟨rfl, rfl, rfl, by simp, fun k _ hn => hne k (by intro e; subst e; exact hn rfl)⟩ (.inr fun e => by have := (HW.out.lt _ e).1; omega)
      show World.ownsRow _ _ _ _ _ (castL L).length _
      rw [castL_length]
      refine ⟨hw2.1, ?_⟩
      rcases hw2.2 with h0 | ⟨g, cap, cur, h1, h2, h3⟩
      · exact .inl h0
      · exact .inr ⟨g, cap, cur, h1, by omega, h3⟩
    · refine ⟨HB.out.os, HB.out.tape, HB.out.output, by rw [World.putObj_size]; exact HB.out.size, fun k hk => ?_⟩
      rw [hne k (by omega)]; exact HB.out.block k hk
theorem collect_any {W : World} {tb b jb m n : Nat} {L : PutL} (Bd : Nat) (h : TxIn W tb b jb m n L) (hbd : W.cell? ⟨Bd, 0, none⟩ = some (devp tb)) :
    Calls Tryz.prog 43 #[.func (.func 63) #[] #[.pointer (some ⟨Bd, 0, none⟩)]] W fun e w' => ∃ v, e = .returned v ∧ OwnP w' W.heap.size v (castL L) ∧ Below W.heap.size W w' := by
  have HC := Lib.hid (appendSeq_any Bd h hbd)
  clear h
  go_enter Tryz.func43, Tryz.ntmps43
  go_wp2_with fail
  refine HC.out.mono ?_
  rintro e w1 ⟨v, rfl, hv, hb⟩
  go_wp2_with fail
  go_ret
  exact ⟨_, rfl, hv, hb⟩
/-- A transaction's end: it is done; nothing else that was there has turned. -/
structure Ended (w : World) (tb : Nat) (V : World) : Prop where
  only : Only (fun k => k = tb) w V
  done : V.cell? ⟨tb, 3, none⟩ = some (.bool true)
section
variable {W : World} {tb b jb m n : Nat} {L : PutL}
theorem ended_set {w V : World} (h : TxIn V tb b jb m n L) (hb : Below w.heap.size w V) : Ended w tb ((V.setCell ⟨tb, 2, none⟩ (.map none)).setCell ⟨tb, 3, none⟩ (.bool true)) := by
  have h3 : (V.setCell ⟨tb, 2, none⟩ (.map none)).cell? ⟨tb, 3, none⟩ = some (.bool false) := (set_there V tb _ (by decide)).trans h.c3
  refine ⟨(Only.of_below hb).trans ((Only.setCell (fun k => k = tb) V ⟨tb, 2, none⟩ _ rfl).trans (Only.setCell (fun k => k = tb) _ ⟨tb, 3, none⟩ _ rfl) fun j hj => .inl hj) fun j hj => .inl hj, set_here _ h3⟩
theorem log_set {V : World} (h : TxIn V tb b jb m n L) : ((V.setCell ⟨tb, 2, none⟩ (.map none)).setCell ⟨tb, 3, none⟩ (.bool true)).cell? ⟨tb, 1, none⟩ = some (devp jb) := by
  rw [set_there _ tb _ (by decide), set_there _ tb _ (by decide)]
  exact h.c1
theorem txAbort_any (h : TxIn W tb b jb m n L) : Calls Tryz.prog 17 #[devp tb] W fun e w' => e = .returned (.int .i64 0) ∧ Ended W tb w' := by
  have HO := Lib.hid (over_any tb false W h.c3)
  have HF := Lib.hid (finish_any tb W _ _ h.c2 h.c3 h.f2 h.f3)
  have HE := Lib.hid (ended_set h (Below.refl _ W))
  clear h
  go_enter Tryz.func17, Tryz.ntmps17
  go_wp2_with fail
  refine HO.out.mono ?_
  rintro e w1 ⟨rfl, rfl⟩
  go_wp2_with fail
  refine HF.out.mono ?_
  rintro e w1 ⟨rfl, rfl⟩
  go_wp2_with fail
  go_ret
  exact ⟨rfl, HE.out⟩
/-- A commit, by what the journal answers. -/
theorem txCommit_some (h : TxIn W tb b jb m n L) (hne : L ≠ []) (Q : Value → Value → World → Prop)
    (hc : ∀ V v, Ended W tb V → OwnP V W.heap.size v (castL L) → Calls Tryz.prog 45 #[devp jb, v] V fun e w' => ∃ r1 r2, e = .returned (.tuple #[r1, r2]) ∧ Q r1 r2 w') :
    Calls Tryz.prog 18 #[devp tb] W fun e w' => ∃ r1 r2, e = .returned (.tuple #[r1, r2]) ∧ Q r1 r2 w' := by
  have HO := Lib.hid (over_any tb false W h.c3)
  have HI := Lib.hid h
  have HQ := Lib.hid hc
  have htl := h.lt.1
  have hlen : (castL L).length = L.length := castL_length L
  have hpos : ((L.length : Int) == 0) = false := by
    have : L.length ≠ 0 := fun e => hne (List.length_eq_zero_iff.1 e)
    simp; omega
  clear h hc hne
  go_enter Tryz.func18, Tryz.ntmps18
  go_wp2_with fail
  refine HO.out.mono ?_
  rintro e w1 ⟨rfl, rfl⟩
  go_wp2_with fail
  refine (inOrder_any tb _).mono ?_
  rintro e w1 ⟨rfl, rfl⟩
  have hB1 := (Below.refl W.heap.size W).alloc (Nat.le_refl _) (.cells #[devp tb] 29)
  have hT1 := Lib.hid (HI.out.below hB1)
  have HB1 := Lib.hid hB1
  clear hB1
  go_wp2_with fail
  refine (collect_any W.heap.size hT1.out (cell_new_l W _ _)).mono ?_
  rintro e V ⟨v, rfl, hown, hb⟩
  have hBV : Below W.heap.size W V := HB1.out.trans (hb.mono (by simp))
  have hTV := hT1.out.below hb
  have hE := ended_set hTV hBV
  have hlog := log_set hTV
  have hown1 : OwnP V W.heap.size v (castL L) := by
    refine ⟨hown.1, ?_⟩
    rcases hown.2 with h0 | ⟨g, cap, cur, h1, h2, h3⟩
    · exact .inl h0
    · exact .inr ⟨g, cap, cur, h1, by simp at h2; omega, h3⟩
  have hfar : ∀ k, v.ownBlock = some k → k ≠ tb := fun k hk e => by have := (hown1.lt k hk).1; omega
  have hown2 : OwnP ((V.setCell ⟨tb, 2, none⟩ (.map none)).setCell ⟨tb, 3, none⟩ (.bool true)) W.heap.size v (castL L) := ownsRow_setCell_below (ownsRow_setCell_below hown1 (show tb < W.heap.size from htl) _) (show tb < W.heap.size from htl) _
  have HE := Lib.hid hE
  have HOW := Lib.hid hown2
  have HFi := Lib.hid (finish_any tb V _ _ hTV.c2 hTV.c3 hTV.f2 hTV.f3)
  obtain ⟨A, c, rfl, -⟩ := hown1.puts
  rw [hlen] at HOW ⊢
  clear hE hown2 hfar hTV hBV hown hb hown1
  go_wp2_with fail
  refine HFi.out.mono ?_
  rintro e w1 ⟨rfl, rfl⟩
  generalize (V.setCell ⟨tb, 2, none⟩ (.map none)).setCell ⟨tb, 3, none⟩ (.bool true) = X at *
  go_wp2_with fail
  refine (HQ.out X _ HE.out (by show X.ownsRow _ _ _ _ (castL L).length _; rw [hlen]; have := HOW.out; unfold OwnP at this; rwa [hlen] at this)).mono ?_
  rintro e w1 ⟨r1, r2, rfl, hq⟩
  have HQ2 := Lib.hid hq
  clear hq
  go_wp2_with fail
  go_ret2
  exact ⟨_, _, rfl, HQ2.out⟩
theorem txCommit_none (h : TxIn W tb b jb m n []) (Q : Value → World → Prop)
    (hc : ∀ V, Ended W tb V → Calls Tryz.prog 16 #[devp jb] V fun e w' => ∃ r, e = .returned r ∧ Q r w') :
    Calls Tryz.prog 18 #[devp tb] W fun e w' => ∃ r, e = .returned (.tuple #[r, .int .i64 0]) ∧ Q r w' := by
  have HO := Lib.hid (over_any tb false W h.c3)
  have HI := Lib.hid h
  have HQ := Lib.hid hc
  have htl := h.lt.1
  clear h hc
  go_enter Tryz.func18, Tryz.ntmps18
  go_wp2_with fail
  refine HO.out.mono ?_
  rintro e w1 ⟨rfl, rfl⟩
  go_wp2_with fail
  refine (inOrder_any tb _).mono ?_
  rintro e w1 ⟨rfl, rfl⟩
  have hB1 := (Below.refl W.heap.size W).alloc (Nat.le_refl _) (.cells #[devp tb] 29)
  have hT1 := Lib.hid (HI.out.below hB1)
  have HB1 := Lib.hid hB1
  clear hB1
  go_wp2_with fail
  refine (collect_any W.heap.size hT1.out (cell_new_l W _ _)).mono ?_
  rintro e V ⟨v, rfl, hown, hb⟩
  have hBV : Below W.heap.size W V := HB1.out.trans (hb.mono (by simp))
  have hTV := hT1.out.below hb
  have HE := Lib.hid (ended_set hTV hBV)
  have hlog := log_set hTV
  have HFi := Lib.hid (finish_any tb V _ _ hTV.c2 hTV.c3 hTV.f2 hTV.f3)
  obtain ⟨A, c, rfl, -⟩ := hown.puts
  clear hTV hBV hown hb
  simp only [castL, List.map_nil, List.length_nil]
  go_wp2_with fail
  refine HFi.out.mono ?_
  rintro e w1 ⟨rfl, rfl⟩
  generalize (V.setCell ⟨tb, 2, none⟩ (.map none)).setCell ⟨tb, 3, none⟩ (.bool true) = X at *
  go_wp2_with fail
  refine (HQ.out X HE.out).mono ?_
  rintro e w1 ⟨r1, rfl, hq⟩
  have HQ2 := Lib.hid hq
  clear hq
  go_wp2_with fail
  go_ret2
  exact ⟨_, rfl, HQ2.out⟩
end
end Go.Proofs.YthgdkpkhnhjifaaGreat
