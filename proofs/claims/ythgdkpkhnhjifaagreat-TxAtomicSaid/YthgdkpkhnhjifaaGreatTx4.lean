/- Layer 8 (tx): Touched. -/
import Derived.Test.YthgdkpkhnhjifaaGreatTx3
namespace Go.Proofs.YthgdkpkhnhjifaaGreat
open Go.RowKit Go.Maps Go.Sort Go.Shelf
set_option linter.unusedVariables false
set_option linter.unusedSimpArgs false
set_option maxRecDepth 10000
attribute [local go_sem] Oper.semAt_some
/-- The j-th write. -/
def nth (L : PutL) (j : Nat) : Nat × List UInt8 := L.getD j (0, [])
theorem nth_get {L : PutL} {j : Nat} (h : j < L.length) : nth L j = L[j] := by unfold nth; rw [List.getD_eq_getElem?_getD, List.getElem?_eq_getElem h]; rfl
theorem TxIn.at {W : World} {tb b jb m n : Nat} {L : PutL} (h : TxIn W tb b jb m n L) {j : Nat} (hj : j < L.length) :
    (Instr.lookup 74 (.map (some m)) (.int .i64 (((L.map (·.1))[j]'(by rw [List.length_map]; exact hj) : Nat) : Int)) false).run Tryz.prog W = .ok (putX (nth L j).1 (nth L j).2) W := by
  rw [nth_get hj, List.getElem_map]
  have hm := List.getElem_mem hj
  have := h.map.look (t := 74) Tryz.underlying3 Tryz.underlying74 (zeroPut W) (by have := h.small; omega) (h.ok _ hm).1
  rw [show txE L L[j].1 = some (putX L[j].1 L[j].2) by unfold txE; rw [look_of h.asc hm]; rfl] at this
  exact this
theorem TxIn.keys {W : World} {tb b jb m n : Nat} {L : PutL} (h : TxIn W tb b jb m n L) : keysOf n (txE L) = L.map (·.1) := keys_look h.asc (fun p hp => (h.ok p hp).1) _ (txE_isSome L)
/-- What is told by an iterator of what was written: it goes on from world to world. -/
theorem hit_tx {w : World} {tb b jb m n : Nat} {L : PutL} (Bd : Nat) (I : Nat → Nat → World → Prop) (hI : ∀ p j V, I p j V → TxIn V tb b jb m n L ∧ V.cell? ⟨Bd, 0, none⟩ = some (devp tb))
    (h0 : ∀ V, Below w.heap.size w V → TxIn V tb b jb m n L ∧ V.cell? ⟨Bd, 0, none⟩ = some (devp tb))
    (l : Nat) (J : Nat → Nat → World → Prop) (W : World) (hJI : ∀ p j W, J p j W → I p j W) (hst : ∀ p W', Below W.heap.size W W' → W.heap.size ≤ p → p < W'.heap.size → J p 0 W')
    (hrd : ∀ p j, j < L.length → ∀ args W1, J p j W1 → args = #[putX (nth L j).1 (nth L j).2] → YieldAt Fence.wide (8 - 1 - 1) Tryz.prog l args W1 fun e W' => e = .returned (.bool true) ∧ J p (j + 1) W' ∧ W'.heap[p]? = W1.heap[p]?)
    (hb : Below w.heap.size w W) : CallsIn Fence.wide (8 - 1) Tryz.prog 63 (#[.func (.yield l) #[] #[]] ++ #[.pointer (some ⟨Bd, 0, none⟩)]) W fun e W' => (∃ v, e = .returned v) ∧ ∃ p, J p L.length W' := by
  obtain ⟨hT, hbx⟩ := h0 W hb
  have hlen : (L.map (·.1)).length = L.length := List.length_map _
  have := inOrder1_in l Bd tb m n (txE L) W hbx hT.c2 hT.map hT.small (L.map (·.1)) hT.keys J (fun p j V hJ => ⟨(hI p j V (hJI p j V hJ)).2, (hI p j V (hJI p j V hJ)).1.c2⟩) hst (fun p j hj V hJ => by
    have hj' : j < L.length := by rw [hlen] at hj; exact hj
    exact ⟨_, (hI p j V (hJI p j V hJ)).1.at hj', hrd p j hj' _ V hJ rfl⟩)
  rwa [hlen] at this
set_option maxRecDepth 100000 in
set_option maxHeartbeats 2000000 in
theorem touched_any {W : World} {tb b jb m n : Nat} {L : PutL} (h : TxIn W tb b jb m n L) :
    Calls Tryz.prog 32 #[devp tb] W fun e w' => ∃ v, e = .returned v ∧ Row w' v ((L.map (·.1)).map encI) ∧ (∀ k, v.ownBlock = some k → W.heap.size ≤ k ∧ k < w'.heap.size) ∧ Below W.heap.size W w' := by
  refine (callsIn_wide (n := 8)).1 ?_
  refine callsIn_of_wp_marks Tryz.func32 rfl trivial ?_ rfl
  simp only [Tryz.ntmps32, List.size_toArray, List.length_cons, List.length_nil, Nat.reduceAdd, Nat.reduceSub, Array.replicate_succ, Array.replicate_zero, List.push_toArray, List.append_toArray, List.nil_append, List.cons_append]
  have HI := Lib.hid h
  clear h
  gi_wp2_with fail
  refine ⟨trivial, (callsIn_wide.2 (over_any tb false _ HI.out.c3)).mono ?_⟩
  rintro e w1 ⟨rfl, rfl⟩
  gi_wp2_with fail
  refine ⟨trivial, (callsIn_wide.2 (inOrder_any _ _)).mono ?_⟩
  rintro e w2 ⟨rfl, rfl⟩
  gi_wp2_with fail
  obtain ⟨W0, hW0⟩ : ∃ W0, (W.alloc (.cells #[Value.slice none 0 0] 66)).alloc (.cells #[devp tb] 29) = W0 := ⟨_, rfl⟩
  have hs0 : W0.heap.size = W.heap.size + 2 := by rw [← hW0]; simp
  have hB0 : Below W.heap.size W W0 := by rw [← hW0]; exact ((Below.refl _ W).alloc (Nat.le_refl _) _).alloc (by simp) _
  have hg1 : W0.heap[W.heap.size]? = some (.cells #[Value.slice none 0 0] 66 (0, 0)) := by
    rw [← hW0, Below.heap_alloc _ _ _ (by simp)]; exact heap_new _ _ _ rfl
  have hg2 : W0.heap[W.heap.size + 1]? = some (.cells #[devp tb] 29 (0, 0)) := by
    rw [← hW0]; exact heap_new _ _ _ (by simp)
  rw [hW0]
  obtain ⟨htl, hml⟩ := HI.out.lt
  have hBk : W.heap.size < W0.heap.size := by omega
  have hD0 : TxIn W0 tb b jb m n L := HI.out.below hB0
  have hbox : ∀ (p len : Nat) (cs : List Value) (V : World), TouchI W0 tb b jb m n L W.heap.size p 3 1 len cs V → TxIn V tb b jb m n L ∧ V.cell? ⟨W.heap.size + 1, 0, none⟩ = some (devp tb) := by
    rintro p len cs V ⟨hT, ho, _⟩
    exact ⟨hT, (cell_same 0 (ho.block _ (by omega) (by omega))).trans (cell_of_row _ _ 0 _ _ _ hg2)⟩
  have h00 : ∀ p, TouchI W0 tb b jb m n L W.heap.size p 3 1 0 [] W0 := fun p => ⟨hD0, Only.refl _ _, .slice none 0 0, cell_of_row _ _ 0 _ _ _ hg1, frozen_of_row _ _ 0 _ _ hg1, World.ownsRow_nil _ _ _ _, fun k hk => by cases hk⟩
  have Hbox := Lib.hid hbox
  clear hbox hg1 hg2 hW0
  refine range_told (n := 8) (by decide) (gf := 63) (lb := #[.pointer (some ⟨W.heap.size + 1, 0, none⟩)]) rfl (enters_of Tryz.func63 (by kernel_rfl) rfl) L.length
    (fun j args V => args = #[putX (nth L j).1 (nth L j).2])
    (fun p j V => TouchI W0 tb b jb m n L W.heap.size p 3 1 j (((L.take j).map (·.1)).map encI) V) ?hit ?h0 ?hput
    (fun p j a' V => TouchI W0 tb b jb m n L W.heap.size p 3 1 j (((L.take j).map (·.1)).map encI) V ∧ ∃ Br, a' = { tmps := #[devp tb, undef, .slice none 0 0, .pointer (some ⟨W.heap.size, 0, none⟩), .pointer (some ⟨Br, 0, none⟩), devp tb, .int .i64 0, .bool false, devp tb, .func (.func 63) #[] #[.pointer (some ⟨W.heap.size + 1, 0, none⟩)], putX (nth L j).1 (nth L j).2, undef, undef, undef, undef, undef, undef], defers := [] } ∧
      W0.heap.size + 2 ≤ Br ∧ V.cell? ⟨Br, 0, none⟩ = some (encI (nth L j).1)) ?hAx ?hassign ?hbody ?hdone
  case hit =>
    intro l J V hJI hst hrd hb
    exact hit_tx (w := W0) (W.heap.size + 1) _ (fun p j V hV => Hbox.out _ _ _ V hV) (fun V hb => Hbox.out 0 0 [] V ((h00 0).below hBk hb)) l J V hJI hst hrd hb
  case h0 =>
    intro p V hb _ _
    exact (h00 p).below hBk hb
  case hput =>
    intro p j V l o hl hl2 h
    exact h.put hBk (by omega) (by omega) l o hl hl2
  case hAx =>
    rintro p j a' V l o hl hl2 ⟨hD, Br, rfl, hBr, hc⟩
    exact ⟨hD.put hBk (by omega) (by omega) l o hl hl2, Br, rfl, hBr, (cell_same 0 (World.putObj_heap_other (by omega))).trans hc⟩
  case hassign =>
    rintro l p j args V hj hp1 hp2 hD rfl
    refine ⟨rfl, ?_⟩
    have HD := Lib.hid hD
    clear hD
    generalize nth L j = x
    obtain ⟨s, d⟩ := x
    unfold putX
    gi_wp2
    have hsz := HD.out.2.1.size
    have hbl : Below V.heap.size V (V.alloc (.cells #[.int .i64 (s : Int), str d] 81)) := (Below.refl _ V).alloc (Nat.le_refl _) _
    exact ⟨KeepB.below hbl (by omega) hp2, HD.out.below hBk hbl, V.heap.size, rfl, by omega, cell_of_row _ _ 0 _ _ _ (heap_alloc_new V _)⟩
  case hbody =>
    rintro l p j a' V hj hp1 hp2 ⟨hD, Br, rfl, hBr, hcB⟩
    have hlen : L.length ≤ 4096 := by have h1 := HI.out.len_le; have h2 := HI.out.small; omega
    have hts : ((L.take (j + 1)).map (·.1)).map encI = ((L.take j).map (·.1)).map encI ++ [encI (nth L j).1] := by
      rw [nth_get hj, List.take_succ_eq_append_getElem hj, List.map_append, List.map_append]; rfl
    have HT := Lib.hid hts
    clear hts
    generalize nth L j = x at *
    obtain ⟨s, d⟩ := x
    simp only at hcB HT
    generalize ((L.take j).map (·.1)).map encI = xs at *
    obtain ⟨hT, ho, v, hc, hf, hw, hp⟩ := hD
    have hsz := ho.size
    obtain ⟨i, hi, hz, hsi, hby⟩ := info_parts intInfo
    obtain ⟨v', W2, hap, hown, hg, _, hor⟩ := run_append_own_at (P := Tryz.prog) (w := V.alloc (.cells #[encI s] 3)) (W0.heap.size + 2) 66 66 3 i _ 1 8 Tryz.underlying66 hi hz hsi hby rfl (by decide) v j _ (hw.alloc _) ⟨V.heap.size, 0, none⟩ 1 1 [encI s] rfl (cell_one_new _ _ _) (by intro u hu; simp at hu; subst hu; rfl) (by unfold maxLen; omega) (by omega) (by simp; omega)
    obtain ⟨g', cap', rfl⟩ := ownsRow_succ hown
    have hvb : ∀ k, v.ownBlock = some k → W0.heap.size + 2 ≤ k ∧ k < V.heap.size := fun k hk => hw.lt k hk
    have hsz2 : V.heap.size + 1 ≤ W2.heap.size := by have := hg.size; simpa using this
    have hkeep : ∀ k, k < V.heap.size → v.ownBlock ≠ some k → W2.heap[k]? = V.heap[k]? := fun k hk hne => (hg.block k (by simp; omega) (fun e => hne e.symm)).trans (Below.heap_alloc V _ k hk)
    have hlow : ∀ k, k < W0.heap.size + 2 → W2.heap[k]? = V.heap[k]? := by
      intro k hk
      by_cases hkv : k < V.heap.size
      · exact hkeep k hkv (fun e => by have := hvb k e; omega)
      · exfalso; omega
    have hc2 : W2.cell? ⟨W.heap.size, 0, none⟩ = some v := (cell_same 0 (hlow _ (by omega))).trans hc
    have hf2 : W2.frozen? ⟨W.heap.size, 0, none⟩ = false := (World.frozen?_of_block (a := ⟨W.heap.size, 0, none⟩) (hlow W.heap.size (by omega))).trans hf
    have hset : ∀ k, k ≠ W.heap.size → (W2.setCell ⟨W.heap.size, 0, none⟩ (.slice (some ⟨g', 0, none⟩) (j + 1) cap')).heap[k]? = W2.heap[k]? := fun k hk => set_other _ _ _ _ _ hk
    have hfin : KeepB W0.heap.size p V (W2.setCell ⟨W.heap.size, 0, none⟩ (.slice (some ⟨g', 0, none⟩) (j + 1) cap')) ∧ TouchI W0 tb b jb m n L W.heap.size p 3 1 (j + 1) (xs ++ [encI s]) (W2.setCell ⟨W.heap.size, 0, none⟩ (.slice (some ⟨g', 0, none⟩) (j + 1) cap')) := by
      refine ⟨⟨?_, ?_, ?_⟩, ?_, ?_, _, set_here _ hc2, by rw [World.frozen?_setCell]; exact hf2, ?_, ?_⟩
      · rw [hset _ (by omega)]; exact hlow _ (by omega)
      · rw [hset _ (by omega)]; exact hlow _ (by omega)
      · rw [hset _ (by omega)]; exact hkeep p hp2 (fun e => hp p e rfl)
      · exact hT.kept (by rw [hset _ (by omega)]; exact hlow _ (by omega)) (by rw [hset _ (by omega)]; exact hlow _ (by omega))
      · refine ⟨hg.os.trans ho.os, hg.tape.trans ho.tape, hg.output.trans ho.output, by rw [set_size]; omega, fun k hk hn => ?_⟩
        rw [hset k hn, hlow k (by omega)]
        exact ho.block k hk hn
      · exact ownsRow_setCell_below hown (by show W.heap.size < _; omega) _
      · intro k hk
        rcases hor with e | e
        · rw [e] at hk; exact hp k hk
        · rw [e] at hk; cases hk; simp; omega
    have HF := Lib.hid hfin
    clear hfin hkeep hlow hset hvb hown hg hor hw hp hT ho
    change (intAppend #[v, .slice (some ⟨V.heap.size, 0, none⟩) 1 1]).run Tryz.prog _ = _ at hap
    gi_wp2
    exact ⟨HF.out.1, by rw [HT.out]; exact HF.out.2⟩
  case hdone =>
    intro p V hD hK
    rw [List.take_length] at hD
    obtain ⟨hT, ho2, v, hc, hf, hw, _⟩ := hD
    have hbl : Below W.heap.size W0 V := ho2.below (by omega) (fun k e => by omega)
    have HB := Lib.hid (hB0.trans hbl)
    have HW := Lib.hid hw
    clear hbl ho2 hw
    gi_wp2
    refine ⟨by simp, .inl ⟨_, _, rfl, run_takeDeferred hK, ?_⟩⟩
    have hne : ∀ k, k ≠ W0.heap.size → (V.putObj W0.heap.size (.deferred none)).heap[k]? = V.heap[k]? := fun k hk => World.putObj_heap_other hk
    refine ⟨_, results_tmp rfl _ _ _, v, rfl, ?_, fun k hk => by have := HW.out.lt k hk; rw [World.putObj_size]; omega, ?_⟩
    · have hl2 : L.length = ((L.map (·.1)).map encI).length := by simp
      have hw2 := HW.out
      rw [hl2] at hw2
      have hr := row_of_own hw2
      obtain ⟨A, cc, hv, hcells⟩ := hr
      refine ⟨A, cc, hv, fun q u hu => ?_⟩
      obtain ⟨gg, hA, hcell⟩ := hcells q u hu
      refine ⟨gg, hA, ?_⟩
      subst hA
      have hgg := (HW.out.lt gg (by rw [hv]; rfl)).1
      exact (cell_same q (hne gg (by omega))).trans hcell
    · refine ⟨HB.out.os, HB.out.tape, HB.out.output, by rw [World.putObj_size]; exact HB.out.size, fun k hk => ?_⟩
      rw [hne k (by omega)]; exact HB.out.block k hk
end Go.Proofs.YthgdkpkhnhjifaaGreat
