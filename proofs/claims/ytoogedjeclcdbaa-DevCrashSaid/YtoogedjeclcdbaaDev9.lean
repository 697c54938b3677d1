/- Layer 3 (dev): Flush. -/
import Derived.Test.YtoogedjeclcdbaaDev8
namespace Go.Proofs.Ytoogedjeclcdbaa
open Go.RowKit Go.Maps Go.Shelf
set_option linter.unusedVariables false
attribute [local go_sem] Oper.semAt_some
/-- The sectors of xs have no cached writes any more, and these contents. -/
def Dv.after (M : Dv) (xs : List Nat) (gf : Nat → List UInt8) : Dv := { M with dur := fun i => if i ∈ xs then gf i else M.dur i, row := fun i => if i ∈ xs then [] else M.row i }
def Dv.flush (M : Dv) : Dv := { M with dur := M.cur, row := fun _ => [] }
theorem Dv.after_nil (M : Dv) (gf : Nat → List UInt8) : M.after [] gf = M := by simp [Dv.after]
theorem Dv.after_row {M : Dv} {xs : List Nat} {gf : Nat → List UInt8} {i : Nat} (h : i ∉ xs) : (M.after xs gf).row i = M.row i := by simp [Dv.after, h]
theorem Dv.mem_loose {M : Dv} {i : Nat} : i ∈ M.loose ↔ i < M.n ∧ M.row i ≠ [] := by
  unfold Dv.loose
  rw [List.mem_filter, List.mem_range]
  simp
theorem Dv.loose_nodup (M : Dv) : M.loose.Nodup := List.nodup_range.filter _
theorem take_not_mem {l : List Nat} (h : l.Nodup) (j : Nat) (hj : j < l.length) : l[j] ∉ l.take j := by
  intro hm
  obtain ⟨k, hk, he⟩ := List.getElem_of_mem hm
  rw [List.getElem_take] at he
  have hkj : k < j := by simp at hk; omega
  exact (List.pairwise_iff_getElem.1 h k j (by omega) hj hkj) he
theorem mem_take_succ {l : List Nat} (j : Nat) (hj : j < l.length) (i : Nat) : i ∈ l.take (j + 1) ↔ i ∈ l.take j ∨ i = l[j] := by
  rw [List.take_succ_eq_append_getElem hj, List.mem_append, List.mem_singleton]
/-- A round of settle, as 'after' tells it. -/
theorem Dv.after_settle {M : Dv} (gf : Nat → List UInt8) {l : List Nat} (hl : l.Nodup) (j : Nat) (hj : j < l.length) (k : Nat) (hk : k ≤ (M.row l[j]).length)
    (hg : gf l[j] = if k = 0 then M.dur l[j] else (M.row l[j]).getD (k - 1) []) : ((M.after (l.take j) gf).settle l[j] k).dur = (M.after (l.take (j + 1)) gf).dur := by
  have hn := take_not_mem hl j hj
  unfold Dv.settle
  simp only
  rw [Dv.after_row hn]
  have hd : (M.after (l.take j) gf).dur l[j] = M.dur l[j] := by simp [Dv.after, hn]
  rw [hd, ← hg]
  funext i
  by_cases e : i = l[j]
  · subst e
    simp only [upd_same, Dv.after, mem_take_succ j hj, or_true, if_true]
  · rw [upd_other _ _ e]
    simp only [Dv.after, mem_take_succ j hj, e, or_false]
theorem Dv.after_drop {M : Dv} (gf : Nat → List UInt8) {l : List Nat} (hl : l.Nodup) (j : Nat) (hj : j < l.length) : upd (M.after (l.take j) gf).row l[j] [] = (M.after (l.take (j + 1)) gf).row := by
  funext i
  by_cases e : i = l[j]
  · subst e
    simp only [upd_same, Dv.after, mem_take_succ j hj, or_true, if_true]
  · rw [upd_other _ _ e]
    simp only [Dv.after, mem_take_succ j hj, e, or_false]
theorem Dv.after_full {M : Dv} (gf : Nat → List UInt8) {l : List Nat} (hl : l.Nodup) (j : Nat) (hj : j < l.length) (hg : gf l[j] = M.cur l[j]) (hne : M.row l[j] ≠ []) :
    (M.after (l.take j) gf).settle l[j] (M.row l[j]).length = M.after (l.take (j + 1)) gf := by
  have hlen := List.length_pos_iff.2 hne
  have h1 := Dv.after_settle (M := M) gf hl j hj (M.row l[j]).length (Nat.le_refl _) (by
    rw [if_neg (by omega), hg, Dv.cur_row hne, List.getD_eq_getElem?_getD, List.getElem?_eq_getElem (by omega)]; rfl)
  have h2 := Dv.after_drop (M := M) gf hl j hj
  have hn := take_not_mem hl j hj
  have h3 : ((M.after (l.take j) gf).settle l[j] (M.row l[j]).length).row = (M.after (l.take (j + 1)) gf).row := by
    unfold Dv.settle
    simp only
    rw [Dv.after_row hn, List.drop_length]
    exact h2
  have e : ∀ (A B : Dv), A.n = B.n → A.dur = B.dur → A.row = B.row → A.wr = B.wr → A.left = B.left → A.down = B.down → A = B := by
    rintro ⟨⟩ ⟨⟩ rfl rfl rfl rfl rfl rfl; rfl
  exact e _ _ rfl h1 h3 rfl rfl rfl
theorem Dv.after_flush (M : Dv) (h : Fine M) : M.after M.loose M.cur = M.flush := by
  unfold Dv.after Dv.flush
  have h1 : (fun i => if i ∈ M.loose then M.cur i else M.dur i) = M.cur := by
    funext i
    by_cases e : i ∈ M.loose
    · rw [if_pos e]
    · rw [if_neg e]
      by_cases hr : M.row i = []
      · exact (Dv.cur_nil hr).symm
      · exact absurd (Dv.mem_loose.2 ⟨h.out i hr, hr⟩) e
  have h2 : (fun i => if i ∈ M.loose then [] else M.row i) = fun _ => ([] : List (List UInt8)) := by
    funext i
    by_cases e : i ∈ M.loose
    · rw [if_pos e]
    · rw [if_neg e]
      by_cases hr : M.row i = []
      · exact hr
      · exact absurd (Dv.mem_loose.2 ⟨h.out i hr, hr⟩) e
  rw [h1, h2]
theorem cell_same {W W' : World} {k : Nat} (j : Nat) (h : W'.heap[k]? = W.heap[k]?) : W'.cell? ⟨k, j, none⟩ = W.cell? ⟨k, j, none⟩ := World.cell?_of_block (a := ⟨k, j, none⟩) h
/-- What a loop over loose sectors keeps: the device, so far; nothing else that was there has turned. -/
def During (S : Nat → Prop) (w : World) (b g c m : Nat) (N : Dv) (W : World) : Prop := (∃ vals, DevIn S W b g c m vals N) ∧ Only S w W
theorem During.put {S : Nat → Prop} {w : World} {b g c m : Nat} {N : Dv} {W : World} (h : During S w b g c m N W) (hlt : ∀ k, S k → k < w.heap.size) (l : Nat) (o : Obj) (hl : w.heap.size ≤ l) : During S w b g c m N (W.putObj l o) := by
  obtain ⟨⟨vals, hd⟩, ho⟩ := h
  have hk : ∀ k, k ≠ l → (W.putObj l o).heap[k]? = W.heap[k]? := fun k hk => World.putObj_heap_other hk
  exact ⟨⟨vals, hd.kept (by simp) (fun k hS => hk k (by have := hlt k hS; omega))⟩, ⟨ho.os, ho.tape, ho.output, by simpa using ho.size, fun k hkl hS => (hk k (by omega)).trans (ho.block k hkl hS)⟩⟩
theorem During.below {S : Nat → Prop} {w : World} {b g c m : Nat} {N : Dv} {W W' : World} (h : During S w b g c m N W) (hb : Below W.heap.size W W') : During S w b g c m N W' := by
  obtain ⟨⟨vals, hd⟩, ho⟩ := h
  exact ⟨⟨vals, hd.kept hb.size (fun k hS => hb.block k (hd.lt k hS))⟩, ho.trans (Only.of_below (S := S) hb) (fun _ e => .inl e)⟩
set_option maxRecDepth 100000 in
set_option maxHeartbeats 2000000 in
theorem flush_any {S : Nat → Prop} {W : World} {b : Nat} {M : Dv} (h : DevAt S W b M) (hd : M.down = false) (hw : M.wr ≤ 1099511627776) :
    Calls Try.prog 13 #[devp b] W fun e w' => e = .returned (.int .i64 0) ∧ Step S W b M.flush w' := by
  have h1 := h.down_cell hd
  obtain ⟨g, c, m, vals, hI⟩ := h
  refine (callsIn_wide (n := 8)).1 ?_
  refine callsIn_of_wp_marks Try.func13 rfl trivial ?_ rfl
  simp only [Try.ntmps13, List.size_toArray, List.length_cons, List.length_nil, Nat.reduceAdd, Nat.reduceSub, Array.replicate_succ, Array.replicate_zero, List.push_toArray, List.append_toArray, List.nil_append, List.cons_append]
  have HI := Lib.hid hI
  clear hI
  have h1a : (W.alloc (.cells #[devp b] 25)).cell? ⟨b, 1, none⟩ = some (.bool false) := by
    rw [World.cell?_alloc_lt _ _ _ (World.block_lt_of_cell? W _ h1)]; exact h1
  gi_wp2_with fail
  refine ⟨trivial, (callsIn_wide.2 (works_any b false _ h1a)).mono ?_⟩
  rintro e w1 ⟨rfl, rfl⟩
  gi_wp2_with fail
  refine ⟨trivial, (callsIn_wide.2 (loose_any _ _)).mono ?_⟩
  rintro e w2 ⟨rfl, rfl⟩
  gi_wp2_with fail
  obtain ⟨W0, hW0⟩ : ∃ W0, (W.alloc (.cells #[devp b] 25)).alloc (.cells #[devp b] 25) = W0 := ⟨_, rfl⟩
  have hs0 : W0.heap.size = W.heap.size + 2 := by rw [← hW0]; simp
  have hB0 : Below W.heap.size W W0 := by rw [← hW0]; exact ((Below.refl _ W).alloc (Nat.le_refl _) _).alloc (by simp) _
  have hc1 : W0.cell? ⟨W.heap.size, 0, none⟩ = some (devp b) := by
    rw [← hW0, World.cell?_alloc_lt _ _ _ (by simp)]; exact cell_new_l W _ _
  have hc2 : W0.cell? ⟨W.heap.size + 1, 0, none⟩ = some (devp b) := by
    have := cell_new_l (W.alloc (.cells #[devp b] 25)) (devp b) 25
    rw [hW0] at this
    simpa using this
  rw [hW0]
  have hI := HI.out
  have hlt0 : ∀ k, S k → k < W0.heap.size := fun k hk => by have := hI.lt k hk; omega
  have hD0 : DevIn S W0 b g c m vals M := hI.kept hB0.size (fun k hk => hB0.block k (hI.lt k hk))
  have hbox : ∀ (N : Dv) (V : World), During S W0 b g c m N V → V.cell? ⟨W.heap.size, 0, none⟩ = some (devp b) ∧ V.cell? ⟨W.heap.size + 1, 0, none⟩ = some (devp b) ∧ V.cell? ⟨b, 3, none⟩ = some (.map (some m)) := by
    rintro N V ⟨⟨vals', hd'⟩, ho⟩
    have hno : ∀ k, W.heap.size ≤ k → ¬ S k := fun k hk hs => by have := hI.lt k hs; omega
    exact ⟨(cell_same 0 (ho.block _ (by omega) (hno _ (Nat.le_refl _)))).trans hc1, (cell_same 0 (ho.block _ (by omega) (hno _ (by omega)))).trans hc2, hd'.head.c3⟩
  have Hbox := Lib.hid hbox
  clear hbox hI
  refine range_told (n := 8) (by decide) (gf := 30) (lb := #[.pointer (some ⟨W.heap.size + 1, 0, none⟩)]) rfl (enters_of Try.func30 (by kernel_rfl) rfl) M.loose.length
    (fun j args V => ∃ v, args = #[.int .i64 ((M.loose.getD j 0 : Nat) : Int), v] ∧ (Instr.lookup 54 (.map (some m)) (.int .i64 ((M.loose.getD j 0 : Nat) : Int)) false).run Try.prog V = .ok v V)
    (fun p j V => During S W0 b g c m (M.after (M.loose.take j) M.cur) V) ?hit ?h0 ?hput
    (fun p j a' V => During S W0 b g c m (M.after (M.loose.take j) M.cur) V ∧ ∃ Br A cap, a' = { tmps := #[devp b, .pointer (some ⟨W.heap.size, 0, none⟩), .int .i64 0, .int .i64 (downErr false), .int .i64 ((M.loose.getD j 0 : Nat) : Int), .pointer (some ⟨Br, 0, none⟩), devp b, .int .i64 (downErr false), .int .i64 (downErr false), .bool false, undef, devp b, .func (.func 30) #[] #[.pointer (some ⟨W.heap.size + 1, 0, none⟩)], .int .i64 ((M.loose.getD j 0 : Nat) : Int), .agg #[.slice A (M.row (M.loose.getD j 0)).length cap], undef, undef, undef, undef, undef, undef], defers := [] } ∧
      W0.heap.size + 2 ≤ Br ∧ V.cell? ⟨Br, 0, none⟩ = some (.slice A (M.row (M.loose.getD j 0)).length cap)) ?hAx ?hassign ?hbody ?hdone
  case hit =>
    intro l J V hJI hst hrd hb
    have hV0 := hD0.kept hb.size (fun k hk => hb.block k (hlt0 k hk))
    have hV : During S W0 b g c m M V := ⟨⟨vals, hV0⟩, Only.of_below hb⟩
    obtain ⟨_, hbx, hb3⟩ := Hbox.out _ _ hV
    refine loose1_in l (W.heap.size + 1) b m M.n (entry M.row vals) V hbx hb3 hV0.ro.map hD0.fine.n M.loose (M.loose_keys vals) J (fun p j V' hJ => (Hbox.out _ _ (hJI p j V' hJ)).2) hst ?_
    intro p j hj V1 hJ
    have hD := hJI p j V1 hJ
    obtain ⟨⟨vals', hd'⟩, _⟩ := hD
    have hget : M.loose.getD j 0 = M.loose[j] := by rw [List.getD_eq_getElem?_getD, List.getElem?_eq_getElem hj]; rfl
    have hmem := (Dv.mem_loose (M := M)).1 (List.getElem_mem hj)
    obtain ⟨A, cap, hl, _⟩ := look_row hd' M.loose[j] hmem.1
    refine ⟨_, hl, hrd p j hj _ V1 hJ ⟨_, by rw [hget], by rw [hget]; exact hl⟩⟩
  case h0 =>
    intro p V hb _ _
    refine ⟨⟨vals, ?_⟩, Only.of_below hb⟩
    rw [List.take_zero, Dv.after_nil]
    exact hD0.kept hb.size (fun k hk => hb.block k (hlt0 k hk))
  case hput =>
    intro p j V l o hl _ h
    exact h.put hlt0 l o hl
  case hAx =>
    rintro p j a' V l o hl hl2 ⟨hD, Br, A, cap, rfl, hBr, hcell⟩
    refine ⟨hD.put hlt0 l o hl, Br, A, cap, rfl, hBr, ?_⟩
    exact (cell_same 0 (World.putObj_heap_other (by omega))).trans hcell
  case hassign =>
    rintro l p j args V hj hp1 hp2 hD ⟨v, rfl, hlk⟩
    refine ⟨rfl, ?_⟩
    have hget : M.loose.getD j 0 = M.loose[j] := by rw [List.getD_eq_getElem?_getD, List.getElem?_eq_getElem hj]; rfl
    have hmem := (Dv.mem_loose (M := M)).1 (List.getElem_mem hj)
    have hnot := take_not_mem M.loose_nodup j hj
    have hD' := hD
    obtain ⟨⟨vals', hd'⟩, ho⟩ := hD'
    obtain ⟨A, cap, hl, _⟩ := look_row hd' M.loose[j] hmem.1
    rw [Dv.after_row hnot] at hl
    rw [hget] at hlk ⊢
    have hv : v = .agg #[.slice A (M.row M.loose[j]).length cap] := by
      rw [hl] at hlk; injection hlk with h1 h2; exact h1.symm
    subst hv
    have HD := Lib.hid hD
    clear hD hlk hl ho hd' hget hmem hnot
    generalize (M.row M.loose[j]).length = q
    generalize M.loose[j] = x
    gi_wp2
    have hbl : Below V.heap.size V (V.alloc (.cells #[.slice A q cap] 62)) := (Below.refl _ V).alloc (Nat.le_refl _) _
    have hsz := HD.out.2.size
    exact ⟨KeepB.below hbl (by omega) hp2, HD.out.below hbl, V.heap.size, A, cap, rfl, by omega, cell_new_l V _ _⟩
  case hbody =>
    rintro l p j a' V hj hp1 hp2 ⟨hD, Br, A, cap, rfl, hBr, hcell⟩
    have hget : M.loose.getD j 0 = M.loose[j] := by rw [List.getD_eq_getElem?_getD, List.getElem?_eq_getElem hj]; rfl
    have hmem := (Dv.mem_loose (M := M)).1 (List.getElem_mem hj)
    have hnot := take_not_mem M.loose_nodup j hj
    obtain ⟨hb1, _, _⟩ := Hbox.out _ _ hD
    obtain ⟨⟨vals', hd'⟩, ho⟩ := hD
    have hset := settle_any hd' hw M.loose[j] hmem.1 (M.row M.loose[j]).length (by rw [Dv.after_row hnot]; exact Nat.le_refl _)
    rw [Dv.after_full M.cur M.loose_nodup j hj rfl hmem.2] at hset
    rw [hget] at hcell ⊢
    have HS := Lib.hid hset
    have HO := Lib.hid ho
    clear hset hd' ho hget hmem hnot
    generalize (M.row M.loose[j]).length = q at hcell HS ⊢
    generalize M.loose[j] = x at HS ⊢
    gi_wp2_with fail
    refine ⟨trivial, (CallsIn.inRound l (callsIn_wide.2 HS.out)).mono ?_⟩
    rintro e V' ⟨rfl, vals2, hd2, ho2⟩
    gi_wp2
    have hno : ∀ k, W0.heap.size ≤ k → ¬ S k := fun k hk hs => by have := hlt0 k hs; omega
    have hsz := HO.out.size
    have hBrl : Br < V.heap.size := World.block_lt_of_cell? V _ hcell
    exact ⟨⟨ho2.block _ (by omega) (hno _ (Nat.le_refl _)), ho2.block _ (by omega) (hno _ (by omega)), ho2.block _ hp2 (hno _ (by omega))⟩, ⟨vals2, hd2⟩, HO.out.trans ho2 (fun _ e => .inl e)⟩
  case hdone =>
    intro p V hD hK
    rw [List.take_length, Dv.after_flush M hD0.fine] at hD
    have HD := Lib.hid hD
    clear hD
    gi_wp2
    refine ⟨by simp, .inl ⟨_, _, rfl, run_takeDeferred hK, ?_⟩⟩
    have hD2 := HD.out.put hlt0 W0.heap.size (.deferred none) (Nat.le_refl _)
    obtain ⟨⟨vals2, hd2⟩, ho2⟩ := hD2
    exact ⟨_, results_tmp rfl _ _ _, rfl, Step.of ⟨g, c, m, vals2, hd2⟩ ((Only.of_below (S := S) hB0).trans ho2 (fun _ e => .inl e))⟩
end Go.Proofs.Ytoogedjeclcdbaa
