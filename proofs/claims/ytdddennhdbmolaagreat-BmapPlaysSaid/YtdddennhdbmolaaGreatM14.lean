/- Layer 3 (dev): the iterator over loose sectors. -/
import Derived.Test.YtdddennhdbmolaaGreatM13
import Derived.Test.YtdddennhdbmolaaGreatKeys
import Derived.Maps.OwnIn
namespace Go.Proofs.YtdddennhdbmolaaGreat
open Go.RowKit Go.Maps Go.Sort Go.Shelf
set_option linter.unusedVariables false
set_option linter.unusedSimpArgs false
set_option maxRecDepth 10000
attribute [local go_sem] Oper.semAt_some
/-- slices.Sort's two contracts at ints. -/
theorem sortsAt (m : Nat) : AnyZI.SortsIn Tryz.prog Tryz.sortedL_ren Fence.wide m :=
  ⟨fun blk off cap ss W hH hblk hsz => callsIn_wide.2 (AnyM.slices_Sort_int Tryz.sortL blk off cap ss W hH hblk hsz),
   fun p cap W => callsIn_wide.2 (AnyM.slices_Sort_int_none Tryz.sortL p cap W)⟩
theorem loose_any (b : Nat) (w : World) : Calls Tryz.prog 109 #[devp b] w fun e w' => e = .returned (.func (.func 125) #[] #[.pointer (some ⟨w.heap.size, 0, none⟩)]) ∧ w' = w.alloc (.cells #[devp b] 43) := by
  go_enter Tryz.func109, Tryz.ntmps109
  go_wp2
  go_ret
  exact ⟨rfl, rfl⟩
theorem keys_lt {n : Nat} {f : Nat → Option Value} {i : Nat} (h : i ∈ keysOf n f) : i < n := List.mem_range.1 (List.mem_filter.1 h).1
theorem keys_len (n : Nat) (f : Nat → Option Value) : (keysOf n f).length ≤ n := by
  have := List.length_filter_le (fun i => (f i).isSome) (List.range n)
  simpa [keysOf] using this
set_option maxRecDepth 100000 in
set_option maxHeartbeats 2000000 in
theorem loose1_in (l Bd b m cnt : Nat) (f : Nat → Option Value) (W : World) (hd : W.cell? ⟨Bd, 0, none⟩ = some (devp b)) (h3 : W.cell? ⟨b, 3, none⟩ = some (.map (some m))) (hmap : IMap Tryz.prog 3 W m cnt f) (hc : cnt ≤ 4096) (ks : List Nat) (hks : keysOf cnt f = ks)
    (J : Nat → Nat → World → Prop) (hJd : ∀ p j W', J p j W' → W'.cell? ⟨Bd, 0, none⟩ = some (devp b) ∧ W'.cell? ⟨b, 3, none⟩ = some (.map (some m)))
    (hstart : ∀ p W', Below W.heap.size W W' → W.heap.size ≤ p → p < W'.heap.size → J p 0 W')
    (hround : ∀ p j (hj : j < ks.length) W1, J p j W1 → ∃ v, (Instr.lookup 115 (.map (some m)) (.int .i64 ((ks[j] : Nat) : Int)) false).run Tryz.prog W1 = .ok v W1 ∧
      YieldAt Fence.wide 6 Tryz.prog l #[.int .i64 ((ks[j] : Nat) : Int), v] W1 fun e W' => e = .returned (.bool true) ∧ J p (j + 1) W' ∧ W'.heap[p]? = W1.heap[p]?) :
    CallsIn Fence.wide 7 Tryz.prog 125 #[.func (.yield l) #[] #[], .pointer (some ⟨Bd, 0, none⟩)] W fun e W' => (∃ v, e = .returned v) ∧ ∃ p, J p ks.length W' := by
  subst hks
  have hmap' := hmap
  obtain ⟨D0, hown, hhas, hval⟩ := hmap'
  have hbl := hown.lt
  have hszD := IMap.size_le hown Tryz.underlying3 hhas
  have hseq : SeqGives Fence.wide 3 Tryz.prog 139 #[.pointer (some ⟨W.heap.size, 0, none⟩)] encZ (fun ss => ss.Perm (intKeys D0)) (Maps.size D0) (W.alloc (.cells #[.map (some m)] 115)) :=
    AnyZI.keys_gives (ρ := Tryz.keysL_ren) { Tryz.keysL with } Fence.wide _ trivial rfl (by omega) W.heap.size m _ D0 _ (by simp) (by simp) (by
      obtain ⟨es, clock, hb, Ft, hs, hD⟩ := hown
      exact ⟨es, clock, (Below.heap_alloc _ _ m hbl).trans hb, Ft, hs, hD⟩)
  have cK : ∀ mb V, CallsIn Fence.wide 6 Tryz.prog 127 #[.map mb] V fun e w' => e = .returned (.func (.func 139) #[] #[.pointer (some ⟨V.heap.size, 0, none⟩)]) ∧ w' = V.alloc (.cells #[.map mb] 115) := fun mb V => AnyZI.keys_in Tryz.keysL Fence.wide 6 trivial rfl mb V
  have cS := AnyZI.sorted_in Tryz.sortedL Fence.wide 6 trivial trivial trivial trivial rfl (by omega) (sortsAt _) (enters_of Tryz.func138 (by kernel_rfl) rfl) 139 #[.pointer (some ⟨W.heap.size, 0, none⟩)] trivial (enters_of Tryz.func139 (by kernel_rfl) rfl) _ _ (by unfold maxLen; omega) (by omega) _ hseq
  change CallsIn _ _ Tryz.prog 126 _ _ _ at cS
  have hfK : Fence.wide.fn 127 := trivial
  have hfS : Fence.wide.fn 126 := trivial
  have HS := fun (ss : List Int) (hp : ss.Perm (intKeys D0)) => sorted_keys hown Tryz.underlying3 hhas hp
  have HHS := Lib.hid HS
  have HR := Lib.hid hround
  have HJ := Lib.hid hJd
  have HST := Lib.hid hstart
  have HM := Lib.hid hmap
  have HC := Lib.hid cS
  have HK := keys_len cnt f
  clear HS hround hJd hstart hmap hseq hown hhas hval cS hszD
  refine callsIn_of_wp Tryz.func125 rfl trivial ?_ rfl
  simp only [Tryz.ntmps125, List.size_toArray, List.length_cons, List.length_nil, Nat.reduceAdd, Nat.reduceSub, Array.replicate_succ, Array.replicate_zero, List.push_toArray, List.append_toArray, List.nil_append, List.cons_append]
  gi_wp2_with fail
  refine (cK _ _).mono ?_
  rintro e w' ⟨rfl, rfl⟩
  gi_wp2_with fail
  refine HC.out.mono ?_
  rintro e W2 ⟨v, ss, rfl, hperm, hrow, hnil, hb⟩
  rw [HHS.out ss hperm] at hrow
  have hbW : Below W.heap.size W W2 := ((Below.refl _ W).alloc (Nat.le_refl _) _).trans (hb.mono (by simp))
  have hsz2 : W.heap.size + 1 ≤ W2.heap.size := by have := hb.size; simpa using this
  have hv : ∃ A c p, v = .slice A (keysOf cnt f).length c ∧ W.heap.size ≤ p ∧ p < W2.heap.size ∧ ∀ j (hj : j < (keysOf cnt f).length), A = some ⟨p, 0, none⟩ ∧ W2.cell? ⟨p, j, none⟩ = some (.int .i64 (((keysOf cnt f)[j] : Nat) : Int)) := by
    have hl : ss.length = (keysOf cnt f).length := by have := hrow.1; simp at this; omega
    rcases hrow.2 with ⟨rfl, h0⟩ | ⟨g, cap, cur, rfl, hbase, hg, hrest⟩
    · exact ⟨none, 0, W.heap.size, by rw [← hl, h0], Nat.le_refl _, by omega, fun j hj => by omega⟩
    · refine ⟨some ⟨g, 0, none⟩, cap, g, by rw [hl], by simp at hbase; omega, (Array.getElem?_eq_some_iff.1 hg).1, fun j hj => ⟨rfl, ?_⟩⟩
      have := hrow.cells (g := g) rfl j (.int .i64 (((keysOf cnt f)[j] : Nat) : Int)) (by simp [hj])
      rwa [addr_add0] at this
  obtain ⟨A, c, p, rfl, hp1, hp2, hcell⟩ := hv
  have hJ0 := HST.out p W2 hbW hp1 hp2
  have Hcell := Lib.hid hcell
  clear hrow hnil hperm hcell hb cK
  gi_wp2_with fail
  gi_loopw [12] (fun i wr => ∃ k : Nat, k ≤ (keysOf cnt f).length ∧ i = .int .i64 k ∧ J p k wr ∧ wr.heap[p]? = W2.heap[p]?) (fun i _ => (keysOf cnt f).length - (intOf i).toNat)
  case atStart => exact ⟨0, Nat.zero_le _, rfl, hJ0, rfl⟩
  case round =>
    obtain ⟨k, hk, rfl, hJk, hpk⟩ := hrel
    by_cases hlt : k < (keysOf cnt f).length
    · obtain ⟨rfl, hcell⟩ := Hcell.out k hlt
      have hcx : wr.cell? ⟨p, k, none⟩ = some (.int .i64 (((keysOf cnt f)[k] : Nat) : Int)) := (World.cell?_of_block (a := ⟨p, k, none⟩) hpk).trans hcell
      obtain ⟨hd1, h31⟩ := HJ.out p k wr hJk
      obtain ⟨v, hlk, fn, tmps, assign, body, hy, hR⟩ := HR.out p k hlt wr hJk
      have HP := Lib.hid hpk
      clear hcell hpk
      generalize (keysOf cnt f)[k] = x at hcx hlk hy
      gi_wp2
      refine hR.mono ?_
      rintro e W3 ⟨rfl, hJ3, hk3⟩
      have HP3 := Lib.hid hk3
      clear hk3
      gi_wp2
      go_roundw
      case rel => exact ⟨k + 1, by omega, by simp, hJ3, HP3.out.trans HP.out⟩
      case measure => simp [intOf]; omega
    · obtain rfl : k = (keysOf cnt f).length := by omega
      have HP := Lib.hid hpk
      clear hpk
      gi_wp2
      go_end0
      exact ⟨⟨_, rfl⟩, p, hJk⟩
end Go.Proofs.YtdddennhdbmolaaGreat
/- Layer 3 (dev): Flush. -/
namespace Go.Proofs.YtdddennhdbmolaaGreat
open Go.RowKit Go.Maps Go.Shelf
set_option linter.unusedVariables false
set_option linter.unusedSimpArgs false
set_option maxRecDepth 10000
attribute [local go_sem] Oper.semAt_some
/-- The sectors of xs have no cached writes any more, and these contents. -/
def Dv.after (M : Dv) (xs : List Nat) (gf : Nat → List UInt8) : Dv := { M with dur := fun i => if i ∈ xs then gf i else M.dur i, row := fun i => if i ∈ xs then [] else M.row i }
def Dv.flush (M : Dv) : Dv := { M with dur := M.cur, row := fun _ => [] }
theorem Dv.after_nil (M : Dv) (gf : Nat → List UInt8) : M.after [] gf = M := by simp [Dv.after]
theorem Dv.after_row {M : Dv} {xs : List Nat} {gf : Nat → List UInt8} {i : Nat} (h : i ∉ xs) : (M.after xs gf).row i = M.row i := by simp [Dv.after, h]
theorem Dv.mem_loose {M : Dv} {i : Nat} : i ∈ M.loose ↔ i < M.n ∧ M.row i ≠ [] := by
  unfold Dv.loose
  rw [List.mem_filter, List.mem_range]
  simp
theorem Dv.loose_nodup (M : Dv) : M.loose.Nodup := List.nodup_range.filter _
theorem take_not_mem {l : List Nat} (h : l.Nodup) (j : Nat) (hj : j < l.length) : l[j] ∉ l.take j := by
  intro hm
  obtain ⟨k, hk, he⟩ := List.getElem_of_mem hm
  rw [List.getElem_take] at he
  have hkj : k < j := by simp at hk; omega
  exact (List.pairwise_iff_getElem.1 h k j (by omega) hj hkj) he
theorem mem_take_succ {l : List Nat} (j : Nat) (hj : j < l.length) (i : Nat) : i ∈ l.take (j + 1) ↔ i ∈ l.take j ∨ i = l[j] := by
  rw [List.take_succ_eq_append_getElem hj, List.mem_append, List.mem_singleton]
/-- A round of settle, as 'after' tells it. -/
theorem Dv.after_settle {M : Dv} (gf : Nat → List UInt8) {l : List Nat} (hl : l.Nodup) (j : Nat) (hj : j < l.length) (k : Nat) (hk : k ≤ (M.row l[j]).length)
    (hg : gf l[j] = if k = 0 then M.dur l[j] else (M.row l[j]).getD (k - 1) []) : ((M.after (l.take j) gf).settle l[j] k).dur = (M.after (l.take (j + 1)) gf).dur := by
  have hn := take_not_mem hl j hj
  unfold Dv.settle
  simp only
  rw [Dv.after_row hn]
  have hd : (M.after (l.take j) gf).dur l[j] = M.dur l[j] := by simp [Dv.after, hn]
  rw [hd, ← hg]
  funext i
  by_cases e : i = l[j]
  · subst e
    simp only [upd_same, Dv.after, mem_take_succ j hj, or_true, if_true]
  · rw [upd_other _ _ e]
    simp only [Dv.after, mem_take_succ j hj, e, or_false]
theorem Dv.after_drop {M : Dv} (gf : Nat → List UInt8) {l : List Nat} (hl : l.Nodup) (j : Nat) (hj : j < l.length) : upd (M.after (l.take j) gf).row l[j] [] = (M.after (l.take (j + 1)) gf).row := by
  funext i
  by_cases e : i = l[j]
  · subst e
    simp only [upd_same, Dv.after, mem_take_succ j hj, or_true, if_true]
  · rw [upd_other _ _ e]
    simp only [Dv.after, mem_take_succ j hj, e, or_false]
theorem Dv.after_full {M : Dv} (gf : Nat → List UInt8) {l : List Nat} (hl : l.Nodup) (j : Nat) (hj : j < l.length) (hg : gf l[j] = M.cur l[j]) (hne : M.row l[j] ≠ []) :
    (M.after (l.take j) gf).settle l[j] (M.row l[j]).length = M.after (l.take (j + 1)) gf := by
  have hlen := List.length_pos_iff.2 hne
  have h1 := Dv.after_settle (M := M) gf hl j hj (M.row l[j]).length (Nat.le_refl _) (by
    rw [if_neg (by omega), hg, Dv.cur_row hne, List.getD_eq_getElem?_getD, List.getElem?_eq_getElem (by omega)]; rfl)
  have h2 := Dv.after_drop (M := M) gf hl j hj
  have hn := take_not_mem hl j hj
  have h3 : ((M.after (l.take j) gf).settle l[j] (M.row l[j]).length).row = (M.after (l.take (j + 1)) gf).row := by
    unfold Dv.settle
    simp only
    rw [Dv.after_row hn, List.drop_length]
    exact h2
  have e : ∀ (A B : Dv), A.n = B.n → A.dur = B.dur → A.row = B.row → A.wr = B.wr → A.left = B.left → A.down = B.down → A = B := by
    rintro ⟨⟩ ⟨⟩ rfl rfl rfl rfl rfl rfl; rfl
  exact e _ _ rfl h1 h3 rfl rfl rfl
theorem Dv.after_flush (M : Dv) (h : Fine M) : M.after M.loose M.cur = M.flush := by
  unfold Dv.after Dv.flush
  have h1 : (fun i => if i ∈ M.loose then M.cur i else M.dur i) = M.cur := by
    funext i
    by_cases e : i ∈ M.loose
    · rw [if_pos e]
    · rw [if_neg e]
      by_cases hr : M.row i = []
      · exact (Dv.cur_nil hr).symm
      · exact absurd (Dv.mem_loose.2 ⟨h.out i hr, hr⟩) e
  have h2 : (fun i => if i ∈ M.loose then [] else M.row i) = fun _ => ([] : List (List UInt8)) := by
    funext i
    by_cases e : i ∈ M.loose
    · rw [if_pos e]
    · rw [if_neg e]
      by_cases hr : M.row i = []
      · exact hr
      · exact absurd (Dv.mem_loose.2 ⟨h.out i hr, hr⟩) e
  rw [h1, h2]
theorem cell_same {W W' : World} {k : Nat} (j : Nat) (h : W'.heap[k]? = W.heap[k]?) : W'.cell? ⟨k, j, none⟩ = W.cell? ⟨k, j, none⟩ := World.cell?_of_block (a := ⟨k, j, none⟩) h
/-- What a loop over loose sectors keeps: the device, so far; nothing else that was there has turned. -/
def During (S : Nat → Prop) (w : World) (b g c m : Nat) (N : Dv) (W : World) : Prop := (∃ vals, DevIn S W b g c m vals N) ∧ Only S w W
theorem During.put {S : Nat → Prop} {w : World} {b g c m : Nat} {N : Dv} {W : World} (h : During S w b g c m N W) (hlt : ∀ k, S k → k < w.heap.size) (l : Nat) (o : Obj) (hl : w.heap.size ≤ l) : During S w b g c m N (W.putObj l o) := by
  obtain ⟨⟨vals, hd⟩, ho⟩ := h
  have hk : ∀ k, k ≠ l → (W.putObj l o).heap[k]? = W.heap[k]? := fun k hk => World.putObj_heap_other hk
  exact ⟨⟨vals, hd.kept (by simp) (fun k hS => hk k (by have := hlt k hS; omega))⟩, ⟨ho.os, ho.tape, ho.output, by simpa using ho.size, fun k hkl hS => (hk k (by omega)).trans (ho.block k hkl hS)⟩⟩
theorem During.below {S : Nat → Prop} {w : World} {b g c m : Nat} {N : Dv} {W W' : World} (h : During S w b g c m N W) (hb : Below W.heap.size W W') : During S w b g c m N W' := by
  obtain ⟨⟨vals, hd⟩, ho⟩ := h
  exact ⟨⟨vals, hd.kept hb.size (fun k hS => hb.block k (hd.lt k hS))⟩, ho.trans (Only.of_below (S := S) hb) (fun _ e => .inl e)⟩
set_option maxRecDepth 100000 in
set_option maxHeartbeats 2000000 in
theorem flush_any {S : Nat → Prop} {W : World} {b : Nat} {M : Dv} (h : DevAt S W b M) (hd : M.down = false) (hw : M.wr ≤ 1099511627776) :
    Calls Tryz.prog 84 #[devp b] W fun e w' => e = .returned (.int .i64 0) ∧ Step S W b M.flush w' := by
  have h1 := h.down_cell hd
  obtain ⟨g, c, m, vals, hI⟩ := h
  refine (callsIn_wide (n := 8)).1 ?_
  refine callsIn_of_wp_marks Tryz.func84 rfl trivial ?_ rfl
  simp only [Tryz.ntmps84, List.size_toArray, List.length_cons, List.length_nil, Nat.reduceAdd, Nat.reduceSub, Array.replicate_succ, Array.replicate_zero, List.push_toArray, List.append_toArray, List.nil_append, List.cons_append]
  have HI := Lib.hid hI
  clear hI
  have h1a : (W.alloc (.cells #[devp b] 43)).cell? ⟨b, 1, none⟩ = some (.bool false) := by
    rw [World.cell?_alloc_lt _ _ _ (World.block_lt_of_cell? W _ h1)]; exact h1
  gi_wp2_with fail
  refine ⟨trivial, (callsIn_wide.2 (works_any b false _ h1a)).mono ?_⟩
  rintro e w1 ⟨rfl, rfl⟩
  gi_wp2_with fail
  refine ⟨trivial, (callsIn_wide.2 (loose_any _ _)).mono ?_⟩
  rintro e w2 ⟨rfl, rfl⟩
  gi_wp2_with fail
  obtain ⟨W0, hW0⟩ : ∃ W0, (W.alloc (.cells #[devp b] 43)).alloc (.cells #[devp b] 43) = W0 := ⟨_, rfl⟩
  have hs0 : W0.heap.size = W.heap.size + 2 := by rw [← hW0]; simp
  have hB0 : Below W.heap.size W W0 := by rw [← hW0]; exact ((Below.refl _ W).alloc (Nat.le_refl _) _).alloc (by simp) _
  have hc1 : W0.cell? ⟨W.heap.size, 0, none⟩ = some (devp b) := by
    rw [← hW0, World.cell?_alloc_lt _ _ _ (by simp)]; exact cell_new_l W _ _
  have hc2 : W0.cell? ⟨W.heap.size + 1, 0, none⟩ = some (devp b) := by
    have := cell_new_l (W.alloc (.cells #[devp b] 43)) (devp b) 43
    rw [hW0] at this
    simpa using this
  rw [hW0]
  have hI := HI.out
  have hlt0 : ∀ k, S k → k < W0.heap.size := fun k hk => by have := hI.lt k hk; omega
  have hD0 : DevIn S W0 b g c m vals M := hI.kept hB0.size (fun k hk => hB0.block k (hI.lt k hk))
  have hbox : ∀ (N : Dv) (V : World), During S W0 b g c m N V → V.cell? ⟨W.heap.size, 0, none⟩ = some (devp b) ∧ V.cell? ⟨W.heap.size + 1, 0, none⟩ = some (devp b) ∧ V.cell? ⟨b, 3, none⟩ = some (.map (some m)) := by
    rintro N V ⟨⟨vals', hd'⟩, ho⟩
    have hno : ∀ k, W.heap.size ≤ k → ¬ S k := fun k hk hs => by have := hI.lt k hs; omega
    exact ⟨(cell_same 0 (ho.block _ (by omega) (hno _ (Nat.le_refl _)))).trans hc1, (cell_same 0 (ho.block _ (by omega) (hno _ (by omega)))).trans hc2, hd'.head.c3⟩
  have Hbox := Lib.hid hbox
  clear hbox hI
  refine range_told (n := 8) (by decide) (gf := 125) (lb := #[.pointer (some ⟨W.heap.size + 1, 0, none⟩)]) rfl (enters_of Tryz.func125 (by kernel_rfl) rfl) M.loose.length
    (fun j args V => ∃ v, args = #[.int .i64 ((M.loose.getD j 0 : Nat) : Int), v] ∧ (Instr.lookup 115 (.map (some m)) (.int .i64 ((M.loose.getD j 0 : Nat) : Int)) false).run Tryz.prog V = .ok v V)
    (fun p j V => During S W0 b g c m (M.after (M.loose.take j) M.cur) V) ?hit ?h0 ?hput
    (fun p j a' V => During S W0 b g c m (M.after (M.loose.take j) M.cur) V ∧ ∃ Br A cap, a' = { tmps := #[devp b, .pointer (some ⟨W.heap.size, 0, none⟩), .int .i64 0, .int .i64 (downErr false), .int .i64 ((M.loose.getD j 0 : Nat) : Int), .pointer (some ⟨Br, 0, none⟩), devp b, .int .i64 (downErr false), .int .i64 (downErr false), .bool false, undef, devp b, .func (.func 125) #[] #[.pointer (some ⟨W.heap.size + 1, 0, none⟩)], .int .i64 ((M.loose.getD j 0 : Nat) : Int), .agg #[.slice A (M.row (M.loose.getD j 0)).length cap], undef, undef, undef, undef, undef, undef], defers := [] } ∧
      W0.heap.size + 2 ≤ Br ∧ V.cell? ⟨Br, 0, none⟩ = some (.slice A (M.row (M.loose.getD j 0)).length cap)) ?hAx ?hassign ?hbody ?hdone
  case hit =>
    intro l J V hJI hst hrd hb
    have hV0 := hD0.kept hb.size (fun k hk => hb.block k (hlt0 k hk))
    have hV : During S W0 b g c m M V := ⟨⟨vals, hV0⟩, Only.of_below hb⟩
    obtain ⟨_, hbx, hb3⟩ := Hbox.out _ _ hV
    refine loose1_in l (W.heap.size + 1) b m M.n (entry M.row vals) V hbx hb3 hV0.ro.map hD0.fine.n M.loose (M.loose_keys vals) J (fun p j V' hJ => (Hbox.out _ _ (hJI p j V' hJ)).2) hst ?_
    intro p j hj V1 hJ
    have hD := hJI p j V1 hJ
    obtain ⟨⟨vals', hd'⟩, _⟩ := hD
    have hget : M.loose.getD j 0 = M.loose[j] := by rw [List.getD_eq_getElem?_getD, List.getElem?_eq_getElem hj]; rfl
    have hmem := (Dv.mem_loose (M := M)).1 (List.getElem_mem hj)
    obtain ⟨A, cap, hl, _⟩ := look_row hd' M.loose[j] hmem.1
    refine ⟨_, hl, hrd p j hj _ V1 hJ ⟨_, by rw [hget], by rw [hget]; exact hl⟩⟩
  case h0 =>
    intro p V hb _ _
    refine ⟨⟨vals, ?_⟩, Only.of_below hb⟩
    rw [List.take_zero, Dv.after_nil]
    exact hD0.kept hb.size (fun k hk => hb.block k (hlt0 k hk))
  case hput =>
    intro p j V l o hl _ h
    exact h.put hlt0 l o hl
  case hAx =>
    rintro p j a' V l o hl hl2 ⟨hD, Br, A, cap, rfl, hBr, hcell⟩
    refine ⟨hD.put hlt0 l o hl, Br, A, cap, rfl, hBr, ?_⟩
    exact (cell_same 0 (World.putObj_heap_other (by omega))).trans hcell
  case hassign =>
    rintro l p j args V hj hp1 hp2 hD ⟨v, rfl, hlk⟩
    refine ⟨rfl, ?_⟩
    have hget : M.loose.getD j 0 = M.loose[j] := by rw [List.getD_eq_getElem?_getD, List.getElem?_eq_getElem hj]; rfl
    have hmem := (Dv.mem_loose (M := M)).1 (List.getElem_mem hj)
    have hnot := take_not_mem M.loose_nodup j hj
    have hD' := hD
    obtain ⟨⟨vals', hd'⟩, ho⟩ := hD'
    obtain ⟨A, cap, hl, _⟩ := look_row hd' M.loose[j] hmem.1
    rw [Dv.after_row hnot] at hl
    rw [hget] at hlk ⊢
    have hv : v = .agg #[.slice A (M.row M.loose[j]).length cap] := by
      rw [hl] at hlk; injection hlk with h1 h2; exact h1.symm
    subst hv
    have HD := Lib.hid hD
    clear hD hlk hl ho hd' hget hmem hnot
    generalize (M.row M.loose[j]).length = q
    generalize M.loose[j] = x
    gi_wp2
    have hbl : Below V.heap.size V (V.alloc (.cells #[.slice A q cap] 167)) := (Below.refl _ V).alloc (Nat.le_refl _) _
    have hsz := HD.out.2.size
    exact ⟨KeepB.below hbl (by omega) hp2, HD.out.below hbl, V.heap.size, A, cap, rfl, by omega, cell_new_l V _ _⟩
  case hbody =>
    rintro l p j a' V hj hp1 hp2 ⟨hD, Br, A, cap, rfl, hBr, hcell⟩
    have hget : M.loose.getD j 0 = M.loose[j] := by rw [List.getD_eq_getElem?_getD, List.getElem?_eq_getElem hj]; rfl
    have hmem := (Dv.mem_loose (M := M)).1 (List.getElem_mem hj)
    have hnot := take_not_mem M.loose_nodup j hj
    obtain ⟨hb1, _, _⟩ := Hbox.out _ _ hD
    obtain ⟨⟨vals', hd'⟩, ho⟩ := hD
    have hset := settle_any hd' hw M.loose[j] hmem.1 (M.row M.loose[j]).length (by rw [Dv.after_row hnot]; exact Nat.le_refl _)
    rw [Dv.after_full M.cur M.loose_nodup j hj rfl hmem.2] at hset
    rw [hget] at hcell ⊢
    have HS := Lib.hid hset
    have HO := Lib.hid ho
    clear hset hd' ho hget hmem hnot
    generalize (M.row M.loose[j]).length = q at hcell HS ⊢
    generalize M.loose[j] = x at HS ⊢
    gi_wp2_with fail
    refine ⟨trivial, (CallsIn.inRound l (callsIn_wide.2 HS.out)).mono ?_⟩
    rintro e V' ⟨rfl, vals2, hd2, ho2⟩
    gi_wp2
    have hno : ∀ k, W0.heap.size ≤ k → ¬ S k := fun k hk hs => by have := hlt0 k hs; omega
    have hsz := HO.out.size
    have hBrl : Br < V.heap.size := World.block_lt_of_cell? V _ hcell
    exact ⟨⟨ho2.block _ (by omega) (hno _ (Nat.le_refl _)), ho2.block _ (by omega) (hno _ (by omega)), ho2.block _ hp2 (hno _ (by omega))⟩, ⟨vals2, hd2⟩, HO.out.trans ho2 (fun _ e => .inl e)⟩
  case hdone =>
    intro p V hD hK
    rw [List.take_length, Dv.after_flush M hD0.fine] at hD
    have HD := Lib.hid hD
    clear hD
    gi_wp2
    refine ⟨by simp, .inl ⟨_, _, rfl, run_takeDeferred hK, ?_⟩⟩
    have hD2 := HD.out.put hlt0 W0.heap.size (.deferred none) (Nat.le_refl _)
    obtain ⟨⟨vals2, hd2⟩, ho2⟩ := hD2
    exact ⟨_, results_tmp rfl _ _ _, rfl, Step.of ⟨g, c, m, vals2, hd2⟩ ((Only.of_below (S := S) hB0).trans ho2 (fun _ e => .inl e))⟩
end Go.Proofs.YtdddennhdbmolaaGreat
/- Layer 3 (dev): Crash. -/
namespace Go.Proofs.YtdddennhdbmolaaGreat
open Go.RowKit Go.Maps Go.Shelf
set_option linter.unusedVariables false
set_option linter.unusedSimpArgs false
set_option maxRecDepth 10000
attribute [local go_sem] Oper.semAt_some
/-- How many of a sector's cached writes a crash keeps, and what it leaves of it. -/
def Dv.kept (M : Dv) (keep : List UInt8) (i : Nat) : Nat := (keep.getD (M.loose.idxOf i) 0).toNat % ((M.row i).length + 1)
def Dv.left_ (M : Dv) (keep : List UInt8) (i : Nat) : List UInt8 := if M.kept keep i = 0 then M.dur i else (M.row i).getD (M.kept keep i - 1) []
def Dv.crash (M : Dv) (keep : List UInt8) : Dv := { M with dur := fun i => if M.row i = [] then M.dur i else M.left_ keep i, row := fun _ => [], left := 0, down := false }
theorem upd_upd {α : Type} (f : Nat → α) (i : Nat) (x y : α) : upd (upd f i x) i y = upd f i y := by
  funext j
  by_cases h : j = i
  · subst h; simp
  · simp [upd_other _ _ h]
theorem Dv.ext6 : ∀ (A B : Dv), A.n = B.n → A.dur = B.dur → A.row = B.row → A.wr = B.wr → A.left = B.left → A.down = B.down → A = B := by
  rintro ⟨⟩ ⟨⟩ rfl rfl rfl rfl rfl rfl; rfl
/-- A round of Crash. -/
theorem Dv.after_crash {M : Dv} (gf : Nat → List UInt8) {l : List Nat} (hl : l.Nodup) (j : Nat) (hj : j < l.length) (k : Nat) (hk : k ≤ (M.row l[j]).length)
    (hg : gf l[j] = if k = 0 then M.dur l[j] else (M.row l[j]).getD (k - 1) []) : { (M.after (l.take j) gf).settle l[j] k with row := upd ((M.after (l.take j) gf).settle l[j] k).row l[j] [] } = M.after (l.take (j + 1)) gf := by
  refine Dv.ext6 _ _ rfl (Dv.after_settle gf hl j hj k hk hg) ?_ rfl rfl rfl
  simp only [Dv.settle]
  rw [upd_upd]
  exact Dv.after_drop gf hl j hj
theorem Dv.crash_after (M : Dv) (keep : List UInt8) (h : Fine M) : { M.after M.loose (M.left_ keep) with left := 0, down := false } = M.crash keep := by
  refine Dv.ext6 _ _ rfl ?_ ?_ rfl rfl rfl
  · funext i
    simp only [Dv.after, Dv.crash]
    by_cases e : i ∈ M.loose
    · rw [if_pos e, if_neg (Dv.mem_loose.1 e).2]
    · rw [if_neg e]
      by_cases hr : M.row i = []
      · rw [if_pos hr]
      · exact absurd (Dv.mem_loose.2 ⟨h.out i hr, hr⟩) e
  · funext i
    simp only [Dv.after, Dv.crash]
    by_cases e : i ∈ M.loose
    · rw [if_pos e]
    · rw [if_neg e]
      by_cases hr : M.row i = []
      · exact hr
      · exact absurd (Dv.mem_loose.2 ⟨h.out i hr, hr⟩) e
theorem Dv.kept_at (M : Dv) (keep : List UInt8) (j : Nat) (hj : j < M.loose.length) : M.kept keep M.loose[j] = (keep.getD j 0).toNat % ((M.row M.loose[j]).length + 1) := by
  unfold Dv.kept
  rw [List.Nodup.idxOf_getElem M.loose_nodup j hj]
/-- An entry is struck, be it there or not. -/
theorem DevIn.struck {S : Nat → Prop} {W : World} {b g c m : Nat} {vals : Nat → Value} {M : Dv} (h : DevIn S W b g c m vals M) (i : Nat) (hi : i < M.n) :
    ∃ W', (Builtin.delete_ #[115, 3] 0 #[.map (some m), .int .i64 (i : Int)]).run Tryz.prog W = .ok (.tuple #[]) W' ∧ (∃ vals', DevIn S W' b g c m vals' { M with row := upd M.row i [] }) ∧ Only S W W' := by
  obtain ⟨W2, hdel, hmap, hg2⟩ := h.ro.map.drop Tryz.underlying3 Tryz.underlying115 (by have := h.fine.n; show M.n ≤ _; omega) hi 0
  refine ⟨W2, hdel, ⟨upd vals i (.slice none 0 0), ?_⟩, Only.of_grown hg2 (fun k e => by cases e; exact h.sm)⟩
  exact h.rows (S' := S) (W' := W2) i hi [] (.slice none 0 0) (fun _ hk => hk) (fun k hk => Nat.lt_of_lt_of_le (h.lt k hk) hg2.size) (fun k hk _ hm _ => grown_other hg2 hk hm)
    (by simpa using hmap) (fun e => absurd rfl e) (by simp) (h.head.kept (grown_other hg2 (h.lt b h.sb) h.bm)) h.fine.left (Nat.zero_le _) (Nat.le_refl _)
/-- What the rounds of Crash keep. -/
structure CrashI (S : Nat → Prop) (w : World) (b g c m Bk : Nat) (r : List UInt8) (N : Dv) (V : World) : Prop where
  dev : ∃ vals, DevIn S V b g c m vals N
  only : Only (fun k => S k ∨ k = Bk) w V
  cell : V.cell? ⟨Bk, 0, none⟩ = some (str r)
  free : V.frozen? ⟨Bk, 0, none⟩ = false
theorem CrashI.same {S : Nat → Prop} {w : World} {b g c m Bk : Nat} {r : List UInt8} {N : Dv} {V V' : World} (h : CrashI S w b g c m Bk r N V) (hlt : ∀ k, S k → k < w.heap.size) (hB : Bk < w.heap.size)
    (ho : V'.os = V.os) (ht : V'.tape = V.tape) (hu : V'.output = V.output) (hs : V.heap.size ≤ V'.heap.size) (hk : ∀ k, k < w.heap.size → V'.heap[k]? = V.heap[k]?) : CrashI S w b g c m Bk r N V' := by
  obtain ⟨⟨vals, hd⟩, hO, hc, hf⟩ := h
  exact ⟨⟨vals, hd.kept hs (fun k hS => hk k (hlt k hS))⟩, ⟨ho.trans hO.os, ht.trans hO.tape, hu.trans hO.output, Nat.le_trans hO.size hs, fun k hkl hn => (hk k hkl).trans (hO.block k hkl hn)⟩,
    (cell_same 0 (hk Bk hB)).trans hc, (World.frozen?_of_block (a := ⟨Bk, 0, none⟩) (hk Bk hB)).trans hf⟩
theorem CrashI.put {S : Nat → Prop} {w : World} {b g c m Bk : Nat} {r : List UInt8} {N : Dv} {V : World} (h : CrashI S w b g c m Bk r N V) (hlt : ∀ k, S k → k < w.heap.size) (hB : Bk < w.heap.size) (l : Nat) (o : Obj) (hl : w.heap.size ≤ l) : CrashI S w b g c m Bk r N (V.putObj l o) :=
  h.same hlt hB rfl rfl rfl (by simp) (fun k hk => World.putObj_heap_other (by omega))
theorem CrashI.below {S : Nat → Prop} {w : World} {b g c m Bk : Nat} {r : List UInt8} {N : Dv} {V V' : World} (h : CrashI S w b g c m Bk r N V) (hlt : ∀ k, S k → k < w.heap.size) (hB : Bk < w.heap.size) (hb : Below V.heap.size V V') : CrashI S w b g c m Bk r N V' :=
  h.same hlt hB hb.os hb.tape hb.output hb.size (fun k hk => hb.block k (Nat.lt_of_lt_of_le hk h.only.size))
end Go.Proofs.YtdddennhdbmolaaGreat
