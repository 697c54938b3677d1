/- Layer 8 (tx): the iterator over what was written; Touched; Collect. -/
import Derived.Test.YthgdkpkhnhjifaaGreatM17
import Derived.Test.YthgdkpkhnhjifaaGreatTx2
namespace Go.Proofs.YthgdkpkhnhjifaaGreat
open Go.RowKit Go.Maps Go.Sort Go.Shelf
set_option linter.unusedVariables false
set_option linter.unusedSimpArgs false
set_option maxRecDepth 10000
attribute [local go_sem] Oper.semAt_some
theorem inOrder_any (tb : Nat) (w : World) : Calls Tryz.prog 44 #[devp tb] w fun e w' => e = .returned (.func (.func 63) #[] #[.pointer (some ⟨w.heap.size, 0, none⟩)]) ∧ w' = w.alloc (.cells #[devp tb] 29) := by
  go_enter Tryz.func44, Tryz.ntmps44
  go_wp2
  go_ret
  exact ⟨rfl, rfl⟩
set_option maxRecDepth 100000 in
set_option maxHeartbeats 2000000 in
theorem inOrder1_in (l Bd tb m cnt : Nat) (f : Nat → Option Value) (W : World) (hd : W.cell? ⟨Bd, 0, none⟩ = some (devp tb)) (h3 : W.cell? ⟨tb, 2, none⟩ = some (.map (some m))) (hmap : IMap Tryz.prog 3 W m cnt f) (hc : cnt ≤ 4096) (ks : List Nat) (hks : keysOf cnt f = ks)
    (J : Nat → Nat → World → Prop) (hJd : ∀ p j W', J p j W' → W'.cell? ⟨Bd, 0, none⟩ = some (devp tb) ∧ W'.cell? ⟨tb, 2, none⟩ = some (.map (some m)))
    (hstart : ∀ p W', Below W.heap.size W W' → W.heap.size ≤ p → p < W'.heap.size → J p 0 W')
    (hround : ∀ p j (hj : j < ks.length) W1, J p j W1 → ∃ v, (Instr.lookup 74 (.map (some m)) (.int .i64 ((ks[j] : Nat) : Int)) false).run Tryz.prog W1 = .ok v W1 ∧
      YieldAt Fence.wide 6 Tryz.prog l #[v] W1 fun e W' => e = .returned (.bool true) ∧ J p (j + 1) W' ∧ W'.heap[p]? = W1.heap[p]?) :
    CallsIn Fence.wide 7 Tryz.prog 63 #[.func (.yield l) #[] #[], .pointer (some ⟨Bd, 0, none⟩)] W fun e W' => (∃ v, e = .returned v) ∧ ∃ p, J p ks.length W' := by
  subst hks
  have hmap' := hmap
  obtain ⟨D0, hown, hhas, hval⟩ := hmap'
  have hbl := hown.lt
  have hszD := IMap.size_le hown Tryz.underlying3 hhas
  have hseq : SeqGives Fence.wide 3 Tryz.prog 82 #[.pointer (some ⟨W.heap.size, 0, none⟩)] encZ (fun ss => ss.Perm (intKeys D0)) (Maps.size D0) (W.alloc (.cells #[.map (some m)] 74)) :=
    AnyZI.keys_gives (ρ := Tryz.keysPL_ren) { Tryz.keysPL with } Fence.wide _ trivial rfl (by omega) W.heap.size m _ D0 _ (by simp) (by simp) (by
      obtain ⟨es, clock, hb, Ft, hs, hD⟩ := hown
      exact ⟨es, clock, (Below.heap_alloc _ _ m hbl).trans hb, Ft, hs, hD⟩)
  have cK : ∀ mb V, CallsIn Fence.wide 6 Tryz.prog 65 #[.map mb] V fun e w' => e = .returned (.func (.func 82) #[] #[.pointer (some ⟨V.heap.size, 0, none⟩)]) ∧ w' = V.alloc (.cells #[.map mb] 74) := fun mb V => AnyZI.keys_in Tryz.keysPL Fence.wide 6 trivial rfl mb V
  have cS := AnyZI.sorted_in Tryz.sortedL Fence.wide 6 trivial trivial trivial trivial rfl (by omega) (sortsAt _) (enters_of Tryz.func81 (by kernel_rfl) rfl) 82 #[.pointer (some ⟨W.heap.size, 0, none⟩)] trivial (enters_of Tryz.func82 (by kernel_rfl) rfl) _ _ (by unfold maxLen; omega) (by omega) _ hseq
  change CallsIn _ _ Tryz.prog 64 _ _ _ at cS
  have hfK : Fence.wide.fn 65 := trivial
  have hfS : Fence.wide.fn 64 := trivial
  have HS := fun (ss : List Int) (hp : ss.Perm (intKeys D0)) => sorted_keys hown Tryz.underlying3 hhas hp
  have HHS := Lib.hid HS
  have HR := Lib.hid hround
  have HJ := Lib.hid hJd
  have HST := Lib.hid hstart
  have HM := Lib.hid hmap
  have HC := Lib.hid cS
  have HK := keys_len cnt f
  clear HS hround hJd hstart hmap hseq hown hhas hval cS hszD
  refine callsIn_of_wp Tryz.func63 rfl trivial ?_ rfl
  simp only [Tryz.ntmps63, List.size_toArray, List.length_cons, List.length_nil, Nat.reduceAdd, Nat.reduceSub, Array.replicate_succ, Array.replicate_zero, List.push_toArray, List.append_toArray, List.nil_append, List.cons_append]
  gi_wp2_with fail
  refine (cK _ _).mono ?_
  rintro e w' ⟨rfl, rfl⟩
  gi_wp2_with fail
  refine HC.out.mono ?_
  rintro e W2 ⟨v, ss, rfl, hperm, hrow, hnil, hb⟩
  rw [HHS.out ss hperm] at hrow
  have hbW : Below W.heap.size W W2 := ((Below.refl _ W).alloc (Nat.le_refl _) _).trans (hb.mono (by simp))
  have hsz2 : W.heap.size + 1 ≤ W2.heap.size := by have := hb.size; simpa using this
  have hv : ∃ A c p, v = .slice A (keysOf cnt f).length c ∧ W.heap.size ≤ p ∧ p < W2.heap.size ∧ ∀ j (hj : j < (keysOf cnt f).length), A = some ⟨p, 0, none⟩ ∧ W2.cell? ⟨p, j, none⟩ = some (.int .i64 (((keysOf cnt f)[j] : Nat) : Int)) := by
    have hl : ss.length = (keysOf cnt f).length := by have := hrow.1; simp at this; omega
    rcases hrow.2 with ⟨rfl, h0⟩ | ⟨g, cap, cur, rfl, hbase, hg, hrest⟩
    · exact ⟨none, 0, W.heap.size, by rw [← hl, h0], Nat.le_refl _, by omega, fun j hj => by omega⟩
    · refine ⟨some ⟨g, 0, none⟩, cap, g, by rw [hl], by simp at hbase; omega, (Array.getElem?_eq_some_iff.1 hg).1, fun j hj => ⟨rfl, ?_⟩⟩
      have := hrow.cells (g := g) rfl j (.int .i64 (((keysOf cnt f)[j] : Nat) : Int)) (by simp [hj])
      rwa [addr_add0] at this
  obtain ⟨A, c, p, rfl, hp1, hp2, hcell⟩ := hv
  have hJ0 := HST.out p W2 hbW hp1 hp2
  have Hcell := Lib.hid hcell
  clear hrow hnil hperm hcell hb cK
  gi_wp2_with fail
  gi_loopw [12] (fun i wr => ∃ k : Nat, k ≤ (keysOf cnt f).length ∧ i = .int .i64 k ∧ J p k wr ∧ wr.heap[p]? = W2.heap[p]?) (fun i _ => (keysOf cnt f).length - (intOf i).toNat)
  case atStart => exact ⟨0, Nat.zero_le _, rfl, hJ0, rfl⟩
  case round =>
    obtain ⟨k, hk, rfl, hJk, hpk⟩ := hrel
    by_cases hlt : k < (keysOf cnt f).length
    · obtain ⟨rfl, hcell⟩ := Hcell.out k hlt
      have hcx : wr.cell? ⟨p, k, none⟩ = some (.int .i64 (((keysOf cnt f)[k] : Nat) : Int)) := (World.cell?_of_block (a := ⟨p, k, none⟩) hpk).trans hcell
      obtain ⟨hd1, h31⟩ := HJ.out p k wr hJk
      obtain ⟨v, hlk, fn, tmps, assign, body, hy, hR⟩ := HR.out p k hlt wr hJk
      have HP := Lib.hid hpk
      clear hcell hpk
      generalize (keysOf cnt f)[k] = x at hcx hlk hy
      gi_wp2
      refine hR.mono ?_
      rintro e W3 ⟨rfl, hJ3, hk3⟩
      have HP3 := Lib.hid hk3
      clear hk3
      gi_wp2
      go_roundw
      case rel => exact ⟨k + 1, by omega, by simp, hJ3, HP3.out.trans HP.out⟩
      case measure => simp [intOf]; omega
    · obtain rfl : k = (keysOf cnt f).length := by omega
      have HP := Lib.hid hpk
      clear hpk
      gi_wp2
      go_end0
      exact ⟨⟨_, rfl⟩, p, hJk⟩
/-- What a loop over what was written keeps: the transaction; of what was there only the box B has turned; the row so far, of cells cs. -/
def TouchI (w : World) (tb b jb m n : Nat) (L : PutL) (B p : Nat) (t : TypeId) (sz len : Nat) (cs : List Value) (V : World) : Prop :=
  TxIn V tb b jb m n L ∧ Only (fun k => k = B) w V ∧ ∃ v, V.cell? ⟨B, 0, none⟩ = some v ∧ V.frozen? ⟨B, 0, none⟩ = false ∧ V.ownsRow (w.heap.size + 2) t sz v len cs ∧ ∀ k, v.ownBlock = some k → k ≠ p
section
variable {w : World} {tb b jb m n : Nat} {L : PutL} {B p : Nat} {t : TypeId} {sz len : Nat} {cs : List Value} {V : World}
theorem TouchI.below {W' : World} (h : TouchI w tb b jb m n L B p t sz len cs V) (hB : B < w.heap.size) (hb : Below V.heap.size V W') : TouchI w tb b jb m n L B p t sz len cs W' := by
  obtain ⟨h1, h2, v, h3, h4, h5, h6⟩ := h
  have hBv : B < V.heap.size := Nat.lt_of_lt_of_le hB h2.size
  exact ⟨h1.below hb, h2.trans (Only.of_below (S := fun k => k = B) hb) (fun _ e => .inl e), v, (cell_same 0 (hb.block B hBv)).trans h3, (World.frozen?_of_block (a := ⟨B, 0, none⟩) (hb.block B hBv)).trans h4,
    h5.kept (grown_of_below' hb none) (by cases hv : Value.ownBlock _ <;> simp), h6⟩
theorem TouchI.put (h : TouchI w tb b jb m n L B p t sz len cs V) (hB : B < w.heap.size) (ht : tb < w.heap.size) (hm : m < w.heap.size) (l : Nat) (o : Obj) (hl : w.heap.size ≤ l) (hl2 : l ≤ w.heap.size + 1) : TouchI w tb b jb m n L B p t sz len cs (V.putObj l o) := by
  obtain ⟨h1, h2, v, h3, h4, h5, h6⟩ := h
  have hk : ∀ k, k ≠ l → (V.putObj l o).heap[k]? = V.heap[k]? := fun k hk => World.putObj_heap_other hk
  refine ⟨h1.kept (hk _ (by omega)) (hk _ (by omega)), ⟨h2.os, h2.tape, h2.output, by simpa using h2.size, fun k hkl hS => (hk k (by omega)).trans (h2.block k hkl hS)⟩, v, (cell_same 0 (hk B (by omega))).trans h3, (World.frozen?_of_block (a := ⟨B, 0, none⟩) (hk B (by omega))).trans h4, ?_, h6⟩
  refine h5.kept (row := some l) ⟨rfl, rfl, rfl, by simp, fun k _ hne => hk k (by intro e; subst e; exact hne rfl)⟩ (.inr fun e => ?_)
  have := (h5.lt l e).1
  omega
end
end Go.Proofs.YthgdkpkhnhjifaaGreat
