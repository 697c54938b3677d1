/- Layer 3 (dev): the iterator over loose sectors. -/
import Derived.Test.YtoogedjeclcdbaaDev7
import Derived.Test.YtoogedjeclcdbaaBaseRange
import Derived.Test.YtoogedjeclcdbaaKeys
import Derived.Maps.OwnIn
namespace Go.Proofs.Ytoogedjeclcdbaa
open Go.RowKit Go.Maps Go.Sort Go.Shelf
set_option linter.unusedVariables false
attribute [local go_sem] Oper.semAt_some
/-- slices.Sort's two contracts at ints. -/
theorem sortsAt (m : Nat) : AnyZI.SortsIn Try.prog Try.sortedL_ren Fence.wide m :=
  ⟨fun blk off cap ss W hH hblk hsz => callsIn_wide.2 (AnyM.slices_Sort_int Try.sortL blk off cap ss W hH hblk hsz),
   fun p cap W => callsIn_wide.2 (AnyM.slices_Sort_int_none Try.sortL p cap W)⟩
theorem loose_any (b : Nat) (w : World) : Calls Try.prog 28 #[devp b] w fun e w' => e = .returned (.func (.func 30) #[] #[.pointer (some ⟨w.heap.size, 0, none⟩)]) ∧ w' = w.alloc (.cells #[devp b] 25) := by
  go_enter Try.func28, Try.ntmps28
  go_wp2
  go_ret
  exact ⟨rfl, rfl⟩
theorem keys_lt {n : Nat} {f : Nat → Option Value} {i : Nat} (h : i ∈ keysOf n f) : i < n := List.mem_range.1 (List.mem_filter.1 h).1
theorem keys_len (n : Nat) (f : Nat → Option Value) : (keysOf n f).length ≤ n := by
  have := List.length_filter_le (fun i => (f i).isSome) (List.range n)
  simpa [keysOf] using this
set_option maxRecDepth 100000 in
set_option maxHeartbeats 2000000 in
theorem loose1_in (l Bd b m cnt : Nat) (f : Nat → Option Value) (W : World) (hd : W.cell? ⟨Bd, 0, none⟩ = some (devp b)) (h3 : W.cell? ⟨b, 3, none⟩ = some (.map (some m))) (hmap : IMap Try.prog 3 W m cnt f) (hc : cnt ≤ 4096) (ks : List Nat) (hks : keysOf cnt f = ks)
    (J : Nat → Nat → World → Prop) (hJd : ∀ p j W', J p j W' → W'.cell? ⟨Bd, 0, none⟩ = some (devp b) ∧ W'.cell? ⟨b, 3, none⟩ = some (.map (some m)))
    (hstart : ∀ p W', Below W.heap.size W W' → W.heap.size ≤ p → p < W'.heap.size → J p 0 W')
    (hround : ∀ p j (hj : j < ks.length) W1, J p j W1 → ∃ v, (Instr.lookup 54 (.map (some m)) (.int .i64 ((ks[j] : Nat) : Int)) false).run Try.prog W1 = .ok v W1 ∧
      YieldAt Fence.wide 6 Try.prog l #[.int .i64 ((ks[j] : Nat) : Int), v] W1 fun e W' => e = .returned (.bool true) ∧ J p (j + 1) W' ∧ W'.heap[p]? = W1.heap[p]?) :
    CallsIn Fence.wide 7 Try.prog 30 #[.func (.yield l) #[] #[], .pointer (some ⟨Bd, 0, none⟩)] W fun e W' => (∃ v, e = .returned v) ∧ ∃ p, J p ks.length W' := by
  subst hks
  have hmap' := hmap
  obtain ⟨D0, hown, hhas, hval⟩ := hmap'
  have hbl := hown.lt
  have hszD := IMap.size_le hown Try.underlying3 hhas
  have hseq : SeqGives Fence.wide 3 Try.prog 35 #[.pointer (some ⟨W.heap.size, 0, none⟩)] encZ (fun ss => ss.Perm (intKeys D0)) (Maps.size D0) (W.alloc (.cells #[.map (some m)] 54)) :=
    AnyZI.keys_gives (ρ := Try.keysL_ren) { Try.keysL with } Fence.wide _ trivial rfl (by omega) W.heap.size m _ D0 _ (by simp) (by simp) (by
      obtain ⟨es, clock, hb, Ft, hs, hD⟩ := hown
      exact ⟨es, clock, (Below.heap_alloc _ _ m hbl).trans hb, Ft, hs, hD⟩)
  have cK : ∀ mb V, CallsIn Fence.wide 6 Try.prog 32 #[.map mb] V fun e w' => e = .returned (.func (.func 35) #[] #[.pointer (some ⟨V.heap.size, 0, none⟩)]) ∧ w' = V.alloc (.cells #[.map mb] 54) := fun mb V => AnyZI.keys_in Try.keysL Fence.wide 6 trivial rfl mb V
  have cS := AnyZI.sorted_in Try.sortedL Fence.wide 6 trivial trivial trivial trivial rfl (by omega) (sortsAt _) (enters_of Try.func34 (by kernel_rfl) rfl) 35 #[.pointer (some ⟨W.heap.size, 0, none⟩)] trivial (enters_of Try.func35 (by kernel_rfl) rfl) _ _ (by unfold maxLen; omega) (by omega) _ hseq
  change CallsIn _ _ Try.prog 31 _ _ _ at cS
  have hfK : Fence.wide.fn 32 := trivial
  have hfS : Fence.wide.fn 31 := trivial
  have HS := fun (ss : List Int) (hp : ss.Perm (intKeys D0)) => sorted_keys hown Try.underlying3 hhas hp
  have HHS := Lib.hid HS
  have HR := Lib.hid hround
  have HJ := Lib.hid hJd
  have HST := Lib.hid hstart
  have HM := Lib.hid hmap
  have HC := Lib.hid cS
  have HK := keys_len cnt f
  clear HS hround hJd hstart hmap hseq hown hhas hval cS hszD
  refine callsIn_of_wp Try.func30 rfl trivial ?_ rfl
  simp only [Try.ntmps30, List.size_toArray, List.length_cons, List.length_nil, Nat.reduceAdd, Nat.reduceSub, Array.replicate_succ, Array.replicate_zero, List.push_toArray, List.append_toArray, List.nil_append, List.cons_append]
  gi_wp2_with fail
  refine (cK _ _).mono ?_
  rintro e w' ⟨rfl, rfl⟩
  gi_wp2_with fail
  refine HC.out.mono ?_
  rintro e W2 ⟨v, ss, rfl, hperm, hrow, hnil, hb⟩
  rw [HHS.out ss hperm] at hrow
  have hbW : Below W.heap.size W W2 := ((Below.refl _ W).alloc (Nat.le_refl _) _).trans (hb.mono (by simp))
  have hsz2 : W.heap.size + 1 ≤ W2.heap.size := by have := hb.size; simpa using this
  have hv : ∃ A c p, v = .slice A (keysOf cnt f).length c ∧ W.heap.size ≤ p ∧ p < W2.heap.size ∧ ∀ j (hj : j < (keysOf cnt f).length), A = some ⟨p, 0, none⟩ ∧ W2.cell? ⟨p, j, none⟩ = some (.int .i64 (((keysOf cnt f)[j] : Nat) : Int)) := by
    have hl : ss.length = (keysOf cnt f).length := by have := hrow.1; simp at this; omega
    rcases hrow.2 with ⟨rfl, h0⟩ | ⟨g, cap, cur, rfl, hbase, hg, hrest⟩
    · exact ⟨none, 0, W.heap.size, by rw [← hl, h0], Nat.le_refl _, by omega, fun j hj => by omega⟩
    · refine ⟨some ⟨g, 0, none⟩, cap, g, by rw [hl], by simp at hbase; omega, (Array.getElem?_eq_some_iff.1 hg).1, fun j hj => ⟨rfl, ?_⟩⟩
      have := hrow.cells (g := g) rfl j (.int .i64 (((keysOf cnt f)[j] : Nat) : Int)) (by simp [hj])
      rwa [addr_add0] at this
  obtain ⟨A, c, p, rfl, hp1, hp2, hcell⟩ := hv
  have hJ0 := HST.out p W2 hbW hp1 hp2
  have Hcell := Lib.hid hcell
  clear hrow hnil hperm hcell hb cK
  gi_wp2_with fail
  gi_loopw [12] (fun i wr => ∃ k : Nat, k ≤ (keysOf cnt f).length ∧ i = .int .i64 k ∧ J p k wr ∧ wr.heap[p]? = W2.heap[p]?) (fun i _ => (keysOf cnt f).length - (intOf i).toNat)
  case atStart => exact ⟨0, Nat.zero_le _, rfl, hJ0, rfl⟩
  case round =>
    obtain ⟨k, hk, rfl, hJk, hpk⟩ := hrel
    by_cases hlt : k < (keysOf cnt f).length
    · obtain ⟨rfl, hcell⟩ := Hcell.out k hlt
      have hcx : wr.cell? ⟨p, k, none⟩ = some (.int .i64 (((keysOf cnt f)[k] : Nat) : Int)) := (World.cell?_of_block (a := ⟨p, k, none⟩) hpk).trans hcell
      obtain ⟨hd1, h31⟩ := HJ.out p k wr hJk
      obtain ⟨v, hlk, fn, tmps, assign, body, hy, hR⟩ := HR.out p k hlt wr hJk
      have HP := Lib.hid hpk
      clear hcell hpk
      generalize (keysOf cnt f)[k] = x at hcx hlk hy
      gi_wp2
      refine hR.mono ?_
      rintro e W3 ⟨rfl, hJ3, hk3⟩
      have HP3 := Lib.hid hk3
      clear hk3
      gi_wp2
      go_roundw
      case rel => exact ⟨k + 1, by omega, by simp, hJ3, HP3.out.trans HP.out⟩
      case measure => simp [intOf]; omega
    · obtain rfl : k = (keysOf cnt f).length := by omega
      have HP := Lib.hid hpk
      clear hpk
      gi_wp2
      go_end0
      exact ⟨⟨_, rfl⟩, p, hJk⟩
end Go.Proofs.Ytoogedjeclcdbaa
