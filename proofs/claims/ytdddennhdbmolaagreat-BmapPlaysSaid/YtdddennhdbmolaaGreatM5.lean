/- What walks of ranges over functions use. -/
import Derived.Test.YtdddennhdbmolaaGreatM4
import Derived.RangeFuncNested
import Derived.RangeFuncBound
import Derived.RangeFuncCalls
import Derived.RangeFuncLeaves
import Derived.Shelf.Abstract
import Derived.Shelf.RegionOpen
import Derived.OwnWalkIn
import Derived.TacticsInMore
import Derived.LoopNIn
import Derived.LoopIn
namespace Go.Proofs.YtdddennhdbmolaaGreat
open Go.RowKit Go.Shelf
set_option linter.unusedVariables false
set_option linter.unusedSimpArgs false
set_option maxRecDepth 10000
theorem cell_new_l (W : World) (v : Value) (t : TypeId) : (W.alloc (.cells #[v] t)).cell? ⟨W.heap.size, 0, none⟩ = some v := by
  rw [cell_of_row _ _ 0 _ t (0, 0) (heap_alloc_new W _)]; rfl
theorem frozen_new_l (W : World) (v : Value) (t : TypeId) : (W.alloc (.cells #[v] t)).frozen? ⟨W.heap.size, 0, none⟩ = false := frozen_of_row _ _ 0 _ t (heap_alloc_new W _)
/-- A slice of texts, in a block below n₀. -/
def Parts (n₀ : Nat) (w : World) (v : Value) (ps : List (List UInt8)) : Prop :=
  ∃ A c, v = .slice A ps.length c ∧ ∀ j p, ps[j]? = some p → ∃ g, A = some ⟨g, 0, none⟩ ∧ g < n₀ ∧ w.cell? ⟨g, j, none⟩ = some (str p)
theorem parts_below {n₀ : Nat} {w w' : World} {v : Value} {ps : List (List UInt8)} (h : Parts n₀ w v ps) (hb : Below n₀ w w') : Parts n₀ w' v ps := by
  obtain ⟨A, c, hv, hc⟩ := h
  refine ⟨A, c, hv, fun j p hj => ?_⟩
  obtain ⟨g, hA, hg, hcell⟩ := hc j p hj
  exact ⟨g, hA, hg, (hb.cell (p := ⟨g, j, none⟩) hg).trans hcell⟩
theorem parts_of_row {w : World} {v : Value} {ps : List (List UInt8)} (h : Row w v (ps.map str)) : Parts w.heap.size w v ps := by
  obtain ⟨A, c, hv, hc⟩ := h
  refine ⟨A, c, by simpa using hv, fun j p hj => ?_⟩
  obtain ⟨g, hA, hcell⟩ := hc j (str p) (by simp [hj])
  exact ⟨g, hA, World.block_lt_of_cell? w _ hcell, hcell⟩
theorem flat_take_succ (ps : List (List UInt8)) (k : Nat) (h : k < ps.length) : (ps.take (k + 1)).flatten = (ps.take k).flatten ++ ps[k] := by
  rw [List.take_succ_eq_append_getElem h, List.flatten_append, List.flatten_singleton]
theorem flat_take_le (ps : List (List UInt8)) (k : Nat) : (ps.take k).flatten.length ≤ ps.flatten.length := by
  have h : ps.flatten = (ps.take k).flatten ++ (ps.drop k).flatten := by rw [← List.flatten_append, List.take_append_drop]
  rw [h, List.length_append]; omega
theorem flat_take_prefix (ps : List (List UInt8)) (k : Nat) (h : k < ps.length) (j : Nat) : (ps.take k).flatten ++ (ps[k].take j) <+: ps.flatten := by
  refine ⟨ps[k].drop j ++ (ps.drop (k + 1)).flatten, ?_⟩
  rw [List.append_assoc, ← List.append_assoc (List.take j _), List.take_append_drop, ← List.append_assoc, ← flat_take_succ ps k h, ← List.flatten_append, List.take_append_drop]
end Go.Proofs.YtdddennhdbmolaaGreat
/- Layer 2 (crc): the bytes of all parts, one by one. -/
namespace Go.Proofs.YtdddennhdbmolaaGreat
open Go.RowKit Go.Shelf
set_option linter.unusedVariables false
set_option linter.unusedSimpArgs false
set_option maxRecDepth 10000
attribute [local go_sem] Oper.semAt_some
set_option maxRecDepth 100000 in
set_option maxHeartbeats 2000000 in
theorem bytes_in (F : Fence) (n : Nat) (h7 : F.fn 163) (hro : F.round = none) (hn : 1 ≤ n) (l Bs n₀ : Nat) (v : Value) (ps : List (List UInt8)) (hps : ps.length ≤ 1048576) (hlen : ∀ p ∈ ps, p.length ≤ 1048576) (J Jx : List UInt8 → World → Prop)
    (hY : ∀ pre (x : UInt8) W, J pre W → pre.length < ps.flatten.length → YieldAt F (n - 1) Tryz.prog l #[.int .u8 (x.toNat : Int)] W fun e W' =>
      (e = .returned (.bool true) ∧ J (pre ++ [x]) W' ∧ Below n₀ W W') ∨ (e = .returned (.bool false) ∧ Jx (pre ++ [x]) W'))
    (W : World) (hBs : W.cell? ⟨Bs, 0, none⟩ = some v) (hP : Parts n₀ W v ps) (h0 : J [] W) :
    CallsIn F n Tryz.prog 163 #[.func (.yield l) #[] #[], .pointer (some ⟨Bs, 0, none⟩)] W fun e W' => (∃ v, e = .returned v) ∧
      ((∃ ys, ys = ps.flatten ∧ J ys W') ∨ (∃ pre, pre <+: ps.flatten ∧ Jx pre W')) := by
  have HP := Lib.hid hP
  obtain ⟨A, c, rfl, hc⟩ := hP
  have Hc := Lib.hid hc
  clear hc
  refine callsIn_of_wp Tryz.func163 rfl h7 ?_ hro
  simp only [Tryz.ntmps163, List.size_toArray, List.length_cons, List.length_nil, Nat.reduceAdd, Nat.reduceSub, Array.replicate_succ, Array.replicate_zero, List.push_toArray, List.append_toArray, List.nil_append, List.cons_append]
  gi_wp2
  gi_loopw [8] (fun i wr => ∃ k : Nat, k ≤ ps.length ∧ i = .int .i64 k ∧ J (ps.take k).flatten wr ∧ Below n₀ W wr)
    (fun i _ => ps.length - (intOf i).toNat)
  case atStart => exact ⟨0, Nat.zero_le _, rfl, h0, Below.refl _ _⟩
  case round =>
    obtain ⟨k, hk, rfl, hJs, hnx⟩ := hrel
    by_cases hlt : k < ps.length
    · obtain ⟨g, rfl, hg, hcell⟩ := Hc.out k ps[k] (List.getElem?_eq_getElem hlt)
      have hcx : wr.cell? ⟨g, k, none⟩ = some (str ps[k]) := (hnx.cell (p := ⟨g, k, none⟩) hg).trans hcell
      have hpl := hlen ps[k] (List.getElem_mem hlt)
      have hpre := flat_take_prefix ps k hlt
      have hsucc := flat_take_succ ps k hlt
      have htot : ∀ j, j < ps[k].length → ((ps.take k).flatten ++ ps[k].take j).length < ps.flatten.length := by
        intro j hj
        have := flat_take_le ps (k + 1)
        rw [hsucc] at this
        simp only [List.length_append, List.length_take] at this ⊢
        omega
      have Hpre := Lib.hid hpre
      have Hsucc := Lib.hid hsucc
      have Htot := Lib.hid htot
      clear hpre hsucc htot hcell
      generalize ps[k] = s at hcx hpl Hpre Hsucc Htot
      gi_wp2
      gi_loopw [14] (fun i wq => ∃ j : Nat, j ≤ s.length ∧ i = .int .i64 j ∧ J ((ps.take k).flatten ++ s.take j) wq ∧ Below n₀ W wq)
        (fun i _ => s.length - (intOf i).toNat)
      case atStart => exact ⟨0, Nat.zero_le _, rfl, by simpa using hJs, hnx⟩
      case round =>
        obtain ⟨j, hj, rfl, hJq, hnq⟩ := hrel
        by_cases hlj : j < s.length
        · obtain ⟨fn, tmps, assign, body, hy, hR⟩ := hY _ (s[j]) wr hJq (Htot.out j hlj)
          have hts : s.take (j + 1) = s.take j ++ [s[j]] := List.take_succ_eq_append_getElem hlj
          have Hts := Lib.hid hts
          clear hts
          gi_wp2
          refine hR.mono ?_
          rintro e W3 (⟨rfl, hJ3, hk3⟩ | ⟨rfl, hJx3⟩)
          · gi_wp2
            go_roundw
            case rel => exact ⟨j + 1, by omega, by simp, by rw [Hts.out, ← List.append_assoc]; exact hJ3, hnq.trans hk3⟩
            case measure => simp [intOf]; omega
          · gi_wp2
            refine bodyPost_ret (results_none rfl _ _ _) rfl ?_
            exact ⟨⟨_, rfl⟩, .inr ⟨_, by have := Hpre.out (j + 1); rw [Hts.out, ← List.append_assoc] at this; exact this, hJx3⟩⟩
        · obtain rfl : j = s.length := by omega
          gi_wp2
          go_roundw
          case rel => exact ⟨k + 1, by omega, by simp, by rw [Hsucc.out]; rwa [List.take_length] at hJq, hnq⟩
          case measure => simp [intOf]; omega
    · obtain rfl : k = ps.length := by omega
      gi_wp2
      go_end0
      exact ⟨⟨_, rfl⟩, .inl ⟨_, rfl, by rwa [List.take_length] at hJs⟩⟩
end Go.Proofs.YtdddennhdbmolaaGreat
/- Layer 2 (crc): registers and sums. -/
namespace Go.Proofs.YtdddennhdbmolaaGreat
open Go.RowKit Go.Shelf
set_option linter.unusedVariables false
set_option linter.unusedSimpArgs false
set_option maxRecDepth 10000
attribute [local go_sem] Oper.semAt_some
set_option maxHeartbeats 400000 in
theorem bytesOf_any (A : Option Addr) (m c : Nat) (w : World) :
    Calls Tryz.prog 150 #[.slice A m c] w fun e w' => e = .returned (.func (.func 163) #[] #[.pointer (some ⟨w.heap.size, 0, none⟩)]) ∧ w' = w.alloc (.cells #[.slice A m c] 88) := by
  go_enter Tryz.func150, Tryz.ntmps150
  go_wp2
  go_ret
  exact ⟨rfl, rfl⟩
theorem reg_byte (a : BitVec 32) : (a.toNat : Int) / (256 : Int) = ((a >>> 8).toNat : Int) := by
  rw [BitVec.toNat_ushiftRight, Nat.shiftRight_eq_div_pow]; simp
theorem wrap_u8 (n : Nat) : IntKind.u8.wrap (n : Int) = ((UInt8.ofNat n).toNat : Int) := by
  rw [UInt8.toNat_ofNat']
  simp [IntKind.wrap, IntKind.bits, IntKind.signed]
set_option maxRecDepth 100000 in
set_option maxHeartbeats 2000000 in
theorem process_any (c : BitVec 32) (v : Value) (ps : List (List UInt8)) (w : World) (hps : ps.length ≤ 1048576) (hlen : ∀ p ∈ ps, p.length ≤ 1048576) (hP : Parts w.heap.size w v ps) :
    Calls Tryz.prog 145 #[reg c, v] w fun e w' => e = .returned (reg (crcL c ps.flatten)) ∧ Below w.heap.size w w' := by
  obtain ⟨hz, hsz⟩ := zero_of_info tabInfo
  have hlenT := tabC_length 256
  have hst := fun W => run_storeCells_new (P := Tryz.prog) W 227 (tabC 0).toArray (tabC 256).toArray (by rw [hsz]; simp [tabC_length]) (by simp [tabC_length]) (tabC_one 256)
  simp only at hst
  clear hsz
  have HP := Lib.hid hP
  obtain ⟨A, m, rfl, hc⟩ := hP
  clear hc
  refine (callsIn_wide (n := 3)).1 ?_
  refine callsIn_of_wp_marks Tryz.func145 rfl trivial ?_ rfl
  simp only [Tryz.ntmps145, List.size_toArray, List.length_cons, List.length_nil, Nat.reduceAdd, Nat.reduceSub, Array.replicate_succ, Array.replicate_zero, List.push_toArray, List.append_toArray, List.nil_append, List.cons_append]
  gi_wp2_with fail
  refine ⟨trivial, (callsIn_wide.2 (table_any _)).mono ?_⟩
  rintro e w1 ⟨rfl, hb1⟩
  gi_wp2_with fail
  refine ⟨trivial, (callsIn_wide.2 (bytesOf_any _ _ _ _)).mono ?_⟩
  rintro e w2 ⟨rfl, rfl⟩
  gi_wp2_with fail
  obtain ⟨W0, hW0⟩ : ∃ W0, (w1.alloc (.cells (tabC 256).toArray 227)).alloc (.cells #[Value.slice A ps.length m] 88) = W0 := ⟨_, rfl⟩
  have hsz1 : w.heap.size + 1 ≤ w1.heap.size := by have := hb1.size; simpa using this
  have hsz0 : W0.heap.size = w1.heap.size + 1 + 1 := by rw [← hW0]; simp
  have hbx : Below (w.heap.size + 1) (w.alloc (.cells #[reg c] 25)) W0 := by
    rw [← hW0]
    exact ((by simpa using hb1 : Below (w.heap.size + 1) _ w1).alloc hsz1 _).alloc (by simp; omega) _
  have hB0 : Below w.heap.size w W0 := ((Below.refl _ _).alloc (Nat.le_refl _) _).trans (hbx.mono (by omega))
  have hcb : W0.cell? ⟨w.heap.size, 0, none⟩ = some (reg c) := (hbx.cell (p := ⟨w.heap.size, 0, none⟩) (by simp)).trans (cell_new_l w _ _)
  have hcf : W0.frozen? ⟨w.heap.size, 0, none⟩ = false := (hbx.frozen (p := ⟨w.heap.size, 0, none⟩) (by simp)).trans (frozen_new_l w _ _)
  have hct : ∀ b, b < 256 → W0.cell? ⟨w1.heap.size, b, none⟩ = some (reg (ent b)) := by
    intro b hb
    rw [← hW0, World.cell?_alloc_lt _ _ _ (by simp), cell_of_row _ _ b _ 227 (0, 0) (heap_alloc_new w1 _), List.getElem?_toArray, tabC_get _ _ hb, if_pos hb]
  have hcs : W0.cell? ⟨w1.heap.size + 1, 0, none⟩ = some (Value.slice A ps.length m) := by
    have := cell_new_l (w1.alloc (.cells (tabC 256).toArray 227)) (Value.slice A ps.length m) 88
    rw [hW0] at this
    simpa using this
  rw [hW0]
  clear hW0 hst hz hlenT hb1
  have Hct := Lib.hid hct
  have Hcs := Lib.hid hcs
  have Hsz0 := Lib.hid hsz0
  clear hct hcs hsz0
  refine wpIn_rangeFunc_ownF rfl (by decide) (gf := 163) (lb := #[.pointer (some ⟨w1.heap.size + 1, 0, none⟩)]) rfl trivial (enters_of Tryz.func163 (by kernel_rfl) rfl)
    (encs := fun (x : UInt8) => #[.int .u8 (x.toNat : Int)]) (S := fun xs => xs = ps.flatten) (Sp := fun pre => pre <+: ps.flatten) (N := ps.flatten.length) (w0 := W0) (Kp := Below w.heap.size)
    (fun l J Jx W hW hJ hJx hY h0 => bytes_in Fence.wide 2 trivial rfl (by decide) l (w1.heap.size + 1) w.heap.size _ ps hps hlen J Jx hY W ((hW.cell (p := ⟨w1.heap.size + 1, 0, none⟩) (by rw [Hsz0.out]; simp)).trans Hcs.out) (parts_below HP.out (hB0.trans (hW.mono (by rw [Hsz0.out]; omega)))) h0)
    belowK_t (belowK_b (by rw [Hsz0.out]; omega)) (Below.refl _ _) (fun _ => rfl)
    (fun pre W => (W.cell? ⟨w.heap.size, 0, none⟩ = some (reg (crcL c pre)) ∧ W.frozen? ⟨w.heap.size, 0, none⟩ = false ∧ ∀ b, b < 256 → W.cell? ⟨w1.heap.size, b, none⟩ = some (reg (ent b))) ∧ Below w.heap.size w W)
    (fun _ _ _ => False)
    (OwnFrom.and (Own.from (fun s A B row hs hg hr => ⟨cell_kept hs.1 hg hr, (frozen_kept hs.1 hg hr).trans hs.2.1, fun b hb => cell_kept (hs.2.2 b hb) hg hr⟩) _) (ownFrom_below (Nat.le_refl _) (by rw [Hsz0.out]; omega)))
    (fun _ _ _ _ _ hs _ _ => hs)
    ⟨⟨hcb, hcf, Hct.out⟩, hB0⟩
    (fun x => { tmps := #[reg c, Value.slice A ps.length m, .pointer (some ⟨w.heap.size, 0, none⟩), undef, .int .u32 0, .pointer (some ⟨w1.heap.size, 0, none⟩), .int .u8 (x.toNat : Int), .agg (tabC 256).toArray, Value.slice A ps.length m, .func (.func 163) #[] #[.pointer (some ⟨w1.heap.size + 1, 0, none⟩)], .int .u8 (x.toNat : Int), undef, undef, undef, undef, undef, undef, undef, undef, undef, undef], defers := [] }) ?assign ?body ?done ?stop
  case assign =>
    intro l x W K hK
    gi_wp2
    exact hK
  case body =>
    rintro l pre x W ⟨⟨hc, hf, ht⟩, hB⟩ _
    have hsn := crcL_snoc c pre x
    rw [stn8_table] at hsn
    have Hsn := Lib.hid hsn
    clear hsn
    generalize crcL c pre = d at hc Hsn
    have hw : IntKind.u8.wrap (d.toNat : Int) = ((UInt8.ofNat d.toNat).toNat : Int) := wrap_u8 _
    generalize UInt8.ofNat d.toNat = y at hw Hsn
    have hx8 : bits .xor .u8 (y.toNat : Int) (x.toNat : Int) = ((y ^^^ x).toNat : Int) := by
      rw [u8_xor_nat _ _ y.toNat_lt x.toNat_lt, UInt8.toNat_xor]
    generalize y ^^^ x = q at hx8 Hsn
    have hq := q.toNat_lt
    have hcq := ht q.toNat hq
    have Ht := Lib.hid ht
    clear ht hcb hcf
    gi_wp2
    gi_region
    all_goals gi_wp2
    all_goals
      have hx : Value.int .u32 (bits .xor .u32 ((d.toNat : Int) / 256) ((ent q.toNat).toNat : Int)) = reg (crcL c (pre ++ [x])) := by
        rw [reg_byte, reg_xor, Hsn.out]; rfl
      rw [hx]
      refine ⟨(KeepsOthers.setCell W ⟨w.heap.size, 0, none⟩ _).trans (KeepsOthers.drew _), ((Below.refl w.heap.size W).setCell (p := ⟨w.heap.size, 0, none⟩) (Nat.le_refl _) _).drew, ⟨?_, ?_, ?_⟩, (hB.setCell (p := ⟨w.heap.size, 0, none⟩) (Nat.le_refl _) _).drew⟩
      · exact World.cell?_setCell_same' W ⟨w.heap.size, 0, none⟩ _ (by rw [hc]; rfl)
      · show (W.setCell ⟨w.heap.size, 0, none⟩ _).frozen? _ = false
        rw [World.frozen?_setCell]; exact hf
      · intro b hb
        show (W.setCell ⟨w.heap.size, 0, none⟩ _).cell? _ = _
        rw [World.cell?_setCell_other _ _ _ _ (by intro e; injection e with e; omega)]
        exact Ht.out b hb
  case done =>
    rintro D ys W hD rfl ⟨⟨hc, _⟩, hB⟩ hK
    gi_wp2
    refine ⟨by simp, .inl ⟨_, _, rfl, run_takeDeferred hK, ?_⟩⟩
    exact ⟨_, results_tmp rfl _ _ _, rfl, hB.trans (belowK_b (w := w) (Nat.le_refl _) W D _ _ (by rw [Hsz0.out] at hD; omega) hK rfl rfl)⟩
  case stop =>
    rintro D c pre W _ _ h _
    exact h.elim
end Go.Proofs.YtdddennhdbmolaaGreat
