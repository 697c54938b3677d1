import Derived.Test.YtnfiapjdkjbdhaaGreatX2
import Derived.Laws.BitsAllLaws
import Derived.Laws.StructEq
import Derived.ChangeKeysEq
import Derived.WalkMore
import Derived.Laws.EntriesVeiled
namespace Go.Proofs.YtnfiapjdkjbdhaaGreat
open Go.RowKit
set_option linter.unusedVariables false
set_option linter.unusedSimpArgs false
set_option maxRecDepth 10000
abbrev reg (c : BitVec 32) : Value := .int .u32 (c.toNat : Int)
@[go_sem] theorem reg_wrap (c : BitVec 32) : IntKind.u32.wrap (c.toNat : Int) = (c.toNat : Int) := IntWalk.u32_in _ ⟨by omega, by have := c.isLt; omega⟩
theorem reg_xor (a b : BitVec 32) : bits .xor .u32 (a.toNat : Int) (b.toNat : Int) = ((a ^^^ b).toNat : Int) := by
  rw [u32_xor_nat _ _ a.isLt b.isLt, BitVec.toNat_xor]
theorem reg_xor_poly (a : BitVec 32) : bits .xor .u32 (a.toNat : Int) 3988292384 = ((a ^^^ poly).toNat : Int) := reg_xor a poly
theorem reg_half (a : BitVec 32) : (a.toNat : Int) / (2 : Int) = ((a >>> 1).toNat : Int) := by
  rw [BitVec.toNat_ushiftRight, Nat.shiftRight_eq_div_pow]; simp
theorem st1_odd (c : BitVec 32) (h : c.toNat % 2 = 1) : st1 c = (c >>> 1) ^^^ poly := by
  unfold st1; rw [if_pos]; rw [BitVec.getLsbD, Nat.testBit_zero]; simp [h]
theorem st1_even (c : BitVec 32) (h : c.toNat % 2 = 0) : st1 c = c >>> 1 := by
  unfold st1; rw [if_neg]; rw [BitVec.getLsbD, Nat.testBit_zero]; simp [h]
theorem low_bit (c : BitVec 32) : bits .and .u32 (c.toNat : Int) 1 = ((c.toNat % 2 : Nat) : Int) := by
  have h := u32_and_nat c.toNat 1 c.isLt (by omega)
  rw [Nat.and_one_is_mod] at h
  exact h
theorem low_bit_odd (c : BitVec 32) (h : c.toNat % 2 = 1) : (bits .and .u32 (c.toNat : Int) 1 == 1) = true := by rw [low_bit, h]; rfl
theorem low_bit_even (c : BitVec 32) (h : c.toNat % 2 = 0) : (bits .and .u32 (c.toNat : Int) 1 == 1) = false := by rw [low_bit, h]; rfl
set_option maxHeartbeats 400000 in
theorem step8_any (c : BitVec 32) (w : World) :
    Calls Tryz.prog 256 #[reg c] w fun e w' => e = .returned (reg (stn 8 c)) ∧ w = w' := by
  go_enter Tryz.func256, Tryz.ntmps256
  go_wp2
  go_loop [0, 3, 4] (fun x o i => ∃ (k : Nat) (d : BitVec 32) (z : Value), k ≤ 8 ∧ i = .int .i64 k ∧ x = reg d ∧ stn (8 - k) d = stn 8 c ∧ o = z) (fun _ _ i => 8 - (Go.RowKit.intOf i).toNat)
  case atStart => exact ⟨0, c, _, by omega, rfl, rfl, rfl, rfl⟩
  case round =>
    obtain ⟨k, d, z, hk, rfl, rfl, hd, rfl⟩ := hrel
    have Hd := Lib.hid hd
    clear hd
    by_cases hlt : k < 8
    · have hstep : stn (8 - k) d = stn (8 - (k + 1)) (st1 d) := by
        rw [show 8 - k = (8 - (k + 1)) + 1 by omega]; rfl
      have Hstep := Lib.hid hstep
      clear hstep
      by_cases hp : d.toNat % 2 = 1
      · have hs1 := st1_odd d hp
        have hb := low_bit_odd d hp
        rw [hs1] at Hstep
        clear hs1
        go_wp2_with fail
        go_round
        case rel => exact ⟨k + 1, _, _, by omega, by go_num, by rw [reg_half, reg_xor_poly], by rw [← Hstep.out, Hd.out], rfl⟩
        case measure => simp [Go.RowKit.intOf]; omega
      · have hs1 := st1_even d (by omega)
        have hb := low_bit_even d (by omega)
        rw [hs1] at Hstep
        clear hs1
        go_wp2_with fail
        go_round
        case rel => exact ⟨k + 1, _, _, by omega, by go_num, by rw [reg_half], by rw [← Hstep.out, Hd.out], rfl⟩
        case measure => simp [Go.RowKit.intOf]; omega
    · go_wp2_with fail
      go_ret
      have : k = 8 := by omega
      subst this
      exact ⟨by rw [← Hd.out]; rfl, rfl⟩
end Go.Proofs.YtnfiapjdkjbdhaaGreat
/- Layer 2 (crc): the table of all bytes. -/
namespace Go.Proofs.YtnfiapjdkjbdhaaGreat
open Go.RowKit
set_option linter.unusedVariables false
set_option linter.unusedSimpArgs false
set_option maxRecDepth 10000
def ent (b : Nat) : BitVec 32 := stn 8 (BitVec.ofNat 32 b)
def tabC (k : Nat) : List Value := (List.range 256).map fun b => if b < k then reg (ent b) else .int .u32 0
theorem tabC_length (k : Nat) : (tabC k).length = 256 := by simp [tabC]
theorem tabC_get (k b : Nat) (hb : b < 256) : (tabC k)[b]? = some (if b < k then reg (ent b) else .int .u32 0) := by
  simp [tabC, hb]
theorem tabC_set (k : Nat) (hk : k < 256) : (tabC k).set k (reg (ent k)) = tabC (k + 1) := by
  apply List.ext_getElem?
  intro i
  by_cases hi : i < 256
  · by_cases h : k = i
    · subst h
      rw [List.getElem?_set_self (by rw [tabC_length]; exact hk), tabC_get _ _ hk]
      simp
    · rw [List.getElem?_set_ne h, tabC_get _ _ hi, tabC_get _ _ hi]
      by_cases h2 : i < k
      · simp [h2, show i < k + 1 by omega]
      · simp [h2, show ¬ i < k + 1 by omega]
  · rw [List.getElem?_eq_none (by rw [List.length_set, tabC_length]; omega), List.getElem?_eq_none (by rw [tabC_length]; omega)]
theorem tabC_one (k : Nat) : (tabC k).toArray.all (·.oneCell') = true := by
  rw [Array.all_eq_true_iff_forall_mem]
  intro v hv
  simp only [List.mem_toArray, tabC, List.mem_map] at hv
  obtain ⟨b, _, rfl⟩ := hv
  split <;> rfl
theorem tabInfo : (Tryz.prog.info? 348).map (fun i => (i.zero, i.size)) = some (some (.agg (tabC 0).toArray), 256) := by kernel_rfl
def lowOf (k : Nat) : Nat := k &&& (512 - k)
theorem lowOf_all : ∀ k : Fin 256, bits .and .i64 (k.val : Int) (-(k.val : Int)) = (lowOf k.val : Int) ∧ lowOf k.val ≤ k.val ∧ (lowOf k.val < k.val → 0 < lowOf k.val ∧ ent (lowOf k.val) ^^^ ent (k.val - lowOf k.val) = ent k.val) := by decide +kernel
theorem step8_nat (k : Nat) (n : Int) (hn : n = (k : Int)) (hk : k < 256) (w : World) :
    Calls Tryz.prog 256 #[.int .u32 n] w fun e w' => e = .returned (reg (ent k)) ∧ w = w' := by
  have h := step8_any (BitVec.ofNat 32 k) w
  have h2 : ((BitVec.ofNat 32 k).toNat : Int) = n := by rw [BitVec.toNat_ofNat, Nat.mod_eq_of_lt (by omega), hn]
  unfold reg at h
  rw [h2] at h
  exact h
set_option maxRecDepth 100000 in
set_option maxHeartbeats 1000000 in
theorem table_any (w : World) :
    Calls Tryz.prog 254 #[] w fun e w' => e = .returned (.agg (tabC 256).toArray) ∧ Below w.heap.size w w' := by
  obtain ⟨hz, hsz⟩ := zero_of_info tabInfo
  have Hsz := Lib.hid hsz
  clear hsz
  go_enter Tryz.func254, Tryz.ntmps254
  go_wp2_with fail
  go_loopw [4] (fun i wr => ∃ k : Nat, k ≤ 256 ∧ i = .int .i64 k ∧ wr.heap[w.heap.size + 1]? = some (.cells (tabC k).toArray 348 (0, 0)) ∧ wr.heap[w.heap.size]? = some (.cells (tabC 0).toArray 348 (0, 0)) ∧ Below w.heap.size w wr) (fun i _ => 256 - (Go.RowKit.intOf i).toNat)
  case atStart =>
    refine ⟨0, by omega, rfl, heap_new _ _ _ (by simp), ?_, ((Below.refl _ _).alloc (Nat.le_refl _) _).alloc (by simp) _⟩
    rw [heap_alloc_old _ _ (by simp)]
    exact heap_new _ _ _ rfl
  case round =>
    obtain ⟨k, hk, rfl, hg, h0, hb⟩ := hrel
    have H0 := Lib.hid h0
    clear h0
    by_cases hlt : k < 256
    · obtain ⟨hand, hle, hent⟩ := lowOf_all ⟨k, hlt⟩
      simp only at hand hle hent
      have Hent := Lib.hid hent
      clear hent
      have hfr := frozen_of_row wr (w.heap.size + 1) k _ 348 hg
      have hcell := cell_of_row wr (w.heap.size + 1) k _ 348 (0, 0) hg
      rw [List.getElem?_toArray, tabC_get _ _ hlt, if_neg (by omega)] at hcell
      by_cases hq : lowOf k = k
      · rw [hq] at hand hle
        have Hg := Lib.hid hg
        clear hg hq
        go_wp2_with fail
        refine (step8_nat k _ (by first | rfl | simp) hlt _).mono ?_
        rintro e w1 ⟨rfl, rfl⟩
        go_wp2_with fail
        go_roundw
        case rel =>
          refine ⟨k + 1, by omega, by go_num, ?_, ?_, hb.setCell (by simp) _⟩
          · rw [heap_setCell_same _ _ _ _ _ _ Hg.out, List.setIfInBounds_toArray, tabC_set k hlt]
          · rw [heap_setCell_other _ _ _ _ (by simp)]; exact H0.out
        case measure => simp [Go.RowKit.intOf]; omega
      · have hl1 : lowOf k < k := by omega
        have hcl := cell_of_row wr (w.heap.size + 1) (lowOf k) _ 348 (0, 0) hg
        rw [List.getElem?_toArray, tabC_get _ _ (by omega), if_pos hl1] at hcl
        have hcr := cell_of_row wr (w.heap.size + 1) (k - lowOf k) _ 348 (0, 0) hg
        rw [List.getElem?_toArray, tabC_get _ _ (by omega), if_pos (by have := (Hent.out hl1).1; omega)] at hcr
        have Hg := Lib.hid hg
        clear hg
        generalize lowOf k = lo at hand hle Hent hq hl1 hcl hcr
        obtain ⟨m, hm⟩ : ∃ m, m = k - lo := ⟨_, rfl⟩
        have hsub : (k : Int) - (lo : Int) = (m : Int) := by omega
        have hmk : m < k := by have := (Hent.out hl1).1; omega
        rw [← hm] at hcr Hent
        have Hm := Lib.hid hm
        clear hm
        go_wp2_with fail
        go_region
        go_wp2
        go_roundw
        case rel =>
          have hx : Value.int .u32 (bits .xor .u32 ((ent lo).toNat : Int) ((ent m).toNat : Int)) = reg (ent k) := by
            rw [reg_xor, (Hent.out hl1).2]
          refine ⟨k + 1, by omega, by go_num, ?_, ?_, (hb.setCell (by simp) _).drew⟩
          · rw [hx]
            show ((wr.setCell _ _).heap)[w.heap.size + 1]? = _
            rw [heap_setCell_same _ _ _ _ _ _ Hg.out, List.setIfInBounds_toArray, tabC_set k hlt]
          · show ((wr.setCell _ _).heap)[w.heap.size]? = _
            rw [heap_setCell_other _ _ _ _ (by simp)]; exact H0.out
        case measure => simp [Go.RowKit.intOf]; omega
    · have : k = 256 := by omega
      subst this
      have hl := run_loadVar_row (P := Tryz.prog) wr (w.heap.size + 1) 348 348 _ (0, 0) _ hg Tryz.underlying348 rfl (by rw [Hsz.out]; simp [tabC_length])
      have hst := run_storeCells_row (P := Tryz.prog) wr w.heap.size 348 _ (tabC 256) H0.out (by simp [tabC_length]) (tabC_one 256)
      have hlen := tabC_length 256
      clear hg
      generalize hT : tabC 256 = T at hl hst hlen
      have HT := Lib.hid hT
      clear hT
      go_wp2_with fail
      refine wp_load_row _ _ rfl _ rfl _ hl ?_
      go_wp2_with fail
      have hfin := setRow_heap wr w.heap.size _ T.toArray _ (0, 0) H0.out
      refine bodyPost_ret (v := .agg T.toArray) ?_ rfl ⟨by rw [HT.out], below_setRow hb _ (Nat.le_refl _) _⟩
      exact results_cell_row rfl _ _ w.heap.size 348 _ (0, 0) _ rfl hfin Tryz.underlying348 rfl (by rw [Hsz.out]; simp [hlen])
end Go.Proofs.YtnfiapjdkjbdhaaGreat
/- Layer 2 (crc): the bytes of all parts, one by one. -/
namespace Go.Proofs.YtnfiapjdkjbdhaaGreat
open Go.RowKit Go.Shelf
set_option linter.unusedVariables false
set_option linter.unusedSimpArgs false
set_option maxRecDepth 10000
attribute [local go_sem] Oper.semAt_some
set_option maxRecDepth 100000 in
set_option maxHeartbeats 2000000 in
theorem bytes_in (F : Fence) (n : Nat) (h7 : F.fn 257) (hro : F.round = none) (hn : 1 ≤ n) (l Bs n₀ : Nat) (v : Value) (ps : List (List UInt8)) (hps : ps.length ≤ 1048576) (hlen : ∀ p ∈ ps, p.length ≤ 1048576) (J Jx : List UInt8 → World → Prop)
    (hY : ∀ pre (x : UInt8) W, J pre W → pre.length < ps.flatten.length → YieldAt F (n - 1) Tryz.prog l #[.int .u8 (x.toNat : Int)] W fun e W' =>
      (e = .returned (.bool true) ∧ J (pre ++ [x]) W' ∧ Below n₀ W W') ∨ (e = .returned (.bool false) ∧ Jx (pre ++ [x]) W'))
    (W : World) (hBs : W.cell? ⟨Bs, 0, none⟩ = some v) (hP : Parts n₀ W v ps) (h0 : J [] W) :
    CallsIn F n Tryz.prog 257 #[.func (.yield l) #[] #[], .pointer (some ⟨Bs, 0, none⟩)] W fun e W' => (∃ v, e = .returned v) ∧
      ((∃ ys, ys = ps.flatten ∧ J ys W') ∨ (∃ pre, pre <+: ps.flatten ∧ Jx pre W')) := by
  have HP := Lib.hid hP
  obtain ⟨A, c, rfl, hc⟩ := hP
  have Hc := Lib.hid hc
  clear hc
  refine callsIn_of_wp Tryz.func257 rfl h7 ?_ hro
  simp only [Tryz.ntmps257, List.size_toArray, List.length_cons, List.length_nil, Nat.reduceAdd, Nat.reduceSub, Array.replicate_succ, Array.replicate_zero, List.push_toArray, List.append_toArray, List.nil_append, List.cons_append]
  gi_wp2
  gi_loopw [8] (fun i wr => ∃ k : Nat, k ≤ ps.length ∧ i = .int .i64 k ∧ J (ps.take k).flatten wr ∧ Below n₀ W wr)
    (fun i _ => ps.length - (Go.RowKit.intOf i).toNat)
  case atStart => exact ⟨0, Nat.zero_le _, rfl, h0, Below.refl _ _⟩
  case round =>
    obtain ⟨k, hk, rfl, hJs, hnx⟩ := hrel
    by_cases hlt : k < ps.length
    · obtain ⟨g, rfl, hg, hcell⟩ := Hc.out k ps[k] (List.getElem?_eq_getElem hlt)
      have hcx : wr.cell? ⟨g, k, none⟩ = some (str ps[k]) := (hnx.cell (p := ⟨g, k, none⟩) hg).trans hcell
      have hpl := hlen ps[k] (List.getElem_mem hlt)
      have hpre := flat_take_prefix ps k hlt
      have hsucc := flat_take_succ ps k hlt
      have htot : ∀ j, j < ps[k].length → ((ps.take k).flatten ++ ps[k].take j).length < ps.flatten.length := by
        intro j hj
        have := flat_take_le ps (k + 1)
        rw [hsucc] at this
        simp only [List.length_append, List.length_take] at this ⊢
        omega
      have Hpre := Lib.hid hpre
      have Hsucc := Lib.hid hsucc
      have Htot := Lib.hid htot
      clear hpre hsucc htot hcell
      generalize ps[k] = s at hcx hpl Hpre Hsucc Htot
      gi_wp2
      gi_loopw [14] (fun i wq => ∃ j : Nat, j ≤ s.length ∧ i = .int .i64 j ∧ J ((ps.take k).flatten ++ s.take j) wq ∧ Below n₀ W wq)
        (fun i _ => s.length - (Go.RowKit.intOf i).toNat)
      case atStart => exact ⟨0, Nat.zero_le _, rfl, by simpa using hJs, hnx⟩
      case round =>
        obtain ⟨j, hj, rfl, hJq, hnq⟩ := hrel
        by_cases hlj : j < s.length
        · obtain ⟨fn, tmps, assign, body, hy, hR⟩ := hY _ (s[j]) wr hJq (Htot.out j hlj)
          have hts : s.take (j + 1) = s.take j ++ [s[j]] := List.take_succ_eq_append_getElem hlj
          have Hts := Lib.hid hts
          clear hts
          gi_wp2
          refine hR.mono ?_
          rintro e W3 (⟨rfl, hJ3, hk3⟩ | ⟨rfl, hJx3⟩)
          · gi_wp2
            go_roundw
            case rel => exact ⟨j + 1, by omega, by simp, by rw [Hts.out, ← List.append_assoc]; exact hJ3, hnq.trans hk3⟩
            case measure => simp [Go.RowKit.intOf]; omega
          · gi_wp2
            refine bodyPost_ret (results_none rfl _ _ _) rfl ?_
            exact ⟨⟨_, rfl⟩, .inr ⟨_, by have := Hpre.out (j + 1); rw [Hts.out, ← List.append_assoc] at this; exact this, hJx3⟩⟩
        · obtain rfl : j = s.length := by omega
          gi_wp2
          go_roundw
          case rel => exact ⟨k + 1, by omega, by simp, by rw [Hsucc.out]; rwa [List.take_length] at hJq, hnq⟩
          case measure => simp [Go.RowKit.intOf]; omega
    · obtain rfl : k = ps.length := by omega
      gi_wp2
      go_end0
      exact ⟨⟨_, rfl⟩, .inl ⟨_, rfl, by rwa [List.take_length] at hJs⟩⟩
end Go.Proofs.YtnfiapjdkjbdhaaGreat
/- Layer 2 (crc): registers and sums. -/
namespace Go.Proofs.YtnfiapjdkjbdhaaGreat
open Go.RowKit Go.Shelf
set_option linter.unusedVariables false
set_option linter.unusedSimpArgs false
set_option maxRecDepth 10000
attribute [local go_sem] Oper.semAt_some
set_option maxHeartbeats 400000 in
theorem bytesOf_any (A : Option Addr) (m c : Nat) (w : World) :
    Calls Tryz.prog 255 #[.slice A m c] w fun e w' => e = .returned (.func (.func 257) #[] #[.pointer (some ⟨w.heap.size, 0, none⟩)]) ∧ w' = w.alloc (.cells #[.slice A m c] 230) := by
  go_enter Tryz.func255, Tryz.ntmps255
  go_wp2
  go_ret
  exact ⟨rfl, rfl⟩
theorem reg_byte (a : BitVec 32) : (a.toNat : Int) / (256 : Int) = ((a >>> 8).toNat : Int) := by
  rw [BitVec.toNat_ushiftRight, Nat.shiftRight_eq_div_pow]; simp
theorem wrap_u8 (n : Nat) : IntKind.u8.wrap (n : Int) = ((UInt8.ofNat n).toNat : Int) := by
  rw [UInt8.toNat_ofNat']
  simp [IntKind.wrap, IntKind.bits, IntKind.signed]
set_option maxRecDepth 100000 in
set_option maxHeartbeats 2000000 in
theorem process_any (c : BitVec 32) (v : Value) (ps : List (List UInt8)) (w : World) (hps : ps.length ≤ 1048576) (hlen : ∀ p ∈ ps, p.length ≤ 1048576) (hP : Parts w.heap.size w v ps) :
    Calls Tryz.prog 252 #[reg c, v] w fun e w' => e = .returned (reg (crcL c ps.flatten)) ∧ Below w.heap.size w w' := by
  obtain ⟨hz, hsz⟩ := zero_of_info tabInfo
  have hlenT := tabC_length 256
  have hst := fun W => run_storeCells_new (P := Tryz.prog) W 348 (tabC 0).toArray (tabC 256).toArray (by rw [hsz]; simp [tabC_length]) (by simp [tabC_length]) (tabC_one 256)
  simp only at hst
  clear hsz
  have HP := Lib.hid hP
  obtain ⟨A, m, rfl, hc⟩ := hP
  clear hc
  refine (callsIn_wide (n := 3)).1 ?_
  refine callsIn_of_wp_marks Tryz.func252 rfl trivial ?_ rfl
  simp only [Tryz.ntmps252, List.size_toArray, List.length_cons, List.length_nil, Nat.reduceAdd, Nat.reduceSub, Array.replicate_succ, Array.replicate_zero, List.push_toArray, List.append_toArray, List.nil_append, List.cons_append]
  gi_wp2_with fail
  refine ⟨trivial, (callsIn_wide.2 (table_any _)).mono ?_⟩
  rintro e w1 ⟨rfl, hb1⟩
  gi_wp2_with fail
  refine ⟨trivial, (callsIn_wide.2 (bytesOf_any _ _ _ _)).mono ?_⟩
  rintro e w2 ⟨rfl, rfl⟩
  gi_wp2_with fail
  obtain ⟨W0, hW0⟩ : ∃ W0, (w1.alloc (.cells (tabC 256).toArray 348)).alloc (.cells #[Value.slice A ps.length m] 230) = W0 := ⟨_, rfl⟩
  have hsz1 : w.heap.size + 1 ≤ w1.heap.size := by have := hb1.size; simpa using this
  have hsz0 : W0.heap.size = w1.heap.size + 1 + 1 := by rw [← hW0]; simp
  have hbx : Below (w.heap.size + 1) (w.alloc (.cells #[reg c] 34)) W0 := by
    rw [← hW0]
    exact ((by simpa using hb1 : Below (w.heap.size + 1) _ w1).alloc hsz1 _).alloc (by simp; omega) _
  have hB0 : Below w.heap.size w W0 := ((Below.refl _ _).alloc (Nat.le_refl _) _).trans (hbx.mono (by omega))
  have hcb : W0.cell? ⟨w.heap.size, 0, none⟩ = some (reg c) := (hbx.cell (p := ⟨w.heap.size, 0, none⟩) (by simp)).trans (cell_new_l w _ _)
  have hcf : W0.frozen? ⟨w.heap.size, 0, none⟩ = false := (hbx.frozen (p := ⟨w.heap.size, 0, none⟩) (by simp)).trans (frozen_new_l w _ _)
  have hct : ∀ b, b < 256 → W0.cell? ⟨w1.heap.size, b, none⟩ = some (reg (ent b)) := by
    intro b hb
    rw [← hW0, World.cell?_alloc_lt _ _ _ (by simp), cell_of_row _ _ b _ 348 (0, 0) (heap_alloc_new w1 _), List.getElem?_toArray, tabC_get _ _ hb, if_pos hb]
  have hcs : W0.cell? ⟨w1.heap.size + 1, 0, none⟩ = some (Value.slice A ps.length m) := by
    have := cell_new_l (w1.alloc (.cells (tabC 256).toArray 348)) (Value.slice A ps.length m) 230
    rw [hW0] at this
    simpa using this
  rw [hW0]
  clear hW0 hst hz hlenT hb1
  have Hct := Lib.hid hct
  have Hcs := Lib.hid hcs
  have Hsz0 := Lib.hid hsz0
  clear hct hcs hsz0
  refine wpIn_rangeFunc_ownF rfl (by decide) (gf := 257) (lb := #[.pointer (some ⟨w1.heap.size + 1, 0, none⟩)]) rfl trivial (enters_of Tryz.func257 (by kernel_rfl) rfl)
    (encs := fun (x : UInt8) => #[.int .u8 (x.toNat : Int)]) (S := fun xs => xs = ps.flatten) (Sp := fun pre => pre <+: ps.flatten) (N := ps.flatten.length) (w0 := W0) (Kp := Below w.heap.size)
    (fun l J Jx W hW hJ hJx hY h0 => bytes_in Fence.wide 2 trivial rfl (by decide) l (w1.heap.size + 1) w.heap.size _ ps hps hlen J Jx hY W ((hW.cell (p := ⟨w1.heap.size + 1, 0, none⟩) (by rw [Hsz0.out]; simp)).trans Hcs.out) (parts_below HP.out (hB0.trans (hW.mono (by rw [Hsz0.out]; omega)))) h0)
    belowK_t (belowK_b (by rw [Hsz0.out]; omega)) (Below.refl _ _) (fun _ => rfl)
    (fun pre W => (W.cell? ⟨w.heap.size, 0, none⟩ = some (reg (crcL c pre)) ∧ W.frozen? ⟨w.heap.size, 0, none⟩ = false ∧ ∀ b, b < 256 → W.cell? ⟨w1.heap.size, b, none⟩ = some (reg (ent b))) ∧ Below w.heap.size w W)
    (fun _ _ _ => False)
    (OwnFrom.and (Own.from (fun s A B row hs hg hr => ⟨cell_kept hs.1 hg hr, (frozen_kept hs.1 hg hr).trans hs.2.1, fun b hb => cell_kept (hs.2.2 b hb) hg hr⟩) _) (ownFrom_below (Nat.le_refl _) (by rw [Hsz0.out]; omega)))
    (fun _ _ _ _ _ hs _ _ => hs)
    ⟨⟨hcb, hcf, Hct.out⟩, hB0⟩
    (fun x => { tmps := #[reg c, Value.slice A ps.length m, .pointer (some ⟨w.heap.size, 0, none⟩), undef, .int .u32 0, .pointer (some ⟨w1.heap.size, 0, none⟩), .int .u8 (x.toNat : Int), .agg (tabC 256).toArray, Value.slice A ps.length m, .func (.func 257) #[] #[.pointer (some ⟨w1.heap.size + 1, 0, none⟩)], .int .u8 (x.toNat : Int), undef, undef, undef, undef, undef, undef, undef, undef, undef, undef], defers := [] }) ?assign ?body ?done ?stop
  case assign =>
    intro l x W K hK
    gi_wp2
    exact hK
  case body =>
    rintro l pre x W ⟨⟨hc, hf, ht⟩, hB⟩ _
    have hsn := crcL_snoc c pre x
    rw [stn8_table] at hsn
    have Hsn := Lib.hid hsn
    clear hsn
    generalize crcL c pre = d at hc Hsn
    have hw : IntKind.u8.wrap (d.toNat : Int) = ((UInt8.ofNat d.toNat).toNat : Int) := wrap_u8 _
    generalize UInt8.ofNat d.toNat = y at hw Hsn
    have hx8 : bits .xor .u8 (y.toNat : Int) (x.toNat : Int) = ((y ^^^ x).toNat : Int) := by
      rw [u8_xor_nat _ _ y.toNat_lt x.toNat_lt, UInt8.toNat_xor]
    generalize y ^^^ x = q at hx8 Hsn
    have hq := q.toNat_lt
    have hcq := ht q.toNat hq
    have Ht := Lib.hid ht
    clear ht hcb hcf
    gi_wp2
    gi_region
    all_goals gi_wp2
    all_goals
      have hx : Value.int .u32 (bits .xor .u32 ((d.toNat : Int) / 256) ((ent q.toNat).toNat : Int)) = reg (crcL c (pre ++ [x])) := by
        rw [reg_byte, reg_xor, Hsn.out]; rfl
      rw [hx]
      refine ⟨(KeepsOthers.setCell W ⟨w.heap.size, 0, none⟩ _).trans (KeepsOthers.drew _), ((Below.refl w.heap.size W).setCell (p := ⟨w.heap.size, 0, none⟩) (Nat.le_refl _) _).drew, ⟨?_, ?_, ?_⟩, (hB.setCell (p := ⟨w.heap.size, 0, none⟩) (Nat.le_refl _) _).drew⟩
      · exact World.cell?_setCell_same' W ⟨w.heap.size, 0, none⟩ _ (by rw [hc]; rfl)
      · show (W.setCell ⟨w.heap.size, 0, none⟩ _).frozen? _ = false
        rw [World.frozen?_setCell]; exact hf
      · intro b hb
        show (W.setCell ⟨w.heap.size, 0, none⟩ _).cell? _ = _
        rw [World.cell?_setCell_other _ _ _ _ (by intro e; injection e with e; omega)]
        exact Ht.out b hb
  case done =>
    rintro D ys W hD rfl ⟨⟨hc, _⟩, hB⟩ hK
    gi_wp2
    refine ⟨by simp, .inl ⟨_, _, rfl, run_takeDeferred hK, ?_⟩⟩
    exact ⟨_, results_tmp rfl _ _ _, rfl, hB.trans (belowK_b (w := w) (Nat.le_refl _) W D _ _ (by rw [Hsz0.out] at hD; omega) hK rfl rfl)⟩
  case stop =>
    rintro D c pre W _ _ h _
    exact h.elim
end Go.Proofs.YtnfiapjdkjbdhaaGreat
/- A range over a function whose rounds are told what they are handed; the iterator keeps nothing of its own. -/
namespace Go.Proofs.YtnfiapjdkjbdhaaGreat
open Go.RowKit
set_option linter.unusedVariables false
set_option linter.unusedSimpArgs false
set_option maxRecDepth 10000
def KeepF (B : Nat) (W W' : World) : Prop := W'.heap[B]? = W.heap[B]? ∧ W'.heap[B + 1]? = W.heap[B + 1]?
theorem KeepF.refl (B : Nat) (W : World) : KeepF B W W := ⟨rfl, rfl⟩
theorem KeepF.trans {B : Nat} {X Y Z : World} (h : KeepF B X Y) (k : KeepF B Y Z) : KeepF B X Z := ⟨k.1.trans h.1, k.2.trans h.2⟩
theorem KeepF.below {B : Nat} {W W' : World} (h : Below W.heap.size W W') (hB : B + 2 ≤ W.heap.size) : KeepF B W W' := ⟨h.block _ (by omega), h.block _ (by omega)⟩
def roundF (B : Nat) (I : World → Prop) (W : World) : Exit → Act → World → Prop
  | .normal, _, W' => KeepF B W W' ∧ I W'
  | _, _, _ => False
section
variable {P : Program} {n : Nat}
theorem range_flat {g : Operand} {ps : Array Tmp} {assign body : Code} {Q : Exit → Act → World → Prop} {a : Act} {w : World} (h1 : 1 ≤ n) {gf : Nat} {lb : Array Value}
    (hg : a.eval g = .func (.func gf) #[] lb) (eg : ∀ args w, (callFunc gf args).run P w = .ok (.enter gf args) w)
    (N : Nat) (G : Nat → Array Value → World → Prop) (I : Nat → World → Prop)
    (hit : ∀ (l : Nat) (J : Nat → World → Prop) (W : World), (∀ j W, J j W → I j W) → (∀ j W, J j W → J j W.drew) → J 0 W →
      (∀ j, j < N → ∀ args W1, J j W1 → G j args W1 → YieldAt Fence.wide (n - 1 - 1) P l args W1 fun e W' => e = .returned (.bool true) ∧ J (j + 1) W') →
      Below w.heap.size w W → CallsIn Fence.wide (n - 1) P gf (#[.func (.yield l) #[] #[]] ++ lb) W fun e W' => (∃ v, e = .returned v) ∧ J N W')
    (h0 : ∀ W, Below w.heap.size w W → I 0 W) (hdr : ∀ j W, I j W → I j W.drew) (hput : ∀ j W l o, w.heap.size ≤ l → l ≤ w.heap.size + 1 → I j W → I j (W.putObj l o))
    (Ax : Nat → Act → World → Prop) (hAx : ∀ j a' W l o, w.heap.size ≤ l → l ≤ w.heap.size + 1 → Ax j a' W → Ax j a' (W.putObj l o))
    (hassign : ∀ (l j : Nat) (args : Array Value) (W : World), j < N → I j W → G j args W → args.size = ps.size ∧
      assign.wpIn (Fence.wide.inRound l) (n - 1 - 1) P (Exit.then (fun a' W' => KeepF w.heap.size W W' ∧ Ax j a' W') (fun _ _ _ => False))
        { tmps := (ps.zip args).foldl (fun t (p, v) => t.setIfInBounds p v) a.tmps, defers := [] } W)
    (hbody : ∀ (l j : Nat) (a' : Act) (W : World), j < N → w.heap.size + 2 ≤ W.heap.size → Ax j a' W → body.wpIn (Fence.wide.inRound l) (n - 1 - 1) P (roundF w.heap.size (I (j + 1)) W) a' W)
    (hdone : ∀ W, I N W → W.heap[w.heap.size]? = some (.deferred (some [])) → Q .normal { a with defers := { target := .collected w.heap.size, args := #[] } :: a.defers } W) :
    (Code.rangeFunc g ps assign body).wpIn Fence.wide n P Q a w := by
  refine wpIn_rangeFunc fun fn hfn => ?_
  obtain ⟨mk, hmk⟩ : ∃ mk : LoopState → Option Code → Loop, mk = fun s p => { state := s, pending := p, fn := fn, tmps := a.tmps, params := ps, assign := assign, body := body, defers := w.heap.size } := ⟨_, rfl⟩
  obtain ⟨V, hV⟩ : ∃ V, (w.alloc (.deferred (some []))).alloc (.loop (mk .ready none)) = V := ⟨_, rfl⟩
  have hVs : V.heap.size = w.heap.size + 2 := by rw [← hV]; simp
  have hVb : Below w.heap.size w V := by
    rw [← hV]; exact ((Below.refl _ w).alloc (Nat.le_refl _) _).alloc (by simp) _
  have hV1 : V.heap[w.heap.size + 1]? = some (.loop (mk .ready none)) := by
    rw [← hV]; have := World.alloc_heap_new (w.alloc (.deferred (some []))) (.loop (mk .ready none)); rwa [World.size_alloc] at this
  have hV0 : V.heap[w.heap.size]? = some (.deferred (some [])) := by
    rw [← hV, Below.heap_alloc _ _ _ (by simp)]; exact World.alloc_heap_new w _
  refine ⟨w.heap.size + 1, [{ target := .collected w.heap.size, args := #[] }], V, { target := .fn (.func gf) lb, args := #[.func (.yield (w.heap.size + 1)) #[] #[]] }, V, gf,
    #[.func (.yield (w.heap.size + 1)) #[] #[]] ++ lb, V, ?_, ?_, fun _ _ => trivial, ?_, fun _ => h1, ?_⟩
  · rw [← hV, hmk]; exact run_enterLoop_outer _ _ _ _ _
  · simp only [resolve, hg]
    simp [go_sem]
  · simp [invoke, go_sem, eg]
  refine (hit (w.heap.size + 1) (fun j W => I j W ∧ W.heap[w.heap.size + 1]? = some (.loop (mk .ready none)) ∧ W.heap[w.heap.size]? = some (.deferred (some []))) V
    (fun j W h => h.1) (fun j W h => ⟨hdr j W h.1, h.2⟩) ⟨h0 V hVb, hV1, hV0⟩ ?_ hVb).mono ?_
  · rintro j hj args W ⟨hi, hl, hk⟩ hG
    obtain ⟨has, hwp⟩ := hassign (w.heap.size + 1) j args W hj hi hG
    have hy := run_yield (P := P) (args := args) hl (by rw [hmk]; exact has)
    rw [hmk] at hy
    refine ⟨fn, _, assign, body, hy, roundIn_of_wpIn hfn (wpIn_mono hwp ?_)⟩
    clear hy
    rintro e a' Wa hp
    cases e with
    | normal =>
      obtain ⟨hka, hax⟩ := hp
      have hla := hka.2.trans hl
      have hka0 := hka.1.trans hk
      have hsa : w.heap.size + 1 < Wa.heap.size := (Array.getElem?_eq_some_iff.1 hla).1
      refine ⟨_, run_beginRound hla (by rw [hmk]), ?_⟩
      refine wpIn_mono (hbody _ j a' _ hj (by simp only [World.putObj_size]; omega) (hAx _ _ _ _ _ (by omega) (Nat.le_refl _) hax)) ?_
      rintro e2 a2 W2 hp2'
      cases e2 with
      | normal =>
        obtain ⟨hk2, hi2⟩ := hp2'
        have hl2 : W2.heap[w.heap.size + 1]? = some (.loop { mk .ready none with state := .busy }) := hk2.2.trans (World.putObj_heap_same hsa)
        have hk20 : W2.heap[w.heap.size]? = some (.deferred (some [])) := hk2.1.trans ((World.putObj_heap_other (by omega)).trans hka0)
        refine ⟨_, _, run_endRound none hl2, rfl, hput _ _ _ _ (by omega) (Nat.le_refl _) hi2, ?_, (World.putObj_heap_other (by omega)).trans hk20⟩
        rw [World.putObj_heap_same (Array.getElem?_eq_some_iff.1 hl2).1, hmk]
        rfl
      | ret => exact hp2'.elim
      | exit id => exact hp2'.elim
      | goto t => exact hp2'.elim
      | panic c => exact hp2'.elim
      | outgrown => exact hp2'.elim
    | ret => exact hp.elim
    | exit id => exact hp.elim
    | goto t => exact hp.elim
    | panic c => exact hp.elim
    | outgrown => exact hp.elim
  · rintro e W2 ⟨⟨v, rfl⟩, hi, hl, hk⟩
    exact ⟨none, _, by have := run_endLoop (P := P) hl (by rw [hmk]; simp); rw [hmk] at this; exact this, hdone _ (hput _ _ _ _ (by omega) (Nat.le_refl _) hi) ((World.putObj_heap_other (by omega)).trans hk)⟩
end
end Go.Proofs.YtnfiapjdkjbdhaaGreat
namespace Go.Proofs.YtnfiapjdkjbdhaaGreat
open Go.RowKit
set_option linter.unusedVariables false
set_option linter.unusedSimpArgs false
set_option maxRecDepth 10000
theorem info_uint16 : ∃ i, Tryz.prog.info? 38 = some i ∧ i.size = 1 := ⟨_, rfl, rfl⟩
theorem cells_uint16 : Tryz.prog.cellsOf 38 = 1 := by kernel_rfl
theorem eq_five (a b c d e x y z u v : Int) (w : World) : (Op.equalIn 10000 170 (.agg #[.int .u16 a, .int .u16 b, .int .u16 c, .int .u16 d, .int .u16 e]) (.agg #[.int .u16 x, .int .u16 y, .int .u16 z, .int .u16 u, .int .u16 v])).run Tryz.prog w = .ok (a == x && b == y && c == z && d == u && e == v) w := by
  obtain ⟨i, hi, hs⟩ := info_uint16
  have u3 := Tryz.underlying38
  have a3 := Tryz.isAgg38
  have z3 := Tryz.sizeOf38
  rw [run_equalIn_array w 9999 _ _ Tryz.underlying170 hi, cells_uint16, show List.range 5 = [0, 1, 2, 3, 4] from rfl]
  simp only [Op.eqItems]
  go_simp
  by_cases h1 : a = x <;> by_cases h2 : b = y <;> by_cases h3 : c = z <;> by_cases h4 : d = u <;> by_cases h5 : e = v <;> simp [h1, h2, h3, h4, h5]
theorem eq_four (a b c d x y z u : Int) (k : Nat) (w : World) : (Op.equalIn (k + 1 + 1) 39 (.agg #[.int .u16 a, .int .u16 b, .int .u16 c, .int .u16 d]) (.agg #[.int .u16 x, .int .u16 y, .int .u16 z, .int .u16 u])).run Tryz.prog w = .ok (a == x && b == y && c == z && d == u) w := by
  obtain ⟨i, hi, hs⟩ := info_uint16
  have u3 := Tryz.underlying38
  have a3 := Tryz.isAgg38
  have z3 := Tryz.sizeOf38
  rw [run_equalIn_array w (k + 1) _ _ Tryz.underlying39 hi, cells_uint16, show List.range 4 = [0, 1, 2, 3] from rfl]
  simp only [Op.eqItems]
  go_simp
  by_cases h1 : a = x <;> by_cases h2 : b = y <;> by_cases h3 : c = z <;> by_cases h4 : d = u <;> simp [h1, h2, h3, h4]
theorem eq_ino (k n z a b c d e k' n' z' a' b' c' d' e' : Int) (w : World) : (Op.equalIn 10000 41 (.agg #[.int .u8 k, .int .u16 n, .int .u32 z, .int .u16 a, .int .u16 b, .int .u16 c, .int .u16 d, .int .u16 e]) (.agg #[.int .u8 k', .int .u16 n', .int .u32 z', .int .u16 a', .int .u16 b', .int .u16 c', .int .u16 d', .int .u16 e'])).run Tryz.prog w = .ok (k == k' && n == n' && z == z' && (a == a' && b == b' && c == c' && d == d') && e == e') w := by
  have u3 := Tryz.underlying38
  have a3 := Tryz.isAgg38
  have z3 := Tryz.sizeOf38
  have u4 := Tryz.underlying5
  have a4 := Tryz.isAgg5
  have z4 := Tryz.sizeOf5
  have u5 := Tryz.underlying34
  have a5 := Tryz.isAgg34
  have z5 := Tryz.sizeOf34
  have a6 := Tryz.isAgg39
  have z6 := Tryz.sizeOf39
  have h4 := fun W => eq_four a b c d a' b' c' d' 9997 W
  rw [run_equalIn_struct (P := Tryz.prog) (w := w) 9999 41 _ _ (by kernel_rfl) (by kernel_rfl)]
  simp only [Program.fieldsOf, Tryz.underlying41]
  go_simp
  by_cases h1 : k = k'
  case neg => simp [h1]
  by_cases h2 : n = n'
  case neg => simp [h1, h2]
  by_cases h3 : z = z'
  case neg => simp [h1, h2, h3]
  by_cases h5 : a = a'
  case neg => simp [h1, h2, h3, h5]
  by_cases h6 : b = b'
  case neg => simp [h1, h2, h3, h5, h6]
  by_cases h7 : c = c'
  case neg => simp [h1, h2, h3, h5, h6, h7]
  by_cases h8 : d = d'
  case neg => simp [h1, h2, h3, h5, h6, h7, h8]
  by_cases h9 : e = e' <;> simp [h1, h2, h3, h5, h6, h7, h8, h9]
theorem eq_im (x y : Im) (w : World) : (Op.equalIn 10000 41 x.v y.v).run Tryz.prog w = .ok (decide (x = y)) w := by
  rw [eq_ino]
  congr 1
  obtain ⟨k, n, z, a, b, c, d, e⟩ := x
  obtain ⟨k', n', z', a', b', c', d', e'⟩ := y
  rw [Bool.eq_iff_iff]
  simp only [Bool.and_eq_true, beq_iff_eq, decide_eq_true_eq, Im.mk.injEq]
  omega
theorem eq_nought (x : Im) (w : World) : (Op.equalIn 10000 41 x.v (.agg #[.int .u8 0, .int .u16 0, .int .u32 0, .int .u16 0, .int .u16 0, .int .u16 0, .int .u16 0, .int .u16 0])).run Tryz.prog w = .ok (decide (x = Im.nought)) w := eq_im x Im.nought w
theorem eq_five_nat (a b c d e x y z u v : Nat) (w : World) : (Op.equalIn 10000 170 (fiveV a b c d e) (fiveV x y z u v)).run Tryz.prog w = .ok (decide (a = x ∧ b = y ∧ c = z ∧ d = u ∧ e = v)) w := by
  rw [eq_five]
  congr 1
  rw [Bool.eq_iff_iff]
  simp only [Bool.and_eq_true, beq_iff_eq, decide_eq_true_eq]
  omega
end Go.Proofs.YtnfiapjdkjbdhaaGreat
/- Bits of texts, eight a byte, the lowest first: plain mathematics, no program. -/
namespace Go.Proofs.YtnfiapjdkjbdhaaGreat.Bits
def bitL (l : List UInt8) (i : Nat) : Bool := (l.getD (i / 8) 0).toNat.testBit (i % 8)
def turnB (on : Bool) (b : UInt8) (k : Nat) : UInt8 := UInt8.ofNat (if on then b.toNat ||| 2 ^ k else b.toNat &&& (255 - 2 ^ k))
def setL (l : List UInt8) (i : Nat) (on : Bool) : List UInt8 := l.set (i / 8) (turnB on (l.getD (i / 8) 0) (i % 8))
def fillL (l : List UInt8) (a : Nat) (on : Bool) : Nat → List UInt8
  | 0 => l
  | n + 1 => setL (fillL l a on n) (a + n) on
def countL (l : List UInt8) : Nat → Nat
  | 0 => 0
  | n + 1 => countL l n + (if bitL l n then 1 else 0)
def leastL (l : List UInt8) (on : Bool) : Nat → Option Nat
  | 0 => none
  | n + 1 => match leastL l on n with
    | some k => some k
    | none => if bitL l n = on then some n else none
theorem pow_lt256 (k : Nat) (h : k < 8) : 2 ^ k < 256 := by
  have : (2 : Nat) ^ k < 2 ^ 8 := Nat.pow_lt_pow_right (by omega) h
  simpa using this
theorem notPow_bit (k j : Nat) (hk : k < 8) (hj : j < 8) : (255 - 2 ^ k).testBit j = !decide (j = k) := by
  have h := pow_lt256 k hk
  have e : 255 - 2 ^ k = 2 ^ 8 - (2 ^ k + 1) := by omega
  rw [e, Nat.testBit_two_pow_sub_succ h]
  simp [hj, Nat.testBit_two_pow, eq_comm]
theorem turnB_nat (on : Bool) (b : UInt8) (k : Nat) (hk : k < 8) : (turnB on b k).toNat = if on then b.toNat ||| 2 ^ k else b.toNat &&& (255 - 2 ^ k) := by
  unfold turnB
  rw [UInt8.toNat_ofNat']
  apply Nat.mod_eq_of_lt
  have hb := b.toNat_lt
  have hp := pow_lt256 k hk
  split
  · exact Nat.or_lt_two_pow (n := 8) hb hp
  · exact Nat.lt_of_le_of_lt Nat.and_le_left hb
theorem turnB_bit (on : Bool) (b : UInt8) (k j : Nat) (hk : k < 8) (hj : j < 8) : (turnB on b k).toNat.testBit j = if j = k then on else b.toNat.testBit j := by
  rw [turnB_nat on b k hk]
  cases on
  · simp only [Bool.false_eq_true, if_false, Nat.testBit_and, notPow_bit k j hk hj]
    split <;> simp_all
  · simp only [if_true, Nat.testBit_or, Nat.testBit_two_pow]
    split
    · simp_all
    · rename_i h
      have : ¬ k = j := fun e => h e.symm
      simp [this]
theorem byte_ext (a b : UInt8) (h : ∀ j, j < 8 → a.toNat.testBit j = b.toNat.testBit j) : a = b := by
  apply UInt8.toNat_inj.1
  apply Nat.eq_of_testBit_eq
  intro j
  by_cases hj : j < 8
  · exact h j hj
  · have ha : a.toNat < 2 ^ j := Nat.lt_of_lt_of_le a.toNat_lt (Nat.pow_le_pow_right (by omega) (by omega : 8 ≤ j))
    have hb : b.toNat < 2 ^ j := Nat.lt_of_lt_of_le b.toNat_lt (Nat.pow_le_pow_right (by omega) (by omega : 8 ≤ j))
    rw [Nat.testBit_lt_two_pow ha, Nat.testBit_lt_two_pow hb]
@[simp] theorem setL_length (l : List UInt8) (i : Nat) (on : Bool) : (setL l i on).length = l.length := by simp [setL]
@[simp] theorem fillL_length (l : List UInt8) (a : Nat) (on : Bool) (n : Nat) : (fillL l a on n).length = l.length := by
  induction n with
  | zero => rfl
  | succ n ih => simp [fillL, ih]
theorem getD_set (l : List UInt8) (i j : Nat) (x : UInt8) (h : i < l.length) : (l.set i x).getD j 0 = if j = i then x else l.getD j 0 := by
  simp only [List.getD_eq_getElem?_getD]
  split
  · rename_i e
    subst e
    simp [h]
  · rename_i e
    rw [List.getElem?_set_ne (fun e2 => e e2.symm)]
theorem setL_bit (l : List UInt8) (i j : Nat) (on : Bool) (h : i < 8 * l.length) : bitL (setL l i on) j = if j = i then on else bitL l j := by
  unfold bitL setL
  rw [getD_set _ _ _ _ (by omega)]
  by_cases e : j / 8 = i / 8
  · rw [if_pos e, turnB_bit _ _ _ _ (Nat.mod_lt _ (by omega)) (Nat.mod_lt _ (by omega)), e]
    by_cases e2 : j % 8 = i % 8
    · rw [if_pos e2, if_pos (by omega)]
    · rw [if_neg e2, if_neg (by omega)]
  · rw [if_neg e, if_neg (by intro e2; exact e (by rw [e2]))]
theorem bits_ext (l m : List UInt8) (hl : l.length = m.length) (h : ∀ j, j < 8 * l.length → bitL l j = bitL m j) : l = m := by
  apply List.ext_getElem hl
  intro i h1 h2
  apply byte_ext
  intro j hj
  have := h (8 * i + j) (by omega)
  unfold bitL at this
  rw [show (8 * i + j) / 8 = i by omega, show (8 * i + j) % 8 = j by omega] at this
  simpa [List.getD_eq_getElem?_getD, h1, h2] using this
theorem setL_same (l : List UInt8) (i : Nat) (on : Bool) (h : i < 8 * l.length) (hb : bitL l i = on) : setL l i on = l := by
  apply bits_ext _ _ (by simp)
  intro j hj
  rw [setL_bit _ _ _ _ h]
  split
  · rename_i e; rw [e, hb]
  · rfl
def rowL (l : List UInt8) (a : Nat) : Nat → Nat
  | 0 => 0
  | n + 1 => rowL l a n + (if bitL l (a + n) then 1 else 0)
theorem countL_add (l : List UInt8) (a n : Nat) : countL l (a + n) = countL l a + rowL l a n := by
  induction n with
  | zero => rfl
  | succ n ih => rw [← Nat.add_assoc, countL, ih, rowL, Nat.add_assoc]
theorem rowL_le (l : List UInt8) (a n : Nat) : rowL l a n ≤ n := by
  induction n with
  | zero => exact Nat.le_refl _
  | succ n ih => rw [rowL]; split <;> omega
theorem countL_le (l : List UInt8) (n : Nat) : countL l n ≤ n := by
  have := countL_add l 0 n
  rw [Nat.zero_add] at this
  have h := rowL_le l 0 n
  rw [this]
  simpa [countL] using h
theorem countL_congr (l m : List UInt8) (n : Nat) (h : ∀ j, j < n → bitL l j = bitL m j) : countL l n = countL m n := by
  induction n with
  | zero => rfl
  | succ n ih => rw [countL, countL, ih (fun j h1 => h j (by omega)), h n (by omega)]
theorem leastL_some (l : List UInt8) (on : Bool) (n k : Nat) (h : leastL l on n = some k) : k < n ∧ bitL l k = on ∧ ∀ j, j < k → bitL l j = !on := by
  induction n with
  | zero => simp [leastL] at h
  | succ n ih =>
    rw [leastL] at h
    cases hq : leastL l on n with
    | some q =>
      rw [hq] at h
      simp only [Option.some.injEq] at h
      subst h
      obtain ⟨h1, h2, h3⟩ := ih hq
      exact ⟨by omega, h2, h3⟩
    | none =>
      rw [hq] at h
      simp only at h
      split at h
      · rename_i hb
        simp only [Option.some.injEq] at h
        subst h
        refine ⟨by omega, hb, ?_⟩
        clear ih hb
        revert hq
        induction n with
        | zero => intro _ j hj; omega
        | succ n ih2 =>
          intro hq j hj
          rw [leastL] at hq
          cases hr : leastL l on n with
          | some r => rw [hr] at hq; simp at hq
          | none =>
            rw [hr] at hq
            simp only at hq
            split at hq
            · simp at hq
            · rename_i hne
              by_cases e : j = n
              · subst e
                revert hne
                cases on <;> cases bitL l j <;> simp
              · exact ih2 hr j (by omega)
      · simp at h
theorem leastL_none (l : List UInt8) (on : Bool) (n : Nat) : leastL l on n = none ↔ ∀ j, j < n → bitL l j = !on := by
  induction n with
  | zero => simp [leastL]
  | succ n ih =>
    rw [leastL]
    cases hq : leastL l on n with
    | some q =>
      simp only [reduceCtorEq, false_iff]
      intro hall
      obtain ⟨h1, h2, _⟩ := leastL_some l on n q hq
      have := hall q (by omega)
      rw [h2] at this
      cases on <;> simp at this
    | none =>
      have hb := ih.1 hq
      simp only [ite_eq_right_iff, reduceCtorEq, imp_false]
      constructor
      · intro hne j hj
        by_cases e : j = n
        · subst e
          revert hne
          cases on <;> cases bitL l j <;> simp
        · exact hb j (by omega)
      · intro hall e
        have := hall n (by omega)
        rw [e] at this
        cases on <;> simp at this
theorem leastL_is (l : List UInt8) (on : Bool) (n k : Nat) (hk : k < n) (hb : bitL l k = on) (h : ∀ j, j < k → bitL l j = !on) : leastL l on n = some k := by
  cases hq : leastL l on n with
  | none =>
    have := (leastL_none l on n).1 hq k hk
    rw [hb] at this
    cases on <;> simp at this
  | some q =>
    obtain ⟨_, h2, h3⟩ := leastL_some l on n q hq
    congr 1
    rcases Nat.lt_trichotomy q k with e | e | e
    · have := h q e
      rw [h2] at this
      cases on <;> simp at this
    · exact e
    · have := h3 k e
      rw [hb] at this
      cases on <;> simp at this
end Go.Proofs.YtnfiapjdkjbdhaaGreat.Bits
/- Layer 6 (bits): one bit, and the iterator over them. -/
namespace Go.Proofs.YtnfiapjdkjbdhaaGreat.Bits
open Go.RowKit Go.Shelf
set_option linter.unusedVariables false
set_option linter.unusedSimpArgs false
set_option maxRecDepth 10000
theorem bitL_at (l : List UInt8) (i : Nat) (h : i / 8 < l.length) : bitL l i = ((l[i / 8]).toNat.testBit (i % 8)) := by
  unfold bitL
  rw [List.getD_eq_getElem?_getD, List.getElem?_eq_getElem h]; rfl
theorem and_one (n : Nat) (k : Nat) (h : n < 256) : (bits .and .u8 ((n : Int) / 2 ^ k) 1 == 1) = n.testBit k := by
  have h2 : ((n : Int) / 2 ^ k) = ((n / 2 ^ k : Nat) : Int) := by simp
  rw [h2, show (1 : Int) = ((1 : Nat) : Int) from rfl, u8_and_nat _ _ (Nat.lt_of_le_of_lt (Nat.div_le_self _ _) h) (by omega), Nat.and_one_is_mod, Nat.testBit_eq_decide_div_mod_eq]
  by_cases e : n / 2 ^ k % 2 = 1
  · simp [e]
  · have : n / 2 ^ k % 2 = 0 := by omega
    simp [this]
set_option maxHeartbeats 400000 in
theorem size_any (l : List UInt8) (w : World) (h : l.length ≤ 1048576) :
    Calls Tryz.prog 185 #[str l] w fun e w' => e = .returned (.int .i64 (8 * (l.length : Int))) ∧ w' = w := by
  go_enter Tryz.func185, Tryz.ntmps185
  go_wp2
  go_ret
  exact ⟨rfl, rfl⟩
set_option maxHeartbeats 400000 in
theorem isSet_any (l : List UInt8) (i : Nat) (w : World) (h : l.length ≤ 1048576) (hi : i < 8 * l.length) :
    Calls Tryz.prog 192 #[str l, .int .i64 i] w fun e w' => e = .returned (.bool (bitL l i)) ∧ w' = w := by
  have h8 : i / 8 < l.length := by omega
  have hb := Lib.hid (bitL_at l i h8)
  go_enter Tryz.func192, Tryz.ntmps192
  go_wp2
  go_ret
  refine ⟨?_, rfl⟩
  rw [hb.out, ← and_one _ _ (l[i / 8]).toNat_lt]
  rfl
set_option maxHeartbeats 400000 in
theorem bitsFrom_any (l : List UInt8) (a : Int) (w : World) :
    Calls Tryz.prog 183 #[str l, .int .i64 a] w fun e w' => e = .returned (.func (.func 219) #[] #[.pointer (some ⟨w.heap.size + 1, 0, none⟩), .pointer (some ⟨w.heap.size, 0, none⟩)]) ∧ w' = (w.alloc (.cells #[str l] 9)).alloc (.cells #[.int .i64 a] 3) := by
  go_enter Tryz.func183, Tryz.ntmps183
  go_wp2
  go_ret
  exact ⟨rfl, rfl⟩
set_option maxHeartbeats 400000 in
theorem turner_any (on : Bool) (w : World) :
    Calls Tryz.prog 186 #[.bool on] w fun e w' => e = .returned (.func (.func 220) #[] #[.pointer (some ⟨w.heap.size, 0, none⟩)]) ∧ w' = w.alloc (.cells #[.bool on] 4) := by
  go_enter Tryz.func186, Tryz.ntmps186
  go_wp2
  go_ret
  exact ⟨rfl, rfl⟩
set_option maxHeartbeats 400000 in
theorem turner1_any (on : Bool) (b : UInt8) (k B : Nat) (w : World) (hk : k < 8) (hB : w.cell? ⟨B, 0, none⟩ = some (.bool on)) :
    Calls Tryz.prog 220 #[.int .u8 (b.toNat : Int), .int .i64 k, .pointer (some ⟨B, 0, none⟩)] w fun e w' => e = .returned (.int .u8 ((turnB on b k).toNat : Int)) ∧ w' = w := by
  have hp := pow_lt256 k hk
  have hn := Lib.hid (turnB_nat on b k hk)
  have hm : (2 : Int) ^ k % 256 = ((2 ^ k : Nat) : Int) := by
    have : ((2 ^ k : Nat) : Int) = (2 : Int) ^ k := by simp
    rw [← this]
    generalize 2 ^ k = m at hp
    exact Int.emod_eq_of_lt (by omega) (by omega)
  have Hm := Lib.hid hm
  clear hm
  cases on
  all_goals
    go_enter Tryz.func220, Tryz.ntmps220
    go_wp2
    go_ret
    refine ⟨?_, rfl⟩
    rw [hn.out]
    have h := Hm.out
  · have h2 := u8_andNot_nat b.toNat (2 ^ k) b.toNat_lt hp
    rw [← h] at h2
    show Ending.returned (.int .u8 (bits .andNot .u8 (b.toNat : Int) (2 ^ k % 256))) = _
    rw [h2]; rfl
  · have h2 := u8_or_nat b.toNat (2 ^ k) b.toNat_lt hp
    rw [← h] at h2
    show Ending.returned (.int .u8 (bits .or .u8 (b.toNat : Int) (2 ^ k % 256))) = _
    rw [h2]; rfl
end Go.Proofs.YtnfiapjdkjbdhaaGreat.Bits
/- Layer 6 (bits): the bits from a on, one by one. -/
namespace Go.Proofs.YtnfiapjdkjbdhaaGreat.Bits
open Go.RowKit Go.Shelf
set_option linter.unusedVariables false
set_option linter.unusedSimpArgs false
set_option maxRecDepth 10000
attribute [local go_sem] Oper.semAt_some
abbrev BitIx (l : List UInt8) := Fin (8 * l.length)
def BitRow (l : List UInt8) (a k : Nat) (xs : List (BitIx l)) : Prop := xs.map Fin.val = List.range' a k
theorem BitRow.nil (l : List UInt8) (a : Nat) : BitRow l a 0 [] := rfl
theorem BitRow.length {l : List UInt8} {a k : Nat} {xs : List (BitIx l)} (h : BitRow l a k xs) : xs.length = k := by
  have := congrArg List.length h
  simpa using this
theorem BitRow.snoc {l : List UInt8} {a k : Nat} {xs : List (BitIx l)} (h : BitRow l a k xs) (x : BitIx l) (hx : x.val = a + k) : BitRow l a (k + 1) (xs ++ [x]) := by
  unfold BitRow at *
  rw [List.map_append, h, List.range'_concat]
  simp [hx]
theorem BitRow.unsnoc {l : List UInt8} {a k : Nat} {xs : List (BitIx l)} {x : BitIx l} (h : BitRow l a k (xs ++ [x])) : ∃ j, k = j + 1 ∧ BitRow l a j xs ∧ x.val = a + j := by
  have hl := h.length
  simp only [List.length_append, List.length_singleton] at hl
  refine ⟨xs.length, hl.symm, ?_⟩
  subst hl
  unfold BitRow at *
  rw [List.map_append, List.range'_concat] at h
  have := List.append_inj h (by simp)
  exact ⟨this.1, by simpa using this.2⟩
def KeepC (B : Nat) (W W' : World) : Prop := ∀ v, W.cell? ⟨B, 0, none⟩ = some v → W'.cell? ⟨B, 0, none⟩ = some v
theorem KeepC.refl (B : Nat) (W : World) : KeepC B W W := fun _ h => h
theorem KeepC.trans {B : Nat} {X Y Z : World} (h : KeepC B X Y) (k : KeepC B Y Z) : KeepC B X Z := fun v e => k v (h v e)
theorem KeepC.putObj {B l : Nat} {W : World} {o : Obj} (o' : Obj) (hl : W.heap[l]? = some o) (ho : o.isCells = false) : KeepC B W (W.putObj l o') := fun v h =>
  cell_kept h (grownBy_putObj' W l o') (fun r e => by cases e; exact ⟨_, hl, ho⟩)
theorem KeepC.setCell {B : Nat} (W : World) (p : Addr) (v : Value) (h : p.block ≠ B) : KeepC B W (W.setCell p v) := fun u e => by
  rw [World.cell?_setCell_other _ _ _ _ (by rintro rfl; exact h rfl)]; exact e
theorem KeepC.drew (B : Nat) (W : World) : KeepC B W W.drew := fun _ h => h
set_option maxRecDepth 100000 in
set_option maxHeartbeats 2000000 in
theorem bits_in (l : List UInt8) (hl : l.length ≤ 1048576) (a : Nat) (ha : a ≤ 8 * l.length) (y Ba Bs : Nat) (J Jx : List (BitIx l) → World → Prop)
    (hY : ∀ pre (x : BitIx l) W, J pre W → pre.length < 8 * l.length → YieldAt Fence.wide 1 Tryz.prog y #[.int .i64 (x.val : Int), .bool (bitL l x.val)] W fun e W' =>
      (e = .returned (.bool true) ∧ J (pre ++ [x]) W' ∧ KeepC Bs W W') ∨ (e = .returned (.bool false) ∧ Jx (pre ++ [x]) W'))
    (W : World) (hca : W.cell? ⟨Ba, 0, none⟩ = some (.int .i64 (a : Int))) (hcs : W.cell? ⟨Bs, 0, none⟩ = some (str l)) (h0 : J [] W) :
    CallsIn Fence.wide 2 Tryz.prog 219 #[.func (.yield y) #[] #[], .pointer (some ⟨Ba, 0, none⟩), .pointer (some ⟨Bs, 0, none⟩)] W fun e W' => (∃ v, e = .returned v) ∧
      ((∃ ys, BitRow l a (8 * l.length - a) ys ∧ J ys W') ∨ (∃ pre, (∃ k, a + k ≤ 8 * l.length ∧ BitRow l a k pre) ∧ Jx pre W')) := by
  refine callsIn_of_wp Tryz.func219 rfl trivial ?_ rfl
  simp only [Tryz.ntmps219, List.size_toArray, List.length_cons, List.length_nil, Nat.reduceAdd, Nat.reduceSub, Array.replicate_succ, Array.replicate_zero, List.push_toArray, List.append_toArray, List.nil_append, List.cons_append]
  gi_wp2_with fail
  gi_loopw [4] (fun i wr => ∃ (k : Nat) (pre : List (BitIx l)), a + k ≤ 8 * l.length ∧ i = .int .i64 ((a + k : Nat) : Int) ∧ BitRow l a k pre ∧ J pre wr ∧ KeepC Bs W wr)
    (fun i _ => 8 * l.length - (Go.RowKit.intOf i).toNat)
  case atStart => exact ⟨0, [], ha, rfl, BitRow.nil _ _, h0, KeepC.refl _ _⟩
  case round =>
    obtain ⟨k, pre, hk, rfl, hrow, hJs, hnx⟩ := hrel
    have hcx : wr.cell? ⟨Bs, 0, none⟩ = some (str l) := hnx _ hcs
    have Hrow := Lib.hid hrow
    clear hrow
    generalize hj : a + k = j at *
    gi_wp2_with fail
    refine ⟨trivial, (callsIn_wide.2 (size_any l _ hl)).mono ?_⟩
    rintro e w1 ⟨rfl, rfl⟩
    by_cases hlt : j < 8 * l.length
    · obtain ⟨fn, tmps, assign, body, hy, hR⟩ := hY pre ⟨j, hlt⟩ w1 hJs (by rw [Hrow.out.length]; omega)
      dsimp only at hy
      gi_wp2_with fail
      refine ⟨trivial, (callsIn_wide.2 (isSet_any l j _ hl hlt)).mono ?_⟩
      rintro e w2 ⟨rfl, rfl⟩
      gi_wp2_with fail
      refine hR.mono ?_
      rintro e W3 (⟨rfl, hJ3, hk3⟩ | ⟨rfl, hJx3⟩)
      · gi_wp2_with fail
        go_roundw
        case rel => exact ⟨k + 1, pre ++ [⟨j, hlt⟩], by omega, by rw [← Nat.add_assoc, hj]; go_num, Hrow.out.snoc _ hj.symm, hJ3, hnx.trans hk3⟩
        case measure => simp [Go.RowKit.intOf]; omega
      · gi_wp2_with fail
        refine bodyPost_ret (results_none rfl _ _ _) rfl ?_
        exact ⟨⟨_, rfl⟩, .inr ⟨_, ⟨k + 1, by omega, Hrow.out.snoc ⟨j, hlt⟩ hj.symm⟩, hJx3⟩⟩
    · gi_wp2_with fail
      go_end0
      exact ⟨⟨_, rfl⟩, .inl ⟨pre, by have := Hrow.out; rwa [show k = 8 * l.length - a by omega] at this, hJs⟩⟩
end Go.Proofs.YtnfiapjdkjbdhaaGreat.Bits
namespace Go.Proofs.YtnfiapjdkjbdhaaGreat
open Go.RowKit
set_option linter.unusedVariables false
set_option linter.unusedSimpArgs false
set_option maxRecDepth 10000
theorem scope_in {n : Nat} {P : Program} {c : Code} {Q : Exit → Act → World → Prop} {a : Act} {w : World} (h : c.wpIn Fence.wide n P (Exit.noGoto Q) a w) : (Code.scope c).wpIn Fence.wide n P Q a w :=
  wpIn_wide.2 (wp_scope_straight ((wpIn_wide (n := n)).1 h))
end Go.Proofs.YtnfiapjdkjbdhaaGreat
/- Layer 6 (bits): how many are on. -/
namespace Go.Proofs.YtnfiapjdkjbdhaaGreat.Bits
open Go.RowKit Go.Shelf
set_option linter.unusedVariables false
set_option linter.unusedSimpArgs false
set_option maxRecDepth 10000
attribute [local go_sem] Oper.semAt_some
def onOf (l : List UInt8) (xs : List (BitIx l)) : Nat := (xs.map fun x => if bitL l x.val then 1 else 0).sum
theorem onOf_snoc (l : List UInt8) (xs : List (BitIx l)) (x : BitIx l) : onOf l (xs ++ [x]) = onOf l xs + if bitL l x.val then 1 else 0 := by
  unfold onOf
  rw [List.map_append, List.sum_append]; simp
theorem onOf_row (l : List UInt8) (k : Nat) (xs : List (BitIx l)) (h : BitRow l 0 k xs) : onOf l xs = countL l k := by
  induction k generalizing xs with
  | zero =>
    have := h.length
    have : xs = [] := List.length_eq_zero_iff.1 this
    subst this; rfl
  | succ k ih =>
    have hl := h.length
    obtain ⟨ys, x, rfl⟩ : ∃ ys x, xs = ys ++ [x] := by
      rcases List.eq_nil_or_concat xs with e | ⟨ys, x, e⟩
      · subst e; simp at hl
      · exact ⟨ys, x, by simpa using e⟩
    obtain ⟨j, hj, hr, hx⟩ := h.unsnoc
    obtain rfl : k = j := by omega
    rw [onOf_snoc, ih _ hr, countL, hx, Nat.zero_add]
theorem onOf_le (l : List UInt8) (xs : List (BitIx l)) : onOf l xs ≤ xs.length := by
  unfold onOf
  induction xs with
  | nil => simp
  | cons x xs ih => rw [List.map_cons, List.sum_cons, List.length_cons]; split <;> omega
theorem BitRow.mem {l : List UInt8} {a k : Nat} {xs : List (BitIx l)} (h : BitRow l a k xs) (x : BitIx l) (h1 : a ≤ x.val) (h2 : x.val < a + k) : x ∈ xs := by
  have hm : x.val ∈ xs.map Fin.val := by rw [h, List.mem_range'_1]; exact ⟨h1, h2⟩
  obtain ⟨y, hy, e⟩ := List.mem_map.1 hm
  rwa [← Fin.ext e]
theorem cell_alloc_l {W : World} {a : Addr} {v : Value} (o : Obj) (h : W.cell? a = some v) : (W.alloc o).cell? a = some v := cell_kept h (World.grownBy_alloc W o none) (fun r e => by cases e)
theorem frozen_alloc_l {W : World} {a : Addr} {v : Value} (o : Obj) (h : W.cell? a = some v) (hf : W.frozen? a = false) : (W.alloc o).frozen? a = false := (frozen_kept h (World.grownBy_alloc W o none) (fun r e => by cases e)).trans hf
theorem boxes4 (w : World) (a b c d : Value) (s t u v : TypeId) :
    ((((w.alloc (.cells #[a] s)).alloc (.cells #[b] t)).alloc (.cells #[c] u)).alloc (.cells #[d] v)).cell? ⟨w.heap.size, 0, none⟩ = some a ∧
    ((((w.alloc (.cells #[a] s)).alloc (.cells #[b] t)).alloc (.cells #[c] u)).alloc (.cells #[d] v)).cell? ⟨w.heap.size + 1, 0, none⟩ = some b ∧
    ((((w.alloc (.cells #[a] s)).alloc (.cells #[b] t)).alloc (.cells #[c] u)).alloc (.cells #[d] v)).cell? ⟨w.heap.size + 1 + 1, 0, none⟩ = some c ∧
    ((((w.alloc (.cells #[a] s)).alloc (.cells #[b] t)).alloc (.cells #[c] u)).alloc (.cells #[d] v)).cell? ⟨w.heap.size + 1 + 1 + 1, 0, none⟩ = some d ∧
    ((((w.alloc (.cells #[a] s)).alloc (.cells #[b] t)).alloc (.cells #[c] u)).alloc (.cells #[d] v)).frozen? ⟨w.heap.size + 1, 0, none⟩ = false := by
  have h1 := cell_new_l w a s
  have h2 := cell_new_l (w.alloc (.cells #[a] s)) b t
  have f2 := frozen_new_l (w.alloc (.cells #[a] s)) b t
  have h3 := cell_new_l ((w.alloc (.cells #[a] s)).alloc (.cells #[b] t)) c u
  have h4 := cell_new_l (((w.alloc (.cells #[a] s)).alloc (.cells #[b] t)).alloc (.cells #[c] u)) d v
  simp only [World.size_alloc] at h2 h3 h4 f2
  exact ⟨cell_alloc_l _ (cell_alloc_l _ (cell_alloc_l _ h1)), cell_alloc_l _ (cell_alloc_l _ h2), cell_alloc_l _ h3, h4, frozen_alloc_l _ (cell_alloc_l _ h2) (frozen_alloc_l _ h2 f2)⟩
set_option maxRecDepth 100000 in
set_option maxHeartbeats 2000000 in
theorem count_any (l : List UInt8) (n : Int) (w : World) (hl : l.length ≤ 1048576) :
    Calls Tryz.prog 131 #[str l, .int .i64 n] w fun e w' => e = .returned (.int .i64 (countL l (min n.toNat (8 * l.length)) : Nat)) ∧ Below w.heap.size w w' := by
  refine (callsIn_wide (n := 3)).1 ?_
  refine callsIn_of_wp_marks Tryz.func131 rfl trivial ?_ rfl
  simp only [Tryz.ntmps131, List.size_toArray, List.length_cons, List.length_nil, Nat.reduceAdd, Nat.reduceSub, Array.replicate_succ, Array.replicate_zero, List.push_toArray, List.append_toArray, List.nil_append, List.cons_append]
  gi_wp2_with fail
  refine scope_in ?_
  gi_wp2_with fail
  refine wpIn_label ?_
  gi_wp2_with fail
  refine ⟨trivial, (callsIn_wide.2 (bitsFrom_any l 0 _)).mono ?_⟩
  rintro e w2 ⟨rfl, rfl⟩
  gi_wp2_with fail
  obtain ⟨W0, hW0⟩ : ∃ W0, ((((w.alloc (.cells #[Value.int .i64 n] 3)).alloc (.cells #[Value.int .i64 0] 3)).alloc (.cells #[str l] 9)).alloc (.cells #[Value.int .i64 0] 3)) = W0 := ⟨_, rfl⟩
  have hsz0 : W0.heap.size = w.heap.size + 1 + 1 + 1 + 1 := by rw [← hW0]; simp
  have hB0 : Below w.heap.size w W0 := by
    rw [← hW0]
    exact ((((Below.refl _ _).alloc (Nat.le_refl _) _).alloc (by simp) _).alloc (by simp; omega) _).alloc (by simp; omega) _
  obtain ⟨hcn, hcc, hcs, hca, hcf⟩ := boxes4 w (Value.int .i64 n) (Value.int .i64 0) (str l) (Value.int .i64 0) 3 3 9 3
  rw [hW0] at hcn hcc hcs hca hcf
  rw [hW0]
  clear hW0
  have Hsz0 := Lib.hid hsz0
  refine wpIn_rangeFunc_ownF rfl (by decide) (gf := 219) (lb := #[.pointer (some ⟨w.heap.size + 1 + 1 + 1, 0, none⟩), .pointer (some ⟨w.heap.size + 1 + 1, 0, none⟩)]) rfl trivial (enters_of Tryz.func219 (by kernel_rfl) rfl)
    (encs := fun (x : BitIx l) => #[.int .i64 (x.val : Int), .bool (bitL l x.val)]) (S := fun ys => BitRow l 0 (8 * l.length - 0) ys) (Sp := fun pre => ∃ k, 0 + k ≤ 8 * l.length ∧ BitRow l 0 k pre) (N := 8 * l.length) (w0 := W0) (Kp := KeepC (w.heap.size + 1 + 1))
    (fun y J Jx W hW hJ hJx hY h0 => bits_in l hl 0 (Nat.zero_le _) y (w.heap.size + 1 + 1 + 1) (w.heap.size + 1 + 1) J Jx hY W ((hW.cell (p := ⟨w.heap.size + 1 + 1 + 1, 0, none⟩) (by rw [Hsz0.out]; simp)).trans hca) ((hW.cell (p := ⟨w.heap.size + 1 + 1, 0, none⟩) (by rw [Hsz0.out]; simp)).trans hcs) h0)
    (fun h k => h.trans k) (fun W q o o' _ hq ho _ => KeepC.putObj o' hq ho) (Below.refl _ _) (fun _ => rfl)
    (fun pre W => (W.cell? ⟨w.heap.size, 0, none⟩ = some (.int .i64 n) ∧ W.cell? ⟨w.heap.size + 1, 0, none⟩ = some (.int .i64 (onOf l pre : Nat)) ∧ W.frozen? ⟨w.heap.size + 1, 0, none⟩ = false ∧ ∀ x ∈ pre, (x.val : Int) < n) ∧ Below w.heap.size w W)
    (fun c pre W => (c = .exit 0 ∧ ∃ ys x, pre = ys ++ [x] ∧ n ≤ (x.val : Int) ∧ (∀ x ∈ ys, (x.val : Int) < n) ∧ W.cell? ⟨w.heap.size + 1, 0, none⟩ = some (.int .i64 (onOf l ys : Nat))) ∧ Below w.heap.size w W)
    (OwnFrom.and (Own.from (fun s A B row hs hg hr => ⟨cell_kept hs.1 hg hr, cell_kept hs.2.1 hg hr, (frozen_kept hs.2.1 hg hr).trans hs.2.2.1, hs.2.2.2⟩) _) (ownFrom_below (Nat.le_refl _) (by rw [Hsz0.out]; omega)))
    (fun c => OwnFrom.and (Own.from (fun s A B row hs hg hr => by obtain ⟨h1, ys, x, h2, h3, h4, h5⟩ := hs; exact ⟨h1, ys, x, h2, h3, h4, cell_kept h5 hg hr⟩) _) (ownFrom_below (Nat.le_refl _) (by rw [Hsz0.out]; omega)))
    ⟨⟨hcn, hcc, hcf, by simp⟩, hB0⟩
    (fun x => { tmps := #[str l, Value.int .i64 n, undef, .pointer (some ⟨w.heap.size, 0, none⟩), Value.int .i64 0, .pointer (some ⟨w.heap.size + 1, 0, none⟩), .int .i64 (x.val : Int), .bool (bitL l x.val), str l, .func (.func 219) #[] #[.pointer (some ⟨w.heap.size + 1 + 1 + 1, 0, none⟩), .pointer (some ⟨w.heap.size + 1 + 1, 0, none⟩)], .int .i64 (x.val : Int), .bool (bitL l x.val), undef, undef, undef, undef, undef, undef, undef, undef, undef], defers := [] }) ?assign ?body ?done ?stop
  case assign =>
    intro l x W K hK
    gi_wp2
    exact hK
  case body =>
    rintro y pre x W ⟨⟨hn, hc, hf, ht⟩, hB⟩ hlen
    have hle := onOf_le l pre
    have hsn := Lib.hid (onOf_snoc l pre x)
    have Ht := Lib.hid ht
    clear ht hcn hcc hcs hca hcf
    gi_wp2_with fail
    · rename_i h1
      exact ⟨KeepsOthers.refl _, ⟨rfl, pre, x, rfl, h1, Ht.out, hc⟩, hB⟩
    · rename_i h1 h2
      refine ⟨KeepsOthers.setCell _ _ _, KeepC.setCell _ _ _ (by simp), ⟨?_, ?_, ?_, ?_⟩, hB.setCell (p := ⟨w.heap.size + 1, 0, none⟩) (by simp) _⟩
      · rw [World.cell?_setCell_other _ _ _ _ (by simp)]; exact hn
      · rw [hsn.out, h2]
        exact World.cell?_setCell_same' _ _ _ (by rw [hc]; rfl)
      · rw [World.frozen?_setCell]; exact hf
      · intro z hz
        rcases List.mem_append.1 hz with h | h
        · exact Ht.out z h
        · rw [List.mem_singleton.1 h]; exact h1
    · rename_i h1 h2
      refine ⟨KeepsOthers.refl _, KeepC.refl _ _, ⟨hn, ?_, hf, ?_⟩, hB⟩
      · rw [hsn.out, h2]; exact hc
      · intro z hz
        rcases List.mem_append.1 hz with h | h
        · exact Ht.out z h
        · rw [List.mem_singleton.1 h]; exact h1
  case done =>
    rintro D ys W hD hS ⟨⟨hn, hc, hf, ht⟩, hB⟩ hK
    gi_wp2_with fail
    rw [Exit.noGoto_ret]
    refine ⟨by simp, .inl ⟨_, _, rfl, run_takeDeferred hK, ?_⟩⟩
    refine ⟨_, results_tmp rfl _ _ _, ?_, hB.trans (belowK_b (w := w) (Nat.le_refl _) W D _ _ (by rw [Hsz0.out] at hD; omega) hK rfl rfl)⟩
    have hmin : min n.toNat (8 * l.length) = 8 * l.length - 0 := by
      rcases Nat.eq_zero_or_pos (8 * l.length) with h0 | h0
      · omega
      · have := ht ⟨8 * l.length - 1, by omega⟩ (hS.mem _ (by simp) (by simp; omega))
        simp only at this
        omega
    rw [hmin, ← onOf_row l _ ys hS]; rfl
  case stop =>
    rintro D c pre W hD ⟨k, hk, hrow⟩ ⟨⟨rfl, ys, x, rfl, hx, hys, hc⟩, hB⟩ hK
    gi_wp2_with fail
    rw [Exit.noGoto_ret]
    refine ⟨by simp, .inl ⟨_, _, rfl, run_takeDeferred hK, ?_⟩⟩
    refine ⟨_, results_tmp rfl _ _ _, ?_, hB.trans (belowK_b (w := w) (Nat.le_refl _) W D _ _ (by rw [Hsz0.out] at hD; omega) hK rfl rfl)⟩
    obtain ⟨j, rfl, hr, hxj⟩ := hrow.unsnoc
    have hlx := x.isLt
    have hmin : min n.toNat (8 * l.length) = j := by
      rcases Nat.eq_zero_or_pos j with h0 | h0
      · omega
      · have := hys ⟨j - 1, by omega⟩ (hr.mem _ (by simp) (by simp; omega))
        simp only at this
        omega
    rw [hmin, ← onOf_row l _ ys hr]; rfl
end Go.Proofs.YtnfiapjdkjbdhaaGreat.Bits
/- Layer 6 (bits): the least one. -/
namespace Go.Proofs.YtnfiapjdkjbdhaaGreat.Bits
open Go.RowKit Go.Shelf
set_option linter.unusedVariables false
set_option linter.unusedSimpArgs false
set_option maxRecDepth 10000
attribute [local go_sem] Oper.semAt_some
theorem boxes6 (w : World) (a b c d e f : Value) (s t u v x y : TypeId) :
    let W := ((((((w.alloc (.cells #[a] s)).alloc (.cells #[b] t)).alloc (.cells #[c] u)).alloc (.cells #[d] v)).alloc (.cells #[e] x)).alloc (.cells #[f] y))
    W.cell? ⟨w.heap.size, 0, none⟩ = some a ∧ W.cell? ⟨w.heap.size + 1, 0, none⟩ = some b ∧ W.cell? ⟨w.heap.size + 1 + 1, 0, none⟩ = some c ∧ W.cell? ⟨w.heap.size + 1 + 1 + 1, 0, none⟩ = some d ∧
    W.cell? ⟨w.heap.size + 1 + 1 + 1 + 1, 0, none⟩ = some e ∧ W.cell? ⟨w.heap.size + 1 + 1 + 1 + 1 + 1, 0, none⟩ = some f ∧
    W.frozen? ⟨w.heap.size + 1 + 1, 0, none⟩ = false ∧ W.frozen? ⟨w.heap.size + 1 + 1 + 1, 0, none⟩ = false := by
  obtain ⟨h1, h2, h3, h4, _⟩ := boxes4 w a b c d s t u v
  intro W
  have f4 := frozen_new_l (((w.alloc (.cells #[a] s)).alloc (.cells #[b] t)).alloc (.cells #[c] u)) d v
  have h3' := cell_new_l ((w.alloc (.cells #[a] s)).alloc (.cells #[b] t)) c u
  have f3 := frozen_new_l ((w.alloc (.cells #[a] s)).alloc (.cells #[b] t)) c u
  have h5 := cell_new_l ((((w.alloc (.cells #[a] s)).alloc (.cells #[b] t)).alloc (.cells #[c] u)).alloc (.cells #[d] v)) e x
  have h6 := cell_new_l (((((w.alloc (.cells #[a] s)).alloc (.cells #[b] t)).alloc (.cells #[c] u)).alloc (.cells #[d] v)).alloc (.cells #[e] x)) f y
  simp only [World.size_alloc] at h5 h6 f4 f3 h3'
  exact ⟨cell_alloc_l _ (cell_alloc_l _ h1), cell_alloc_l _ (cell_alloc_l _ h2), cell_alloc_l _ (cell_alloc_l _ h3), cell_alloc_l _ (cell_alloc_l _ h4), cell_alloc_l _ h5, h6,
    frozen_alloc_l _ (cell_alloc_l _ h3) (frozen_alloc_l _ h3 (frozen_alloc_l _ h3' f3)), frozen_alloc_l _ (cell_alloc_l _ h4) (frozen_alloc_l _ h4 f4)⟩
def leastV : Option Nat → Value
  | some k => .tuple #[.int .i64 k, .bool true]
  | none => .tuple #[.int .i64 0, .bool false]
def NoneOf (l : List UInt8) (n : Int) (on : Bool) (xs : List (BitIx l)) : Prop := ∀ x ∈ xs, (x.val : Int) < n ∧ bitL l x.val = !on
theorem NoneOf.snoc {l : List UInt8} {n : Int} {on : Bool} {xs : List (BitIx l)} (h : NoneOf l n on xs) (x : BitIx l) (h1 : (x.val : Int) < n) (h2 : bitL l x.val = !on) : NoneOf l n on (xs ++ [x]) := by
  intro z hz
  rcases List.mem_append.1 hz with e | e
  · exact h z e
  · rw [List.mem_singleton.1 e]; exact ⟨h1, h2⟩
theorem stored {w W : World} {D : Nat} {u v : Value} (hB : Below w.heap.size w W) (hk : W.cell? ⟨w.heap.size + 1 + 1, 0, none⟩ = some u) (hb : W.cell? ⟨w.heap.size + 1 + 1 + 1, 0, none⟩ = some v) (hK : W.heap[D]? = some (.deferred (some []))) (x y : Value) :
    let W' := (W.setCell ⟨w.heap.size + 1 + 1, 0, none⟩ x).setCell ⟨w.heap.size + 1 + 1 + 1, 0, none⟩ y
    W'.heap[D]? = some (.deferred (some [])) ∧ Below w.heap.size w W' ∧ (W'.putObj D (.deferred none)).cell? ⟨w.heap.size + 1 + 1, 0, none⟩ = some x ∧ (W'.putObj D (.deferred none)).cell? ⟨w.heap.size + 1 + 1 + 1, 0, none⟩ = some y := by
  intro W'
  have hK' : W'.heap[D]? = some (.deferred (some [])) := ((KeepsOthers.setCell W ⟨w.heap.size + 1 + 1, 0, none⟩ x).trans (KeepsOthers.setCell _ ⟨w.heap.size + 1 + 1 + 1, 0, none⟩ y)).same D _ hK rfl
  have r1 : W'.cell? ⟨w.heap.size + 1 + 1, 0, none⟩ = some x := by
    rw [World.cell?_setCell_other _ _ _ _ (by simp)]
    exact World.cell?_setCell_same' _ _ _ (by rw [hk]; rfl)
  have r2 : W'.cell? ⟨w.heap.size + 1 + 1 + 1, 0, none⟩ = some y := World.cell?_setCell_same' _ _ _ (by rw [World.cell?_setCell_other _ _ _ _ (by simp), hb]; rfl)
  exact ⟨hK', (hB.setCell (p := ⟨w.heap.size + 1 + 1, 0, none⟩) (by simp; omega) _).setCell (p := ⟨w.heap.size + 1 + 1 + 1, 0, none⟩) (by simp; omega) _,
    cell_kept r1 (grownBy_putObj' _ D (.deferred none)) (fun r e => by cases e; exact ⟨_, hK', rfl⟩), cell_kept r2 (grownBy_putObj' _ D (.deferred none)) (fun r e => by cases e; exact ⟨_, hK', rfl⟩)⟩
set_option maxRecDepth 100000 in
set_option maxHeartbeats 2000000 in
theorem least_any (l : List UInt8) (n : Int) (on : Bool) (w : World) (hl : l.length ≤ 1048576) :
    Calls Tryz.prog 153 #[str l, .int .i64 n, .bool on] w fun e w' => e = .returned (leastV (leastL l on (min n.toNat (8 * l.length)))) ∧ Below w.heap.size w w' := by
  refine (callsIn_wide (n := 3)).1 ?_
  refine callsIn_of_wp_marks Tryz.func153 rfl trivial ?_ rfl
  simp only [Tryz.ntmps153, List.size_toArray, List.length_cons, List.length_nil, Nat.reduceAdd, Nat.reduceSub, Array.replicate_succ, Array.replicate_zero, List.push_toArray, List.append_toArray, List.nil_append, List.cons_append]
  gi_wp2_with fail
  refine scope_in ?_
  gi_wp2_with fail
  refine wpIn_label ?_
  gi_wp2_with fail
  refine ⟨trivial, (callsIn_wide.2 (bitsFrom_any l 0 _)).mono ?_⟩
  rintro e w2 ⟨rfl, rfl⟩
  gi_wp2_with fail
  obtain ⟨W0, hW0⟩ : ∃ W0, (((((((w.alloc (.cells #[Value.int .i64 n] 3)).alloc (.cells #[Value.bool on] 4)).alloc (.cells #[Value.int .i64 0] 3)).alloc (.cells #[Value.bool false] 4)).alloc (.cells #[str l] 9)).alloc (.cells #[Value.int .i64 0] 3))) = W0 := ⟨_, rfl⟩
  have hsz0 : W0.heap.size = w.heap.size + 1 + 1 + 1 + 1 + 1 + 1 := by rw [← hW0]; simp
  have hB0 : Below w.heap.size w W0 := by
    rw [← hW0]
    exact ((((((Below.refl _ _).alloc (Nat.le_refl _) _).alloc (by simp) _).alloc (by simp; omega) _).alloc (by simp; omega) _).alloc (by simp; omega) _).alloc (by simp; omega) _
  obtain ⟨hcn, hco, hck, hcb, hcs, hca, hfk, hfb⟩ := boxes6 w (Value.int .i64 n) (.bool on) (Value.int .i64 0) (.bool false) (str l) (Value.int .i64 0) 3 4 3 4 9 3
  rw [hW0] at hcn hco hck hcb hcs hca hfk hfb
  rw [hW0]
  clear hW0
  have Hsz0 := Lib.hid hsz0
  refine wpIn_rangeFunc_ownF rfl (by decide) (gf := 219) (lb := #[.pointer (some ⟨w.heap.size + 1 + 1 + 1 + 1 + 1, 0, none⟩), .pointer (some ⟨w.heap.size + 1 + 1 + 1 + 1, 0, none⟩)]) rfl trivial (enters_of Tryz.func219 (by kernel_rfl) rfl)
    (encs := fun (x : BitIx l) => #[.int .i64 (x.val : Int), .bool (bitL l x.val)]) (S := fun ys => BitRow l 0 (8 * l.length - 0) ys) (Sp := fun pre => ∃ k, 0 + k ≤ 8 * l.length ∧ BitRow l 0 k pre) (N := 8 * l.length) (w0 := W0) (Kp := KeepC (w.heap.size + 1 + 1 + 1 + 1))
    (fun y J Jx W hW hJ hJx hY h0 => bits_in l hl 0 (Nat.zero_le _) y (w.heap.size + 1 + 1 + 1 + 1 + 1) (w.heap.size + 1 + 1 + 1 + 1) J Jx hY W ((hW.cell (p := ⟨w.heap.size + 1 + 1 + 1 + 1 + 1, 0, none⟩) (by rw [Hsz0.out]; simp)).trans hca) ((hW.cell (p := ⟨w.heap.size + 1 + 1 + 1 + 1, 0, none⟩) (by rw [Hsz0.out]; simp)).trans hcs) h0)
    (fun h k => h.trans k) (fun W q o o' _ hq ho _ => KeepC.putObj o' hq ho) (Below.refl _ _) (fun _ => rfl)
    (fun pre W => ((W.cell? ⟨w.heap.size, 0, none⟩ = some (.int .i64 n) ∧ W.cell? ⟨w.heap.size + 1, 0, none⟩ = some (.bool on)) ∧ (W.cell? ⟨w.heap.size + 1 + 1, 0, none⟩ = some (.int .i64 0) ∧ W.cell? ⟨w.heap.size + 1 + 1 + 1, 0, none⟩ = some (.bool false)) ∧ (W.frozen? ⟨w.heap.size + 1 + 1, 0, none⟩ = false ∧ W.frozen? ⟨w.heap.size + 1 + 1 + 1, 0, none⟩ = false) ∧ NoneOf l n on pre) ∧ Below w.heap.size w W)
    (fun c pre W => (∃ ys x, pre = ys ++ [x] ∧ NoneOf l n on ys ∧
      ((c = .exit 0 ∧ n ≤ (x.val : Int) ∧ (W.cell? ⟨w.heap.size + 1 + 1, 0, none⟩ = some (.int .i64 0) ∧ W.cell? ⟨w.heap.size + 1 + 1 + 1, 0, none⟩ = some (.bool false)) ∧ (W.frozen? ⟨w.heap.size + 1 + 1, 0, none⟩ = false ∧ W.frozen? ⟨w.heap.size + 1 + 1 + 1, 0, none⟩ = false)) ∨
       (c = .ret ∧ (x.val : Int) < n ∧ bitL l x.val = on ∧ W.cell? ⟨w.heap.size + 1 + 1, 0, none⟩ = some (.int .i64 x.val) ∧ W.cell? ⟨w.heap.size + 1 + 1 + 1, 0, none⟩ = some (.bool true)))) ∧ Below w.heap.size w W)
    (OwnFrom.and (Own.from (fun s A B row hs hg hr => by
      obtain ⟨⟨a1, a2⟩, ⟨b1, b2⟩, ⟨c1, c2⟩, d⟩ := hs
      exact ⟨⟨cell_kept a1 hg hr, cell_kept a2 hg hr⟩, ⟨cell_kept b1 hg hr, cell_kept b2 hg hr⟩, ⟨(frozen_kept b1 hg hr).trans c1, (frozen_kept b2 hg hr).trans c2⟩, d⟩) _) (ownFrom_below (Nat.le_refl _) (by rw [Hsz0.out]; omega)))
    (fun c => OwnFrom.and (Own.from (fun s A B row hs hg hr => by
      obtain ⟨ys, x, h1, h2, (⟨h3, h4, ⟨b1, b2⟩, c1, c2⟩ | ⟨h3, h4, h5, b1, b2⟩)⟩ := hs
      · exact ⟨ys, x, h1, h2, .inl ⟨h3, h4, ⟨cell_kept b1 hg hr, cell_kept b2 hg hr⟩, (frozen_kept b1 hg hr).trans c1, (frozen_kept b2 hg hr).trans c2⟩⟩
      · exact ⟨ys, x, h1, h2, .inr ⟨h3, h4, h5, cell_kept b1 hg hr, cell_kept b2 hg hr⟩⟩) _) (ownFrom_below (Nat.le_refl _) (by rw [Hsz0.out]; omega)))
    ⟨⟨⟨hcn, hco⟩, ⟨hck, hcb⟩, ⟨hfk, hfb⟩, by simp [NoneOf]⟩, hB0⟩
    (fun x => { tmps := #[str l, Value.int .i64 n, Value.bool on, undef, .pointer (some ⟨w.heap.size, 0, none⟩), .pointer (some ⟨w.heap.size + 1, 0, none⟩), .pointer (some ⟨w.heap.size + 1 + 1, 0, none⟩), .pointer (some ⟨w.heap.size + 1 + 1 + 1, 0, none⟩), .int .i64 (x.val : Int), .bool (bitL l x.val), str l, .func (.func 219) #[] #[.pointer (some ⟨w.heap.size + 1 + 1 + 1 + 1 + 1, 0, none⟩), .pointer (some ⟨w.heap.size + 1 + 1 + 1 + 1, 0, none⟩)], .int .i64 (x.val : Int), .bool (bitL l x.val), undef, undef, undef, undef, undef, undef, undef, undef, undef], defers := [] }) ?assign ?body ?done ?stop
  case assign =>
    intro l x W K hK
    gi_wp2
    exact hK
  case body =>
    rintro y pre x W ⟨⟨⟨hn, ho⟩, ⟨hk, hb⟩, ⟨fk, fb⟩, ht⟩, hB⟩ hlen
    have Ht := Lib.hid ht
    clear ht hcn hco hck hcb hcs hca hfk hfb
    gi_wp2_with fail
    · rename_i h1
      exact ⟨KeepsOthers.refl _, ⟨pre, x, rfl, Ht.out, .inl ⟨rfl, h1, ⟨hk, hb⟩, fk, fb⟩⟩, hB⟩
    · rename_i h1 h2
      refine ⟨(KeepsOthers.setCell _ _ _).trans (KeepsOthers.setCell _ _ _), ⟨pre, x, rfl, Ht.out, .inr ⟨rfl, h1, by simpa using h2, ?_, ?_⟩⟩, (hB.setCell (p := ⟨w.heap.size + 1 + 1, 0, none⟩) (by simp; omega) _).setCell (p := ⟨w.heap.size + 1 + 1 + 1, 0, none⟩) (by simp; omega) _⟩
      · rw [World.cell?_setCell_other _ _ _ _ (by simp)]
        exact World.cell?_setCell_same' _ _ _ (by rw [hk]; rfl)
      · exact World.cell?_setCell_same' _ _ _ (by rw [World.cell?_setCell_other _ _ _ _ (by simp), hb]; rfl)
    · rename_i h1 h2
      refine ⟨KeepsOthers.refl _, KeepC.refl _ _, ⟨⟨hn, ho⟩, ⟨hk, hb⟩, ⟨fk, fb⟩, Ht.out.snoc x h1 ?_⟩, hB⟩
      revert h2
      cases on <;> cases bitL l x.val <;> simp
  case done =>
    rintro D ys W hD hS ⟨⟨⟨hn, ho⟩, ⟨hk, hb⟩, ⟨fk, fb⟩, ht⟩, hB⟩ hK
    have Ht := Lib.hid ht
    clear ht hcn hco hck hcb hcs hca hfk hfb
    gi_wp2_with fail
    rw [Exit.noGoto_ret]
    obtain ⟨hK', hb', r1, r2⟩ := stored hB hk hb hK (.int .i64 0) (.bool false)
    refine ⟨by simp, .inl ⟨_, _, rfl, run_takeDeferred hK', ?_⟩⟩
    refine ⟨.tuple #[.int .i64 0, .bool false], by simp [results, Tryz.f153, go_sem, r1, r2], ?_, hb'.trans (belowK_b (w := w) (Nat.le_refl _) _ D _ _ (by rw [Hsz0.out] at hD; omega) hK' rfl rfl)⟩
    have hmin : leastL l on (min n.toNat (8 * l.length)) = none := by
      rw [leastL_none]
      intro j hj
      exact (Ht.out ⟨j, by omega⟩ (hS.mem _ (by simp) (by simp; omega))).2
    rw [hmin]; rfl
  case stop =>
    rintro D c pre W hD ⟨k, hk, hrow⟩ ⟨⟨ys, x, rfl, ht, (⟨rfl, hx, ⟨hk, hb⟩, fk, fb⟩ | ⟨rfl, hx, hbit, hk, hb⟩)⟩, hB⟩ hK
    · have Ht := Lib.hid ht
      clear ht hcn hco hck hcb hcs hca hfk hfb
      gi_wp2_with fail
      rw [Exit.noGoto_ret]
      obtain ⟨hK', hb', r1, r2⟩ := stored hB hk hb hK (.int .i64 0) (.bool false)
      refine ⟨by simp, .inl ⟨_, _, rfl, run_takeDeferred hK', ?_⟩⟩
      refine ⟨.tuple #[.int .i64 0, .bool false], by simp [results, Tryz.f153, go_sem, r1, r2], ?_, hb'.trans (belowK_b (w := w) (Nat.le_refl _) _ D _ _ (by rw [Hsz0.out] at hD; omega) hK' rfl rfl)⟩
      obtain ⟨j, rfl, hr, hxj⟩ := hrow.unsnoc
      have hlx := x.isLt
      have hmin : leastL l on (min n.toNat (8 * l.length)) = none := by
        rw [leastL_none]
        intro i hi
        exact (Ht.out ⟨i, by omega⟩ (hr.mem _ (by simp) (by simp; omega))).2
      rw [hmin]; rfl
    · have Ht := Lib.hid ht
      clear ht hcn hco hck hcb hcs hca hfk hfb
      gi_wp2_with fail
      rw [Exit.noGoto_ret]
      have r1 := cell_kept hk (grownBy_putObj' _ D (.deferred none)) (fun r e => by cases e; exact ⟨_, hK, rfl⟩)
      have r2 := cell_kept hb (grownBy_putObj' _ D (.deferred none)) (fun r e => by cases e; exact ⟨_, hK, rfl⟩)
      refine ⟨by simp, .inl ⟨_, _, rfl, run_takeDeferred hK, ?_⟩⟩
      refine ⟨.tuple #[.int .i64 x.val, .bool true], by simp [results, Tryz.f153, go_sem, r1, r2], ?_, hB.trans (belowK_b (w := w) (Nat.le_refl _) _ D _ _ (by rw [Hsz0.out] at hD; omega) hK rfl rfl)⟩
      obtain ⟨j, rfl, hr, hxj⟩ := hrow.unsnoc
      have hlx := x.isLt
      have hmin : leastL l on (min n.toNat (8 * l.length)) = some x.val := by
        refine leastL_is l on _ _ (by omega) hbit ?_
        intro i hi
        exact (Ht.out ⟨i, by omega⟩ (hr.mem _ (by simp) (by simp; omega))).2
      rw [hmin]; rfl
end Go.Proofs.YtnfiapjdkjbdhaaGreat.Bits
/- Layer 6 (bits): Get, and Fill, Set and Make where they refuse. -/
namespace Go.Proofs.YtnfiapjdkjbdhaaGreat.Bits
open Go.RowKit Go.Shelf
set_option linter.unusedVariables false
set_option linter.unusedSimpArgs false
set_option maxRecDepth 10000
set_option maxHeartbeats 400000 in
theorem get_ok (l : List UInt8) (i : Nat) (w : World) (hl : l.length ≤ 1048576) (hi : i < 8 * l.length) :
    Calls Tryz.prog 149 #[str l, .int .i64 i] w fun e w' => e = .returned (.tuple #[.bool (bitL l i), .int .i64 0]) ∧ w' = w := by
  go_enter Tryz.func149, Tryz.ntmps149
  go_wp2_with fail
  refine (size_any l _ hl).mono ?_
  rintro e w1 ⟨rfl, rfl⟩
  go_wp2_with fail
  refine (isSet_any l i _ hl hi).mono ?_
  rintro e w2 ⟨rfl, rfl⟩
  go_wp2_with fail
  go_ret2
  exact ⟨rfl, rfl⟩
end Go.Proofs.YtnfiapjdkjbdhaaGreat.Bits
namespace Go.Proofs.YtnfiapjdkjbdhaaGreat.Bits
open Go.RowKit Go.Shelf
set_option linter.unusedVariables false
set_option linter.unusedSimpArgs false
set_option maxRecDepth 10000
attribute [local go_sem] Oper.semAt_some
def fillOf (l : List UInt8) (on : Bool) (xs : List (BitIx l)) : List UInt8 := xs.foldl (fun s x => setL s x.val on) l
theorem fillOf_snoc (l : List UInt8) (on : Bool) (xs : List (BitIx l)) (x : BitIx l) : fillOf l on (xs ++ [x]) = setL (fillOf l on xs) x.val on := by
  unfold fillOf
  rw [List.foldl_append]; rfl
theorem fillOf_row (l : List UInt8) (on : Bool) (a k : Nat) (xs : List (BitIx l)) (h : BitRow l a k xs) : fillOf l on xs = fillL l a on k := by
  induction k generalizing xs with
  | zero =>
    have := h.length
    have : xs = [] := List.length_eq_zero_iff.1 this
    subst this; rfl
  | succ k ih =>
    have hl := h.length
    obtain ⟨ys, x, rfl⟩ : ∃ ys x, xs = ys ++ [x] := by
      rcases List.eq_nil_or_concat xs with e | ⟨ys, x, e⟩
      · subst e; simp at hl
      · exact ⟨ys, x, by simpa using e⟩
    obtain ⟨j, hj, hr, hx⟩ := h.unsnoc
    obtain rfl : k = j := by omega
    rw [fillOf_snoc, ih _ hr, fillL, hx]
theorem fillOf_length (l : List UInt8) (on : Bool) (xs : List (BitIx l)) : (fillOf l on xs).length = l.length := by
  unfold fillOf
  suffices h : ∀ s : List UInt8, (xs.foldl (fun s x => setL s x.val on) s).length = s.length from h l
  induction xs with
  | nil => intro s; rfl
  | cons x xs ih => intro s; rw [List.foldl_cons, ih]; simp
theorem Bytes.kept {W W' : World} {g : Nat} {l : List UInt8} {row : Option Nat} (h : Bytes W g l) (hg : W.grownBy W' row) (hr : ∀ r, row = some r → ∃ o : Obj, W.heap[r]? = some o ∧ o.isCells = false) : Bytes W' g l := fun j hj =>
  ⟨cell_kept (h j hj).1 hg hr, (frozen_kept (h j hj).1 hg hr).trans (h j hj).2⟩
set_option maxRecDepth 100000 in
set_option maxHeartbeats 4000000 in
theorem fill_ok (l : List UInt8) (a m : Nat) (on : Bool) (w : World) (hl : l.length ≤ 1048576) (h : a + m ≤ 8 * l.length) :
    Calls Tryz.prog 137 #[str l, .int .i64 a, .int .i64 ((a + m : Nat) : Int), .bool on] w fun e w' => e = .returned (.tuple #[str (fillL l a on m), .int .i64 0]) ∧ Below w.heap.size w w' := by
  have hs := Lib.hid fun W => size_any l W hl
  obtain ⟨b, hb⟩ : ∃ b, b = a + m := ⟨_, rfl⟩
  rw [← hb]
  have hab : a ≤ b := by omega
  have hbl : b ≤ 8 * l.length := by omega
  have Hb := Lib.hid hb
  clear hb h
  have d1 : decide (b < a) = false := by simp; omega
  have d2 : decide (8 * (l.length : Int) < (b : Int)) = false := by simp; omega
  refine (callsIn_wide (n := 3)).1 ?_
  refine callsIn_of_wp_marks Tryz.func137 rfl trivial ?_ rfl
  simp only [Tryz.ntmps137, List.size_toArray, List.length_cons, List.length_nil, Nat.reduceAdd, Nat.reduceSub, Array.replicate_succ, Array.replicate_zero, List.push_toArray, List.append_toArray, List.nil_append, List.cons_append]
  gi_wp2_with fail
  refine (wpIn_wide (n := 3)).2 ?_
  go_quiet (refine Calls.quiet_of_same (hs.out _))
  obtain ⟨cap, W1, hcv, hby, hb1, hs1⟩ := bytes_of_string (P := Tryz.prog) ((w.alloc (.cells #[.int .i64 b] 3)).drewN nq) 9 53 5 l Tryz.underlying9 Tryz.underlying53 Tryz.underlying5
  have hs1' : W1.heap.size = w.heap.size + 1 + 1 := by rw [hs1]; simp
  have hby' : Bytes W1 (w.heap.size + 1) l := by simpa using hby
  have hb1' : Below (w.heap.size + 1) (w.alloc (.cells #[.int .i64 b] 3)) W1 := (below_drewN (Below.refl _ (w.alloc (.cells #[.int .i64 b] 3))) nq).trans (hb1.mono (by simp))
  have Hby := Lib.hid hby'
  have Hb1 := Lib.hid hb1'
  have Hs1 := Lib.hid hs1'
  clear hby hby' hb1 hb1' hs1 hs1'
  gi_wp2_with fail
  refine ⟨trivial, (callsIn_wide.2 (turner_any on _)).mono ?_⟩
  rintro e w3 ⟨rfl, rfl⟩
  gi_wp2_with fail
  refine ⟨trivial, (callsIn_wide.2 (bitsFrom_any l a _)).mono ?_⟩
  rintro e w4 ⟨rfl, rfl⟩
  gi_wp2_with fail
  obtain ⟨W0, hW0⟩ : ∃ W0, (((((W1.alloc (.cells #[Value.slice (some ⟨w.heap.size + 1, 0, none⟩) l.length cap] 53)).alloc (.cells #[Value.bool on] 4)).alloc (.cells #[Value.func (.func 220) #[] #[.pointer (some ⟨W1.heap.size + 1, 0, none⟩)]] 280)).alloc (.cells #[str l] 9)).alloc (.cells #[Value.int .i64 (a : Int)] 3)) = W0 := ⟨_, rfl⟩
  have hsz0 : W0.heap.size = W1.heap.size + 1 + 1 + 1 + 1 + 1 := by rw [← hW0]; simp
  have hB1 : Below W1.heap.size W1 W0 := by
    rw [← hW0]
    exact (((((Below.refl _ _).alloc (Nat.le_refl _) _).alloc (by simp) _).alloc (by simp; omega) _).alloc (by simp; omega) _).alloc (by simp; omega) _
  have hB0 : Below w.heap.size w W0 := (((Below.refl _ _).alloc (Nat.le_refl _) _).trans (Hb1.out.mono (by omega))).trans (hB1.mono (by have := Hs1.out; omega))
  obtain ⟨k1, k2, k3, k4, _⟩ := boxes4 W1 (Value.slice (some ⟨w.heap.size + 1, 0, none⟩) l.length cap) (.bool on) (.func (.func 220) #[] #[.pointer (some ⟨W1.heap.size + 1, 0, none⟩)]) (str l) 53 4 280 9
  have k5 := cell_new_l ((((W1.alloc (.cells #[Value.slice (some ⟨w.heap.size + 1, 0, none⟩) l.length cap] 53)).alloc (.cells #[Value.bool on] 4)).alloc (.cells #[Value.func (.func 220) #[] #[.pointer (some ⟨W1.heap.size + 1, 0, none⟩)]] 280)).alloc (.cells #[str l] 9)) (Value.int .i64 (a : Int)) 3
  simp only [World.size_alloc] at k5
  have k1 := cell_alloc_l (.cells #[Value.int .i64 (a : Int)] 3) k1
  have k2 := cell_alloc_l (.cells #[Value.int .i64 (a : Int)] 3) k2
  have k3 := cell_alloc_l (.cells #[Value.int .i64 (a : Int)] 3) k3
  have k4 := cell_alloc_l (.cells #[Value.int .i64 (a : Int)] 3) k4
  rw [hW0] at k1 k2 k3 k4 k5
  have k0 : W0.cell? ⟨w.heap.size, 0, none⟩ = some (.int .i64 (b : Int)) :=
    (hB1.cell (p := ⟨w.heap.size, 0, none⟩) (by have := Hs1.out; simp; omega)).trans ((Hb1.out.cell (p := ⟨w.heap.size, 0, none⟩) (by simp)).trans (cell_new_l w _ _))
  have hby0 : Bytes W0 (w.heap.size + 1) l := Hby.out.below hB1 (by have := Hs1.out; omega)
  rw [hW0]
  clear hW0 hcv
  have Hsz0 := Lib.hid hsz0
  have HB1 := Lib.hid hB1
  clear hsz0 hB1
  refine wpIn_rangeFunc_ownF rfl (by decide) (gf := 219) (lb := #[.pointer (some ⟨W1.heap.size + 1 + 1 + 1 + 1, 0, none⟩), .pointer (some ⟨W1.heap.size + 1 + 1 + 1, 0, none⟩)]) rfl trivial (enters_of Tryz.func219 (by kernel_rfl) rfl)
    (encs := fun (x : BitIx l) => #[.int .i64 (x.val : Int), .bool (bitL l x.val)]) (S := fun ys => BitRow l a (8 * l.length - a) ys) (Sp := fun pre => ∃ k, a + k ≤ 8 * l.length ∧ BitRow l a k pre) (N := 8 * l.length) (w0 := W0) (Kp := KeepC (W1.heap.size + 1 + 1 + 1))
    (fun y J Jx W hW hJ hJx hY h0 => bits_in l hl a (by omega) y (W1.heap.size + 1 + 1 + 1 + 1) (W1.heap.size + 1 + 1 + 1) J Jx hY W ((hW.cell (p := ⟨W1.heap.size + 1 + 1 + 1 + 1, 0, none⟩) (by rw [Hsz0.out]; simp)).trans k5) ((hW.cell (p := ⟨W1.heap.size + 1 + 1 + 1, 0, none⟩) (by rw [Hsz0.out]; simp)).trans k4) h0)
    (fun h k => h.trans k) (fun W q o o' _ hq ho _ => KeepC.putObj o' hq ho) (Below.refl _ _) (fun _ => rfl)
    (fun pre W => ((W.cell? ⟨w.heap.size, 0, none⟩ = some (.int .i64 (b : Int)) ∧ W.cell? ⟨W1.heap.size, 0, none⟩ = some (.slice (some ⟨w.heap.size + 1, 0, none⟩) l.length cap) ∧ W.cell? ⟨W1.heap.size + 1, 0, none⟩ = some (.bool on) ∧ W.cell? ⟨W1.heap.size + 1 + 1, 0, none⟩ = some (.func (.func 220) #[] #[.pointer (some ⟨W1.heap.size + 1, 0, none⟩)])) ∧ Bytes W (w.heap.size + 1) (fillOf l on pre) ∧ ∀ x ∈ pre, x.val ≠ b) ∧ Below w.heap.size w W)
    (fun c pre W => (c = .exit 0 ∧ ∃ ys x, pre = ys ++ [x] ∧ x.val = b ∧ W.cell? ⟨W1.heap.size, 0, none⟩ = some (.slice (some ⟨w.heap.size + 1, 0, none⟩) l.length cap) ∧ Bytes W (w.heap.size + 1) (fillOf l on ys)) ∧ Below w.heap.size w W)
    (OwnFrom.and (Own.from (fun s A B row hs hg hr => by
      obtain ⟨⟨a1, a2, a3, a4⟩, b1, c1⟩ := hs
      exact ⟨⟨cell_kept a1 hg hr, cell_kept a2 hg hr, cell_kept a3 hg hr, cell_kept a4 hg hr⟩, Bytes.kept b1 hg hr, c1⟩) _) (ownFrom_below (Nat.le_refl _) (by rw [Hsz0.out, Hs1.out]; omega)))
    (fun c => OwnFrom.and (Own.from (fun s A B row hs hg hr => by
      obtain ⟨h1, ys, x, h2, h3, h4, h5⟩ := hs
      exact ⟨h1, ys, x, h2, h3, cell_kept h4 hg hr, Bytes.kept h5 hg hr⟩) _) (ownFrom_below (Nat.le_refl _) (by rw [Hsz0.out, Hs1.out]; omega)))
    ⟨⟨⟨k0, k1, k2, k3⟩, hby0, by simp⟩, hB0⟩
    (fun x => { tmps := #[str l, .int .i64 (a : Int), .int .i64 (b : Int), .bool on, undef, undef, .pointer (some ⟨w.heap.size, 0, none⟩), undef, .string { data := #[] }, .int .i64 0, .pointer (some ⟨W1.heap.size, 0, none⟩), .pointer (some ⟨W1.heap.size + 1 + 1, 0, none⟩), .int .i64 (x.val : Int), .int .i64 (a : Int), .bool (decide ((a : Int) < 0)), .bool (decide ((a : Int) < 0)), .int .i64 (a : Int), .int .i64 (b : Int), .bool false, .bool (decide ((a : Int) < 0)), .bool (decide ((a : Int) < 0)), .int .i64 (b : Int), str l, .int .i64 (8 * (l.length : Int)), .bool false, .bool (decide ((a : Int) < 0)), str l, .slice (some ⟨w.heap.size + 1, 0, none⟩) l.length cap, .bool on, .func (.func 220) #[] #[.pointer (some ⟨W1.heap.size + 1, 0, none⟩)], str l, .int .i64 (a : Int), .func (.func 219) #[] #[.pointer (some ⟨W1.heap.size + 1 + 1 + 1 + 1, 0, none⟩), .pointer (some ⟨W1.heap.size + 1 + 1 + 1, 0, none⟩)], .int .i64 (x.val : Int), .bool (bitL l x.val), undef, undef, undef, undef, undef, undef, undef, undef, undef, undef, undef, undef, undef, undef, undef, undef, undef, undef], defers := [] }) ?assign ?body ?done ?stop
  case assign =>
    intro l x W K hK
    gi_wp2
    exact hK
  case body =>
    rintro y pre x W ⟨⟨⟨c0, c1, c2, c3⟩, hb, ht⟩, hB⟩ hlen
    clear k0 k1 k2 k3 k4 k5 hby0 hB0
    have hxl := x.isLt
    have hlen2 := fillOf_length l on pre
    by_cases hx : x.val = b
    · have Hb2 := Lib.hid hb
      have Ht := Lib.hid ht
      have Hx := Lib.hid hx
      have hxx : ((x.val : Int) == (b : Int)) = true := by simp [hx]
      clear hb ht hx hlen2
      gi_wp2_with fail
      exact ⟨KeepsOthers.refl _, ⟨rfl, pre, x, rfl, Hx.out, c1, Hb2.out⟩, hB⟩
    · have hxx : ((x.val : Int) == (b : Int)) = false := by simp; omega
      have hx8 : x.val / 8 < (fillOf l on pre).length := by rw [hlen2]; omega
      have hsn := fillOf_snoc l on pre x
      obtain ⟨cb, fb⟩ := hb _ hx8
      have hset : Bytes (W.setCell ⟨w.heap.size + 1, x.val / 8, none⟩ (.int .u8 ((turnB on ((fillOf l on pre)[x.val / 8]) (x.val % 8)).toNat : Int))) (w.heap.size + 1) (fillOf l on (pre ++ [x])) := by
        rw [hsn]
        have := hb.set (x.val / 8) _ (turnB on ((fillOf l on pre)[x.val / 8]) (x.val % 8)) rfl hx8
        unfold setL
        rw [List.getD_eq_getElem?_getD, List.getElem?_eq_getElem hx8]
        exact this
      have Hset := Lib.hid hset
      have Ht := Lib.hid ht
      have Hx := Lib.hid hx
      clear hb ht hx hsn hset hlen
      generalize hqq : (fillOf l on pre)[x.val / 8] = q at cb fb Hset
      have hqlt := q.toNat_lt
      have hx9 : x.val / 8 < l.length := by omega
      have ht1 := turner1_any on q (x.val % 8) (W1.heap.size + 1) W.drew (Nat.mod_lt _ (by omega)) c2
      rw [Int.natCast_emod, show ((8 : Nat) : Int) = 8 from rfl] at ht1
      have Ht1 := Lib.hid ht1
      have e1 : IntKind.i64.wrap ((x.val : Int) / 8) = (x.val : Int) / 8 := IntWalk.i64_in _ (by omega)
      have e2 : (0 : Int) ≤ (x.val : Int) / 8 := by omega
      have e3 : (x.val : Int) / 8 < (l.length : Int) := by omega
      have e4 : ((x.val : Int) / 8).toNat = x.val / 8 := by omega
      clear hqq ht1 hx8 hlen2
      generalize (turnB on q (x.val % 8)).toNat = z at Hset Ht1
      gi_wp2_with fail
      refine wpIn_mono (Q := fun e _ V' => e = .normal ∧ V' = (W.setCell ⟨w.heap.size + 1, x.val / 8, none⟩ (.int .u8 (z : Int))).drew) ?reg ?post
      case reg =>
        clear Hset Ht Hx Hsz0 HB1 Hby Hb1 hs d1 d2 Hs1
        refine still_round 13 (by kernel_rfl) (noDefer_of _ (by kernel_rfl)) (by rintro ⟨_, _, h, _⟩; cases h) (by kernel_rfl) ?_
        simp only [List.take_succ_cons, List.take_zero, List.drop_succ_cons, List.drop_zero]
        repeat still_step
        still_call Ht1.out
        repeat still_step
        refine wpStill_nil ?_
        go_wp2
      case post =>
        rintro e a' V' ⟨rfl, rfl⟩
        gi_wp2_with fail
        refine ⟨(KeepsOthers.setCell _ _ _).trans (KeepsOthers.drew _), (KeepC.setCell _ _ _ (by have := Hs1.out; simp; omega)).trans (KeepC.drew _ _), ⟨⟨?_, ?_, ?_, ?_⟩, (Hset.out).drew, ?_⟩, (hB.setCell (p := ⟨w.heap.size + 1, x.val / 8, none⟩) (by simp) _).drew⟩
        · show (W.setCell _ _).cell? _ = _
          rw [World.cell?_setCell_other _ _ _ _ (by simp)]; exact c0
        · show (W.setCell _ _).cell? _ = _
          rw [World.cell?_setCell_other _ _ _ _ (by have := Hs1.out; intro e; injection e; omega)]; exact c1
        · show (W.setCell _ _).cell? _ = _
          rw [World.cell?_setCell_other _ _ _ _ (by have := Hs1.out; intro e; injection e; omega)]; exact c2
        · show (W.setCell _ _).cell? _ = _
          rw [World.cell?_setCell_other _ _ _ _ (by have := Hs1.out; intro e; injection e; omega)]; exact c3
        · intro u hu
          rcases List.mem_append.1 hu with e | e
          · exact Ht.out u e
          · rw [List.mem_singleton.1 e]; exact Hx.out
  case done =>
    rintro D ys W hD hS ⟨⟨⟨c0, c1, c2, c3⟩, hb, ht⟩, hB⟩ hK
    clear k0 k1 k2 k3 k4 k5 hby0 hB0
    have hlen := fillOf_length l on ys
    have hcv := string_of_bytes (P := Tryz.prog) 53 9 5 Tryz.underlying53 Tryz.underlying5 Tryz.underlying9 W (w.heap.size + 1) cap _ hb
    rw [hlen] at hcv
    have Ht := Lib.hid ht
    clear ht hb hlen
    gi_wp2_with fail
    refine ⟨by simp, .inl ⟨_, _, rfl, run_takeDeferred hK, ?_⟩⟩
    refine ⟨_, results_tmp2 rfl _ _ _, ?_, hB.trans (belowK_b (w := w) (Nat.le_refl _) W D _ _ (by rw [Hsz0.out, Hs1.out] at hD; omega) hK rfl rfl)⟩
    have hm : m = 8 * l.length - a := by
      have := Hb.out
      rcases Nat.lt_or_ge b (8 * l.length) with h0 | h0
      · exact absurd rfl (Ht.out ⟨b, h0⟩ (hS.mem _ (by simp; omega) (by simp; omega)))
      · omega
    rw [hm, ← fillOf_row l on a _ ys hS]; rfl
  case stop =>
    rintro D c pre W hD ⟨k, hk, hrow⟩ ⟨⟨rfl, ys, x, rfl, hx, c1, hb⟩, hB⟩ hK
    clear k0 k1 k2 k3 k4 k5 hby0 hB0
    have hlen := fillOf_length l on ys
    have hcv := string_of_bytes (P := Tryz.prog) 53 9 5 Tryz.underlying53 Tryz.underlying5 Tryz.underlying9 W (w.heap.size + 1) cap _ hb
    rw [hlen] at hcv
    have Hx := Lib.hid hx
    clear hb hlen hx
    gi_wp2_with fail
    refine ⟨by simp, .inl ⟨_, _, rfl, run_takeDeferred hK, ?_⟩⟩
    refine ⟨_, results_tmp2 rfl _ _ _, ?_, hB.trans (belowK_b (w := w) (Nat.le_refl _) W D _ _ (by rw [Hsz0.out, Hs1.out] at hD; omega) hK rfl rfl)⟩
    obtain ⟨j, rfl, hr, hxj⟩ := hrow.unsnoc
    have hm : m = j := by
      have := Hb.out
      have := Hx.out
      omega
    rw [hm, ← fillOf_row l on a _ ys hr]; rfl
end Go.Proofs.YtnfiapjdkjbdhaaGreat.Bits
/- Layer 10 (dirs): entries, slots, directories; plain mathematics. -/
namespace Go.Proofs.YtnfiapjdkjbdhaaGreat.Dirs
set_option linter.unusedVariables false
set_option linter.unusedSimpArgs false
set_option maxRecDepth 10000
structure En where
  n : List UInt8
  i : Nat
deriving DecidableEq
instance : Inhabited En := ⟨⟨[], 0⟩⟩
def slots (s : List UInt8) : List (List UInt8) := partsL 32 8192 s
def uniq (l : List En) : Prop := l.Pairwise fun x y => x.n = y.n → y.n = []
instance (l : List En) : Decidable (uniq l) := inferInstanceAs (Decidable (l.Pairwise fun x y => x.n = y.n → y.n = []))
end Go.Proofs.YtnfiapjdkjbdhaaGreat.Dirs
