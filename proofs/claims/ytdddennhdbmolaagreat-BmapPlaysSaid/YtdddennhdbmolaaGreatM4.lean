/- Layer 2 (crc): the table of all bytes. -/
import Derived.Test.YtdddennhdbmolaaGreatM3
import Derived.BigRegion
namespace Go.Proofs.YtdddennhdbmolaaGreat
open Go.RowKit
set_option linter.unusedVariables false
set_option linter.unusedSimpArgs false
set_option maxRecDepth 10000
/-- What a register that is the number b becomes by eight bits 0. -/
def ent (b : Nat) : BitVec 32 := stn 8 (BitVec.ofNat 32 b)
/-- The table's cells, of which those below k are filled. -/
def tabC (k : Nat) : List Value := (List.range 256).map fun b => if b < k then reg (ent b) else .int .u32 0
theorem tabC_length (k : Nat) : (tabC k).length = 256 := by simp [tabC]
theorem tabC_get (k b : Nat) (hb : b < 256) : (tabC k)[b]? = some (if b < k then reg (ent b) else .int .u32 0) := by
  simp [tabC, hb]
theorem tabC_set (k : Nat) (hk : k < 256) : (tabC k).set k (reg (ent k)) = tabC (k + 1) := by
  apply List.ext_getElem?
  intro i
  by_cases hi : i < 256
  · by_cases h : k = i
    · subst h
      rw [List.getElem?_set_self (by rw [tabC_length]; exact hk), tabC_get _ _ hk]
      simp
    · rw [List.getElem?_set_ne h, tabC_get _ _ hi, tabC_get _ _ hi]
      by_cases h2 : i < k
      · simp [h2, show i < k + 1 by omega]
      · simp [h2, show ¬ i < k + 1 by omega]
  · rw [List.getElem?_eq_none (by rw [List.length_set, tabC_length]; omega), List.getElem?_eq_none (by rw [tabC_length]; omega)]
theorem tabC_one (k : Nat) : (tabC k).toArray.all (·.oneCell') = true := by
  rw [Array.all_eq_true_iff_forall_mem]
  intro v hv
  simp only [List.mem_toArray, tabC, List.mem_map] at hv
  obtain ⟨b, _, rfl⟩ := hv
  split <;> rfl
theorem tabInfo : (Tryz.prog.info? 227).map (fun i => (i.zero, i.size)) = some (some (.agg (tabC 0).toArray), 256) := by kernel_rfl
/-- The lowest bit of a number that is on. -/
def lowOf (k : Nat) : Nat := k &&& (512 - k)
theorem lowOf_all : ∀ k : Fin 256, bits .and .i64 (k.val : Int) (-(k.val : Int)) = (lowOf k.val : Int) ∧ lowOf k.val ≤ k.val ∧ (lowOf k.val < k.val → 0 < lowOf k.val ∧ ent (lowOf k.val) ^^^ ent (k.val - lowOf k.val) = ent k.val) := by decide +kernel
theorem step8_nat (k : Nat) (n : Int) (hn : n = (k : Int)) (hk : k < 256) (w : World) :
    Calls Tryz.prog 162 #[.int .u32 n] w fun e w' => e = .returned (reg (ent k)) ∧ w = w' := by
  have h := step8_any (BitVec.ofNat 32 k) w
  have h2 : ((BitVec.ofNat 32 k).toNat : Int) = n := by rw [BitVec.toNat_ofNat, Nat.mod_eq_of_lt (by omega), hn]
  unfold reg at h
  rw [h2] at h
  exact h
set_option maxRecDepth 100000 in
set_option maxHeartbeats 1000000 in
theorem table_any (w : World) :
    Calls Tryz.prog 149 #[] w fun e w' => e = .returned (.agg (tabC 256).toArray) ∧ Below w.heap.size w w' := by
  obtain ⟨hz, hsz⟩ := zero_of_info tabInfo
  have Hsz := Lib.hid hsz
  clear hsz
  go_enter Tryz.func149, Tryz.ntmps149
  go_wp2_with fail
  go_loopw [4] (fun i wr => ∃ k : Nat, k ≤ 256 ∧ i = .int .i64 k ∧ wr.heap[w.heap.size + 1]? = some (.cells (tabC k).toArray 227 (0, 0)) ∧ wr.heap[w.heap.size]? = some (.cells (tabC 0).toArray 227 (0, 0)) ∧ Below w.heap.size w wr) (fun i _ => 256 - (intOf i).toNat)
  case atStart =>
    refine ⟨0, by omega, rfl, heap_new _ _ _ (by simp), ?_, ((Below.refl _ _).alloc (Nat.le_refl _) _).alloc (by simp) _⟩
    rw [heap_alloc_old _ _ (by simp)]
    exact heap_new _ _ _ rfl
  case round =>
    obtain ⟨k, hk, rfl, hg, h0, hb⟩ := hrel
    have H0 := Lib.hid h0
    clear h0
    by_cases hlt : k < 256
    · obtain ⟨hand, hle, hent⟩ := lowOf_all ⟨k, hlt⟩
      simp only at hand hle hent
      have Hent := Lib.hid hent
      clear hent
      have hfr := frozen_of_row wr (w.heap.size + 1) k _ 227 hg
      have hcell := cell_of_row wr (w.heap.size + 1) k _ 227 (0, 0) hg
      rw [List.getElem?_toArray, tabC_get _ _ hlt, if_neg (by omega)] at hcell
      by_cases hq : lowOf k = k
      · rw [hq] at hand hle
        have Hg := Lib.hid hg
        clear hg hq
        go_wp2_with fail
        refine (step8_nat k _ (by first | rfl | simp) hlt _).mono ?_
        rintro e w1 ⟨rfl, rfl⟩
        go_wp2_with fail
        go_roundw
        case rel =>
          refine ⟨k + 1, by omega, by go_num, ?_, ?_, hb.setCell (by simp) _⟩
          · rw [heap_setCell_same _ _ _ _ _ _ Hg.out, List.setIfInBounds_toArray, tabC_set k hlt]
          · rw [heap_setCell_other _ _ _ _ (by simp)]; exact H0.out
        case measure => simp [intOf]; omega
      · have hl1 : lowOf k < k := by omega
        have hcl := cell_of_row wr (w.heap.size + 1) (lowOf k) _ 227 (0, 0) hg
        rw [List.getElem?_toArray, tabC_get _ _ (by omega), if_pos hl1] at hcl
        have hcr := cell_of_row wr (w.heap.size + 1) (k - lowOf k) _ 227 (0, 0) hg
        rw [List.getElem?_toArray, tabC_get _ _ (by omega), if_pos (by have := (Hent.out hl1).1; omega)] at hcr
        have Hg := Lib.hid hg
        clear hg
        generalize lowOf k = lo at hand hle Hent hq hl1 hcl hcr
        obtain ⟨m, hm⟩ : ∃ m, m = k - lo := ⟨_, rfl⟩
        have hsub : (k : Int) - (lo : Int) = (m : Int) := by omega
        have hmk : m < k := by have := (Hent.out hl1).1; omega
        rw [← hm] at hcr Hent
        have Hm := Lib.hid hm
        clear hm
        go_wp2_with fail
        go_region
        go_wp2
        go_roundw
        case rel =>
          have hx : Value.int .u32 (bits .xor .u32 ((ent lo).toNat : Int) ((ent m).toNat : Int)) = reg (ent k) := by
            rw [reg_xor, (Hent.out hl1).2]
          refine ⟨k + 1, by omega, by go_num, ?_, ?_, (hb.setCell (by simp) _).drew⟩
          · rw [hx]
            show ((wr.setCell _ _).heap)[w.heap.size + 1]? = _
            rw [heap_setCell_same _ _ _ _ _ _ Hg.out, List.setIfInBounds_toArray, tabC_set k hlt]
          · show ((wr.setCell _ _).heap)[w.heap.size]? = _
            rw [heap_setCell_other _ _ _ _ (by simp)]; exact H0.out
        case measure => simp [intOf]; omega
    · have : k = 256 := by omega
      subst this
      have hl := run_loadVar_row (P := Tryz.prog) wr (w.heap.size + 1) 227 227 _ (0, 0) _ hg Tryz.underlying227 rfl (by rw [Hsz.out]; simp [tabC_length])
      have hst := run_storeCells_row (P := Tryz.prog) wr w.heap.size 227 _ (tabC 256) H0.out (by simp [tabC_length]) (tabC_one 256)
      have hlen := tabC_length 256
      clear hg
      generalize hT : tabC 256 = T at hl hst hlen
      have HT := Lib.hid hT
      clear hT
      go_wp2_with fail
      refine wp_load_row _ _ rfl _ rfl _ hl ?_
      go_wp2_with fail
      have hfin := setRow_heap wr w.heap.size _ T.toArray _ (0, 0) H0.out
      refine bodyPost_ret (v := .agg T.toArray) ?_ rfl ⟨by rw [HT.out], below_setRow hb _ (Nat.le_refl _) _⟩
      exact results_cell_row rfl _ _ w.heap.size 227 _ (0, 0) _ rfl hfin Tryz.underlying227 rfl (by rw [Hsz.out]; simp [hlen])
end Go.Proofs.YtdddennhdbmolaaGreat
/- Rows that a call makes for itself: append of one, and what is read. -/
namespace Go.Proofs.YtdddennhdbmolaaGreat
open Go.RowKit
set_option linter.unusedVariables false
set_option linter.unusedSimpArgs false
set_option maxRecDepth 10000
theorem grown_of_below {w w' : World} (h : Below w.heap.size w w') (row : Option Nat) : w.grownBy w' row := ⟨h.os, h.tape, h.output, h.size, fun i hi _ => h.block i hi⟩
/-- What is owned stays so where nothing that was there turns. -/
theorem own_below {w w' : World} {base : Nat} {e : TypeId} {size : Nat} {v : Value} {n : Nat} {xs : List Value} (h : w.ownsRow base e size v n xs) (hb : Below w.heap.size w w') : w'.ownsRow base e size v n xs :=
  h.kept (grown_of_below hb none) (by cases hv : v.ownBlock <;> simp)
/-- 'l = append(l, x)' of one cell, where l is the call's own. -/
theorem wpList_append_one {P : Program} {w0 W0 : World} {ops : Array Oper} {rest : List Oper} {o : Oper} {a : Act} {Q : Exit → Act → World → Prop} (hgd : o.guard = none) (s x : Operand) (t : TypeId)
    (ho : o.op = .call { callee := .builtin .append, args := #[s, x], argTypes := #[t, t] })
    (e : TypeId) (z : Value) (bytes : Nat) (ht : P.underlying t = some (.slice e)) (hinfo : (P.info? e).map (fun i => (i.zero, i.size, i.bytes)) = some (some z, 1, bytes)) (hzs : z.cells.size = 1)
    (v : Value) (n : Nat) (xs : List Value) (hs : a.eval s = v) (hown : w0.ownsRow W0.heap.size e 1 v n xs)
    (u : Value) (g c : Nat) (hx : a.eval x = .slice (some ⟨g, 0, none⟩) 1 c) (hg : g = w0.heap.size) (hu : u.oneCell' = true)
    (h63 : n + 1 ≤ maxLen) (hbytes : (n + 1) * bytes ≤ 140737488355328) (hbel : Below W0.heap.size W0 w0)
    (h : ∀ v' w', w'.ownsRow W0.heap.size e 1 v' (n + 1) (xs ++ [u]) → Below W0.heap.size W0 w' → wpList P ops Q rest (a.put o.dst v') w') : wpList P ops Q (o :: rest) a (w0.alloc (.cells #[u] e)) := by
  obtain ⟨i0, hi, hz0, hz1, hz2⟩ := info_parts hinfo
  refine wpList_append_own _ hgd s x t ho W0.heap.size e i0 z 1 bytes ht hi hz0 hz1 hz2 hzs (by omega) v n xs hs (hown.alloc _) ⟨g, 0, none⟩ 1 c [u] hx rfl ?_ ?_ h63 hbytes ?_ ?_
  · intro j u' hj
    match j, hj with
    | 0, hj => simp at hj; subst hj hg; simp [Addr.add]
  · intro u' hu'
    simp at hu'
    subst hu'
    exact hu
  · have := hbel.size
    simp
    omega
  · intro v' w' hown' hgrow _
    refine h v' w' hown' ((hbel.alloc hbel.size _).grown hgrow (by have := hbel.size; simp; omega) ?_)
    intro k hk
    exact (hown.lt k hk).1
theorem addr_add0 (g j : Nat) : (⟨g, 0, none⟩ : Addr).add j = ⟨g, j, none⟩ := by unfold Addr.add; split <;> simp_all
/-- A slice that reads as these cells, from the head of a block on. -/
def Row (w : World) (v : Value) (xs : List Value) : Prop :=
  ∃ A c, v = .slice A xs.length c ∧ ∀ j u, xs[j]? = some u → ∃ g, A = some ⟨g, 0, none⟩ ∧ w.cell? ⟨g, j, none⟩ = some u
theorem row_of_own {w : World} {base : Nat} {e : TypeId} {v : Value} {n : Nat} {xs : List Value} (h : w.ownsRow base e 1 v n xs) : Row w v xs := by
  have hl : xs.length = n := by have := h.1; omega
  subst hl
  rcases h.2 with ⟨rfl, h0⟩ | ⟨g, cap, cur, hv, hrest⟩
  · refine ⟨none, 0, by rw [h0], fun j u hj => ?_⟩
    have := (List.getElem?_eq_some_iff.1 hj).1
    omega
  · refine ⟨some ⟨g, 0, none⟩, cap, hv, fun j u hj => ⟨g, rfl, ?_⟩⟩
    have := h.cells (g := g) (by rw [hv]; rfl) j u hj
    rwa [addr_add0] at this
end Go.Proofs.YtdddennhdbmolaaGreat
