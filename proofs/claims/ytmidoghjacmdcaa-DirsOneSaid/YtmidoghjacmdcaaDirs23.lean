/- Layer 10 (dirs): List. -/
import Derived.Test.YtmidoghjacmdcaaDirs18
import Derived.Test.YtmidoghjacmdcaaDirs17
import Derived.Test.YtmidoghjacmdcaaDirs8
import Derived.Lib.SliceRun
namespace Go.Proofs.Ytmidoghjacmdcaa
open Go.RowKit Go.Lib
set_option linter.unusedVariables false
set_option linter.unusedSimpArgs false
set_option maxRecDepth 10000
/-- Cells that are written in the midst of a block. -/
theorem setCellsD_heap (g : Nat) (e : TypeId) : ∀ (vs : List Value) (o : Nat) (cs : List Value) (W : World), W.heap[g]? = some (.cells cs.toArray e (0, 0)) → o + vs.length ≤ cs.length →
    (W.setCells g o vs).heap[g]? = some (.cells (cs.take o ++ vs ++ cs.drop (o + vs.length)).toArray e (0, 0))
  | [], o, cs, W, h, _ => by simpa [World.setCells] using h
  | v :: r, o, cs, W, h, hl => by
    simp only [List.length_cons] at hl
    have h1 : (W.setCell ⟨g, o, none⟩ v).heap[g]? = some (.cells (cs.set o v).toArray e (0, 0)) := by
      rw [heap_setCell_same W g o _ e v h]; simp
    rw [World.setCells, setCellsD_heap g e r (o + 1) (cs.set o v) _ h1 (by rw [List.length_set]; omega)]
    congr 3
    have ho : o < cs.length := by omega
    rw [List.take_succ_eq_append_getElem (by rw [List.length_set]; exact ho), List.getElem_set_self, List.take_set_of_le (Nat.le_refl o), List.drop_set_of_lt (by omega)]
    rw [show o + 1 + r.length = o + (v :: r).length by rw [List.length_cons]; omega]
    simp
theorem belowD_setCells {n : Nat} {a : World} (g : Nat) (hg : n ≤ g) : ∀ (vs : List Value) (o : Nat) (W : World), Below n a W → Below n a (W.setCells g o vs)
  | [], _, _, h => h
  | v :: r, o, W, h => belowD_setCells g hg r (o + 1) _ (h.setCell hg v)
theorem enC_free_zero (n : Nat) : (Builtin.zeroCells #[str [], .int .u32 0] n).toList = enC (List.replicate n En.free) := by
  unfold Builtin.zeroCells
  simp only [Array.toList_map, Array.toList_range]
  induction n with
  | zero => rfl
  | succ n ih =>
    rw [List.replicate_succ', enC_append, enC_one]
    have : (n + 1) * (#[str [], Value.int .u32 0] : Array Value).size = n * 2 + 2 := by simp; omega
    rw [this]
    have h2 : n * (#[str [], Value.int .u32 0] : Array Value).size = n * 2 := by simp
    rw [h2] at ih
    rw [List.range_succ, List.range_succ, List.map_append, List.map_append, ih]
    simp [En.free, Nat.mul_mod_left, Nat.add_mod]
theorem zeroEnt (w : World) : (zeroValue 34).run Try.prog w = .ok En.free.v w := by
  obtain ⟨hz, -⟩ := zero_of_info (show (Try.prog.info? 34).map (fun i => (i.zero, i.size)) = some (some (.agg #[str [], .int .u32 0]), 2) by kernel_rfl)
  exact hz w
/-- 'clear' of the entries from i on. -/
theorem clear_ents {W : World} {g : Nat} {c : List En} (h : EntAt W g c) (i : Nat) (hi : i < 72) (ty : TypeId) (m : Nat) :
    ∃ W', (Builtin.clear_ #[39] ty #[.slice (some ⟨g, i * 2, none⟩) (72 - i) m]).run Try.prog W = .ok (.tuple #[]) W' ∧ EntAt W' g (c.take i ++ List.replicate (72 - i) En.free) ∧ ∀ n, n ≤ g → Below n W W' := by
  obtain ⟨n, hn⟩ : ∃ n, 72 - i = n + 1 := ⟨72 - i - 1, by omega⟩
  have hc := h.2
  have hel : (enC (List.replicate (n + 1) En.free)).length = (n + 1) * 2 := by rw [enC_length, List.length_replicate]
  have hst := run_storeCells_cells (P := Try.prog) g (i * 2) (enC (List.replicate (n + 1) En.free)) 0 W
    (by intro j hj; rw [cell_of_row W g _ _ _ _ h.1]; rw [hel] at hj; simp [enC_length, hc]; omega) (by intro j hj; exact h.soft _) (enC_all _)
  simp only [Nat.add_zero] at hst
  rw [hn]
  refine ⟨W.setCells g (i * 2) (enC (List.replicate (n + 1) En.free)), ?_, ⟨?_, by simp; omega⟩, fun k hk => belowD_setCells g hk _ _ _ (Below.refl _ _)⟩
  · simp [Builtin.clear_, run_underlying Try.underlying39, zeroEnt, Value.cells, En.free, enC_free_zero, hst]
    have h5 := hst
    simp only [En.free] at h5
    rw [h5]; rfl
  · rw [setCellsD_heap g _ _ (i * 2) _ W h.1 (by rw [hel, enC_length, hc]; omega)]
    congr 3
    rw [List.drop_of_length_le (by rw [hel, enC_length, hc]; omega), List.append_nil, enC_append]
    congr 1
    have key : ∀ (l : List En) (k : Nat), (enC l).take (k * 2) = enC (l.take k) := by
      intro l
      induction l with
      | nil => intro k; simp [enC]
      | cons y r ih =>
        intro k
        cases k with
        | zero => simp [enC]
        | succ k => rw [enC_cons, show (k + 1) * 2 = k * 2 + 1 + 1 by omega, List.take_succ_cons, List.take_succ_cons, ih k, List.take_succ_cons, enC_cons]
    exact key c i
theorem isFree_any (x : En) (V : World) :
    Calls Try.prog 42 (#[x.v] ++ #[]) V fun e w' => e = .returned (.bool (x == En.free)) ∧ Below V.heap.size V w' := by
  have heq : ∀ W, (Op.equalIn 10000 34 x.v (.agg #[.string ⟨#[]⟩, .int .u32 0])).run Try.prog W = .ok (x == En.free) W := fun W => by
    have := eq_ent x En.free W
    rw [show (x == En.free) = decide (x = En.free) from rfl]
    exact this
  generalize (x == En.free) = t at *
  show Calls Try.prog 42 #[x.v] V _
  go_enter Try.func42, Try.ntmps42
  go_wp2_with fail
  go_ret
  exact ⟨rfl, (Below.refl _ _).alloc (Nat.le_refl _) _⟩
/-- What is kept of the array so far. -/
structure DelI (g : Nat) (l : List En) (w : World) (i j : Nat) (c : List En) (V : World) : Prop where
  lt : i < j
  le : j ≤ 72
  arr : EntAt V g c
  head : c.take i = (l.take j).filter takenB
  tail : c.drop j = l.drop j
  bel : Below g w V
theorem DelI.skip {g : Nat} {l : List En} {w : World} {i j : Nat} {c : List En} {V V' : World} (h : DelI g l w i j c V) (hj : j < 72) (hl : l.length = 72) (hx : l[j]? = some En.free) (hb : Below V.heap.size V V') : DelI g l w i (j + 1) c V' := by
  have hjl : j < l.length := by omega
  refine ⟨by have := h.lt; omega, by omega, h.arr.after hb, ?_, ?_, h.bel.trans (hb.mono (Nat.le_of_lt h.arr.lt))⟩
  · rw [List.getElem?_eq_getElem hjl] at hx
    rw [List.take_succ_eq_append_getElem hjl, List.filter_append, Option.some.inj hx, h.head]
    simp [takenB]
  · rw [← List.drop_drop, h.tail, List.drop_drop]
theorem DelI.keep {g : Nat} {l : List En} {w : World} {i j : Nat} {c : List En} {V V' : World} {x : En} (h : DelI g l w i j c V) (hj : j < 72) (hl : l.length = 72) (hx : l[j]? = some x) (hn : x ≠ En.free) (hb : Below V.heap.size V V') :
    DelI g l w (i + 1) (j + 1) (c.set i x) ((V'.setCell ⟨g, i * 2, none⟩ (str x.n)).setCell ⟨g, i * 2 + 1, none⟩ (.int .u32 (x.i : Int))) := by
  have hjl : j < l.length := by omega
  have ha := h.arr.after hb
  have hi := h.lt
  have hcl := ha.2
  refine ⟨by omega, by omega, ⟨?_, by rw [List.length_set]; exact hcl⟩, ?_, ?_, ((h.bel.trans (hb.mono (Nat.le_of_lt h.arr.lt))).setCell (p := ⟨g, i * 2, none⟩) (Nat.le_refl _) _).setCell (p := ⟨g, i * 2 + 1, none⟩) (Nat.le_refl _) _⟩
  · have e1 := heap_setCell_same V' g (i * 2) _ _ (str x.n) ha.1
    rw [heap_setCell_same _ g (i * 2 + 1) _ _ _ e1, enC_set c i x (by omega)]
  · rw [List.getElem?_eq_getElem hjl] at hx
    rw [List.take_succ_eq_append_getElem hjl, List.filter_append, Option.some.inj hx, ← h.head, List.take_succ_eq_append_getElem (by rw [List.length_set]; omega), List.getElem_set_self, List.take_set_of_le (Nat.le_refl i)]
    have ht : takenB x = true := by unfold takenB; rw [bne_iff_ne]; exact hn
    simp [List.filter_cons, ht]
  · rw [List.drop_set_of_lt (by omega), ← List.drop_drop, h.tail, List.drop_drop]
set_option maxRecDepth 100000 in
set_option maxHeartbeats 4000000 in
theorem delFree_any (g : Nat) (l : List En) (w : World) (h : EntAt w g l) :
    Calls Try.prog 41 #[.slice (some ⟨g, 0, none⟩) 72 72, .func (.func 42) #[] #[]] w fun e w' => (∃ v, e = .returned v ∧ EntRow w' v (l.filter takenB)) ∧ Below g w w' := by
  have hI := indexFunc_ent 42 #[] (enters_of Try.func42 (by kernel_rfl) rfl) (fun x => x == En.free) g l w h (fun V x _ _ => isFree_any x V)
  rw [show l.findIdx? (fun x => x == En.free) = gap l from rfl] at hI
  have hl := h.2
  cases hg : gap l with
  | none =>
    rw [hg] at hI
    have HI := Lib.hid hI
    have hf : l.filter takenB = l := by
      rw [List.filter_eq_self]
      intro y hy
      unfold takenB
      rw [bne_iff_ne]
      exact gap_none hg y hy
    have HF := Lib.hid hf
    have HE := Lib.hid h
    clear hI hf h hg
    go_enter Try.func41, Try.ntmps41
    go_wp2_with fail
    refine HI.out.mono ?_
    rintro e w1 ⟨rfl, hb1⟩
    have HB1 := Lib.hid hb1
    clear hb1 HI
    dsimp only [optI]
    go_wp2_with fail
    go_ret
    refine ⟨⟨_, rfl, ?_⟩, HB1.out.mono (Nat.le_of_lt HE.out.lt)⟩
    rw [HF.out]
    refine ⟨some ⟨g, 0, none⟩, 72, by rw [hl]; rfl, fun j x hj => ⟨g, rfl, ?_⟩⟩
    exact (HE.out.after HB1.out).cells hj
  | some k =>
    rw [hg] at hI
    have HI := Lib.hid hI
    obtain ⟨hk1, hk2⟩ := gap_some hg
    have hkl := gap_lt hg
    have hst : ∀ V, Below w.heap.size w V → DelI g l w k (k + 1) l V := fun V hb => by
      refine ⟨by omega, by omega, h.after hb, ?_, rfl, hb.mono (Nat.le_of_lt h.lt)⟩
      rw [List.take_succ_eq_append_getElem hkl, List.filter_append]
      rw [List.getElem?_eq_getElem hkl] at hk1
      rw [Option.some.inj hk1]
      have h5 : (l.take k).filter takenB = l.take k := by
        rw [List.filter_eq_self]
        intro y hy
        unfold takenB
        rw [bne_iff_ne]
        obtain ⟨j, hj⟩ := List.getElem?_of_mem hy
        have hjk := (List.getElem?_eq_some_iff.1 hj).1
        rw [List.length_take] at hjk
        rw [List.getElem?_take] at hj
        split at hj
        · exact hk2 j y (by omega) hj
        · cases hj
      rw [h5]
      simp [takenB]
    have Hst := Lib.hid hst
    have HFr := Lib.hid fun V (x : En) => isFree_any x V
    have hkm : ((k : Int) == -1) = false := by rw [beq_eq_false_iff_ne]; omega
    clear hI hg hk1 hk2 hst h
    go_enter Try.func41, Try.ntmps41
    go_wp2_with fail
    refine HI.out.mono ?_
    rintro e w1 ⟨rfl, hb1⟩
    have HS1 := Lib.hid (Hst.out _ hb1)
    clear hb1 HI Hst
    dsimp only [optI]
    go_wp2_with fail
    go_loopw [5, 6] (fun s5 s6 wr => ∃ i j c, s5 = .int .i64 ((i : Nat) : Int) ∧ s6 = .int .i64 ((j : Nat) : Int) ∧ DelI g l w i j c wr) (fun _ j _ => 72 - (Go.RowKit.intOf j).toNat)
    case atStart => exact ⟨k, k + 1, l, rfl, by go_num, HS1.out⟩
    case round =>
      obtain ⟨i, j, c, rfl, rfl, hI⟩ := hrel
      have HD := Lib.hid hI
      clear hI
      have hi := HD.out.lt
      have hj := HD.out.le
      by_cases hlt : j < 72
      · have hltz : (j : Int) < 72 := by omega
        obtain ⟨x, hx⟩ : ∃ x, l[j]? = some x := ⟨l[j]'(by omega), List.getElem?_eq_getElem (by omega)⟩
        have hcx : c[j]? = some x := by
          have h6 := congrArg (·[0]?) HD.out.tail
          simp only [List.getElem?_drop, Nat.add_zero] at h6
          rw [h6, hx]
        obtain ⟨c0, c1⟩ := HD.out.arr.cells hcx
        have hb0 : Below wr.heap.size wr (wr.alloc (.cells #[str x.n, .int .u32 (x.i : Int)] 34)) := (Below.refl _ _).alloc (Nat.le_refl _) _
        have HB0 := Lib.hid hb0
        have HV := Lib.hid (two_cells wr (str x.n) (.int .u32 (x.i : Int)) 34)
        have hcall := HFr.out (wr.alloc (.cells #[str x.n, .int .u32 (x.i : Int)] 34)) x
        have Hx := Lib.hid hx
        clear hb0 hx hcx
        cases hf : (x == En.free) with
        | true =>
          rw [hf] at hcall
          have hxf : x = En.free := by simpa using hf
          have Hxf := Lib.hid hxf
          have Hc := Lib.hid hcall
          clear hf hxf hcall
          go_wp2_with fail
          refine Hc.out.mono ?_
          rintro e w2 ⟨rfl, hb2⟩
          have HB2 := Lib.hid (HB0.out.trans (hb2.mono HB0.out.size))
          clear hb2
          go_wp2_with fail
          go_roundw
          case rel => exact ⟨i, j + 1, c, rfl, by go_num, HD.out.skip hlt hl (Hxf.out ▸ Hx.out) HB2.out⟩
          case measure => simp [Go.RowKit.intOf]; omega
        | false =>
          rw [hf] at hcall
          have hxf : x ≠ En.free := by simpa using hf
          have Hxf := Lib.hid hxf
          have Hc := Lib.hid hcall
          clear hf hxf hcall
          go_wp2_with fail
          refine Hc.out.mono ?_
          rintro e w2 ⟨rfl, hb2⟩
          have HB2 := Lib.hid (HB0.out.trans (hb2.mono HB0.out.size))
          obtain ⟨v0, v1⟩ := pair_kept HV.out hb2
          have ha := HD.out.arr.after HB2.out
          obtain ⟨z, hz⟩ : ∃ z, c[i]? = some z := ⟨c[i]'(by have := ha.2; omega), List.getElem?_eq_getElem _⟩
          obtain ⟨d0, d1⟩ := ha.cells hz
          have f0 := ha.soft (i * 2)
          have f1 := ha.soft (i * 2 + 1)
          have hiz : (i : Int) < 72 := by omega
          clear hb2 hz ha c0 c1
          go_wp2_with fail
          go_roundw
          case rel => exact ⟨i + 1, j + 1, c.set i x, by go_num, by go_num, HD.out.keep hlt hl Hx.out Hxf.out HB2.out⟩
          case measure => simp [Go.RowKit.intOf]; omega
      · have hj72 : j = 72 := by omega
        have hltz : ¬ (j : Int) < 72 := by omega
        have hi72 : i < 72 := by omega
        have hiz : (i : Int) ≤ 72 := by omega
        have hhead : c.take i = l.filter takenB := by
          have := HD.out.head
          rw [hj72, List.take_of_length_le (l := l) (by omega)] at this
          exact this
        have Hh := Lib.hid hhead
        obtain ⟨w3, hcl, ha3, hb3⟩ := clear_ents HD.out.arr i hi72 0 (72 - i)
        clear hj72 hhead
        go_wp2_with fail
        go_ret
        refine ⟨⟨_, rfl, ?_⟩, HD.out.bel.trans (hb3 g (Nat.le_refl _))⟩
        rw [← Hh.out]
        have hil : (c.take i).length = i := by rw [List.length_take]; have := HD.out.arr.2; omega
        refine ⟨some ⟨g, 0, none⟩, 72, by rw [hil]; rfl, fun q y hq => ⟨g, rfl, ?_⟩⟩
        refine ha3.cells ?_
        rw [List.getElem?_append_left (List.getElem?_eq_some_iff.1 hq).1]
        exact hq
set_option maxHeartbeats 2000000 in
theorem list_any (s : List UInt8) (w : World) (hs : s.length ≤ maxLen) :
    Calls Try.prog 23 #[str s] w fun e w' => (∃ v, e = .returned v ∧ EntRow w' v (lst s)) ∧ Below w.heap.size w w' := by
  have HR := Lib.hid fun W => read_any s W hs
  have hL := pad72_length (ents_le s)
  have hF : (pad72 (ents s)).filter takenB = lst s := by
    unfold pad72 lst
    rw [List.filter_append]
    have : (List.replicate (72 - (ents s).length) En.free).filter takenB = [] := by
      rw [List.filter_eq_nil_iff]
      intro y hy
      rw [(List.mem_replicate.1 hy).2]
      simp [takenB]
    rw [this, List.append_nil]
    rfl
  have HF := Lib.hid hF
  obtain ⟨hzr, hsz⟩ := zero_of_info entsInfo
  have Hsz := Lib.hid hsz
  clear hsz hF
  have hZ72 : (List.replicate 72 En.free).length = 72 := by simp
  generalize List.replicate 72 En.free = Z at *
  generalize pad72 (ents s) = L at *
  generalize chk s = z at *
  go_enter Try.func23, Try.ntmps23
  go_wp2_with fail
  refine (HR.out _).mono ?_
  rintro e w1 ⟨rfl, hb1⟩
  have HB1 := Lib.hid hb1
  clear hb1 HR
  obtain ⟨w2, hst, ha, hb2, hsz2⟩ := arr_laid w1 Z L hZ72 hL
  have HB2 := Lib.hid (HB1.out.trans (hb2.mono HB1.out.size))
  have HD := Lib.hid (delFree_any _ _ _ ha)
  clear ha hb2 hsz2
  go_wp2_with fail
  refine HD.out.mono ?_
  rintro e w3 ⟨⟨v, rfl, hv⟩, hb3⟩
  have HV := Lib.hid hv
  have HB3 := Lib.hid (HB2.out.trans (hb3.mono HB1.out.size))
  clear hv hb3
  go_wp2_with fail
  go_ret
  exact ⟨⟨_, rfl, by rw [← HF.out]; exact HV.out⟩, HB3.out⟩
end Go.Proofs.Ytmidoghjacmdcaa
