/- Layer 9 (bmap): write; two arrays compared, and cleared. -/
import Derived.Test.YtdddennhdbmolaaGreatBmap4
import Derived.Laws.StructEq
import Derived.ChangeKeysEq
namespace Go.Proofs.YtdddennhdbmolaaGreat
open Go.RowKit Go.Lib
set_option linter.unusedVariables false
set_option linter.unusedSimpArgs false
set_option maxRecDepth 10000
theorem box_lis (w : World) (i b j : Int) (l : List Nat) (hl : l.length = 32) :
    LisAt ((w.alloc (.cells #[.int .i64 i, .int .i64 b, .int .i64 j] 23)).alloc (.cells (numV l).toArray 71)) (w.heap.size + 1) l ∧
    Below w.heap.size w ((w.alloc (.cells #[.int .i64 i, .int .i64 b, .int .i64 j] 23)).alloc (.cells (numV l).toArray 71)) :=
  ⟨⟨(heap_two w _ _).2, hl⟩, ((Below.refl _ w).alloc (Nat.le_refl _) _).alloc (by simp) _⟩
theorem LisAt.u16s {W : World} {g : Nat} {l : List Nat} (h : LisAt W g l) : U16s W (.slice (some ⟨g, 0, none⟩) 32 32) l :=
  ⟨_, _, by rw [h.2], fun j n hj => ⟨_, rfl, by rw [addr_add0]; exact h.cell hj⟩⟩
set_option maxHeartbeats 1000000 in
theorem bwrite_any (t : Value) (G : Gm) (hG : G.ok) (k : Nat) (h1 : 1 ≤ k) (h2 : k ≤ G.b) (l : List Nat) (hl : l.length = 32) (hlt : ∀ x ∈ l, x < 65536) (r : Int) (Q : World → Prop) (w : World)
    (hW : ∀ V, Below w.heap.size w V → Calls Tryz.prog 41 #[t, .int .i64 ((secB G k : Nat) : Int), str (tellL l)] V fun e w' => e = .returned (.int .i64 r) ∧ Q w') :
    Calls Tryz.prog 28 #[t, gv G, w16 k, lisV l] w fun e w' => e = .returned (.int .i64 r) ∧ Q w' := by
  have hb5 : G.b ≤ 1024 := hG.2.1.2
  have HBl := Lib.hid fun W => block_ok G (k - 1) (k : Int) (by omega) W hG (by omega)
  have hsec : G.off 5 + (k - 1) = secB G k := rfl
  rw [hsec] at HBl
  obtain ⟨hL, hB⟩ := box_lis w G.i G.b G.j l hl
  have HT := Lib.hid (tell_ok l _ _ hL.u16s hlt (by omega))
  have HB := Lib.hid hB
  have HWr := Lib.hid hW
  clear hW hlt hL hB hsec
  generalize tellL l = s at *
  generalize secB G k = sc at *
  go_enter Tryz.func28, Tryz.ntmps28
  go_wp2_with fail
  refine HT.out.mono ?_
  rintro e w1 ⟨rfl, hb⟩
  have HB1 := Lib.hid (HB.out.trans (hb.mono HB.out.size))
  have c0 : w1.cell? ⟨w.heap.size, 0, none⟩ = some (.int .i64 G.i) := (hb.cell (p := ⟨w.heap.size, 0, none⟩) (by simp; omega)).trans (cell_of_row _ _ 0 _ _ (0, 0) (heap_two w _ _).1)
  have c1 : w1.cell? ⟨w.heap.size, 1, none⟩ = some (.int .i64 G.b) := (hb.cell (p := ⟨w.heap.size, 1, none⟩) (by simp; omega)).trans (cell_of_row _ _ 1 _ _ (0, 0) (heap_two w _ _).1)
  have c2 : w1.cell? ⟨w.heap.size, 2, none⟩ = some (.int .i64 G.j) := (hb.cell (p := ⟨w.heap.size, 2, none⟩) (by simp; omega)).trans (cell_of_row _ _ 2 _ _ (0, 0) (heap_two w _ _).1)
  clear hb
  go_wp2_with fail
  refine (HBl.out _).mono ?_
  rintro e w2 ⟨rfl, hb⟩
  have HB2 := Lib.hid (HB1.out.trans (hb.mono HB1.out.size))
  clear hb
  go_wp2_with fail
  refine (HWr.out _ HB2.out).mono ?_
  rintro e w3 ⟨rfl, hq⟩
  have HQ := Lib.hid hq
  clear hq
  go_wp2_with fail
  go_ret
  exact ⟨rfl, HQ.out⟩
theorem numInfo : ∃ i, Tryz.prog.info? 24 = some i ∧ i.size = 1 := ⟨_, rfl, rfl⟩
theorem eqItems_nums (a b : List Nat) (w : World) : ∀ is : List Nat, (∀ i ∈ is, i < a.length ∧ i < b.length) → (Op.eqItems 9999 24 1 (numV a).toArray (numV b).toArray is).run Tryz.prog w = .ok (is.all fun i => a[i]? == b[i]?) w
  | [], _ => by simp [Op.eqItems]
  | i :: is, h => by
    have u3 := Tryz.underlying24
    have a3 := Tryz.isAgg24
    have z3 := Tryz.sizeOf24
    obtain ⟨h1, h2⟩ := h i (by simp)
    have ih := eqItems_nums a b w is fun j hj => h j (by simp [hj])
    have e1 : (numV a).toArray[i]? = some (w16 a[i]) := by simp [h1]
    have e2 : (numV b).toArray[i]? = some (w16 b[i]) := by simp [h2]
    have f1 : a[i]? = some a[i] := List.getElem?_eq_getElem h1
    have f2 : b[i]? = some b[i] := List.getElem?_eq_getElem h2
    rw [List.all_cons]
    simp only [Op.eqItems]
    go_simp
    by_cases e : a[i] = b[i]
    · rw [if_pos (by rw [e])]
      simp [e]
    · have e2 : ¬ (a[i] : Int) = (b[i] : Int) := fun h => e (Int.ofNat.inj h)
      rw [if_neg e2]
      simp [e]
theorem eq_lis (a b : List Nat) (ha : a.length = 32) (hb : b.length = 32) (w : World) : (Op.equalIn 10000 71 (lisV a) (lisV b)).run Tryz.prog w = .ok (decide (a = b)) w := by
  obtain ⟨i, hi, hs⟩ := numInfo
  have hc : Tryz.prog.cellsOf 24 = 1 := by kernel_rfl
  rw [run_equalIn_array w 9999 _ _ Tryz.underlying71 hi, hc, eqItems_nums a b w (List.range 32) (fun i hi => by rw [List.mem_range] at hi; omega)]
  congr 1
  rw [Bool.eq_iff_iff, List.all_eq_true, decide_eq_true_iff]
  constructor
  · intro h
    apply List.ext_getElem?
    intro i
    by_cases hi : i < 32
    · simpa using h i (List.mem_range.2 hi)
    · rw [List.getElem?_eq_none (by omega), List.getElem?_eq_none (by omega)]
  · rintro rfl i -
    simp
/-- What is kept of a list that is cut. -/
def keepL (l : List Nat) (q : Nat) : List Nat := l.take q ++ List.replicate (32 - q) 0
theorem keepL_length {l : List Nat} (hl : l.length = 32) {q : Nat} (hq : q ≤ 32) : (keepL l q).length = 32 := by
  unfold keepL; rw [List.length_append, List.length_take, List.length_replicate]; omega
theorem clear_none (t e ty : TypeId) (z : Value) (ht : Tryz.prog.underlying t = some (.slice e)) (hv : ∀ w, (zeroValue e).run Tryz.prog w = .ok z w) (a : Option Addr) (c : Nat) (w : World) :
    (Builtin.clear_ #[t] ty #[.slice a 0 c]).run Tryz.prog w = .ok (.tuple #[]) w := by
  cases a <;> simp [Builtin.clear_, run_underlying ht, hv]
theorem zero16 (w : World) : (zeroValue 24).run Tryz.prog w = .ok (w16 0) w := by
  obtain ⟨hz, -⟩ := zero_of_info (show (Tryz.prog.info? 24).map (fun i => (i.zero, i.size)) = some (some (.int .u16 0), 1) by kernel_rfl)
  exact hz w
/-- 'clear' of the cells from o on of a block of numbers. -/
theorem run_clear_nums (W : World) (g o n c : Nat) (t ty : TypeId) (cs : List Value) (h : W.heap[g]? = some (.cells cs.toArray t (0, 0))) (hl : cs.length = o + n) :
    ∃ W', (Builtin.clear_ #[37] ty #[.slice (some ⟨g, o, none⟩) n c]).run Tryz.prog W = .ok (.tuple #[]) W' ∧ W'.heap[g]? = some (.cells (cs.take o ++ List.replicate n (w16 0)).toArray t (0, 0)) ∧ (∀ k, k ≠ g → W'.heap[k]? = W.heap[k]?) ∧ ∀ m, m ≤ g → Below m W W' := by
  by_cases hn : n = 0
  · subst hn
    exact ⟨W, clear_none 37 24 ty (w16 0) Tryz.underlying37 zero16 _ _ _, by simpa [List.take_of_length_le (show cs.length ≤ o by omega)] using h, fun k _ => rfl, fun m _ => Below.refl _ _⟩
  · refine ⟨_, run_clear_slice W 37 24 ty (w16 0) Tryz.underlying37 zero16 rfl rfl g o n c (by omega) (fun j hj => ?_) (fun j hj => frozen_of_row W g _ _ _ h), ?_, fun k hk => other_setCells hk _ _ _, fun m hm => below_setCells g hm _ _ _ (Below.refl _ _)⟩
    · rw [cell_of_row W g (o + j) _ t (0, 0) h]; simp; omega
    · rw [setCells_heap g t _ o cs W h (by rw [List.length_replicate]; omega)]
      congr 3
      rw [List.length_replicate, List.drop_of_length_le (by omega), List.append_nil]
theorem lis_clear {W : World} {g : Nat} {l : List Nat} (h : LisAt W g l) (q : Nat) (hq : q ≤ 32) (o : Nat) (ho : q < 32 → o = q) (c : Nat) (ty : TypeId) :
    ∃ W', (Builtin.clear_ #[37] ty #[.slice (some ⟨g, o, none⟩) (32 - q) c]).run Tryz.prog W = .ok (.tuple #[]) W' ∧ LisAt W' g (keepL l q) ∧ (∀ k, k ≠ g → W'.heap[k]? = W.heap[k]?) ∧ ∀ m, m ≤ g → Below m W W' := by
  by_cases h32 : q = 32
  · subst h32
    exact ⟨W, clear_none 37 24 ty (w16 0) Tryz.underlying37 zero16 _ _ _, by unfold keepL; rw [List.take_of_length_le (by rw [h.2]; omega)]; simpa using h, fun k _ => rfl, fun m _ => Below.refl _ _⟩
  obtain rfl := ho (by omega)
  obtain ⟨W', h1, h2, h3, h4⟩ := run_clear_nums W g o (32 - o) c 71 ty (numV l) h.1 (by rw [numV_length, h.2]; omega)
  refine ⟨W', h1, ⟨?_, keepL_length h.2 hq⟩, h3, h4⟩
  rw [h2]
  congr 3
  unfold keepL
  rw [numV_append]
  congr 1
  · exact (List.map_take ..).symm
  · simp
/-- A slice of an array from q on. -/
theorem slice_lis (g q : Nat) (hq : q ≤ 32) : ∃ o, (q < 32 → o = q) ∧ ∀ W, (Instr.sliceAt 71 (.pointer (some ⟨g, 0, none⟩)) (some (.int .i64 (q : Int))) none none).run Tryz.prog W = .ok (.slice (some ⟨g, o, none⟩) (32 - q) (32 - q)) W := by
  refine ⟨if 32 = q then 0 else q, fun h => by rw [if_neg (by omega)], fun W => ?_⟩
  have hn : Tryz.prog.arrayLen 71 = 32 := by kernel_rfl
  have he : Tryz.prog.elem 71 = 24 := by kernel_rfl
  have z3 := Tryz.sizeOf24
  have h := run_sliceAt_array_l (P := Tryz.prog) W 71 ⟨g, 0, none⟩ (by rw [hn, he]; exact Tryz.underlying71) .i64 (q : Int) (by omega) (by rw [hn]; omega)
  rw [h, hn, he, z3]
  simp only [Result.andThen_ok, slicedAt, Int.toNat_natCast, Nat.mul_one]
  by_cases hq2 : 32 = q
  · rw [if_pos hq2, if_pos hq2]
  · rw [if_neg hq2, if_neg hq2]
    simp [Addr.add]; omega
end Go.Proofs.YtdddennhdbmolaaGreat
