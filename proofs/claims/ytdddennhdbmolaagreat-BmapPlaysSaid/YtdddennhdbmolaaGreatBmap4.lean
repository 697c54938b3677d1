/- Layer 9 (bmap): the indirect block's numbers as an array; read. -/
import Derived.Test.YtdddennhdbmolaaGreatM18
import Derived.Test.YtdddennhdbmolaaGreatBmap3
import Derived.Lib.SliceRun
namespace Go.Proofs.YtdddennhdbmolaaGreat
open Go.RowKit Go.Lib
set_option linter.unusedVariables false
set_option linter.unusedSimpArgs false
set_option maxRecDepth 10000
/-! The array that lists an indirect block's numbers: 32 cells, by value. -/
theorem lisInfo : (Tryz.prog.info? 71).map (fun i => (i.zero, i.size, i.bytes)) = some (some (.agg (numV (List.replicate 32 0)).toArray), 32, 64) := by kernel_rfl
theorem lisInfo2 : (Tryz.prog.info? 71).map (fun i => (i.zero, i.size)) = some (some (.agg (numV (List.replicate 32 0)).toArray), 32) := by kernel_rfl
abbrev lisV (l : List Nat) : Value := .agg (numV l).toArray
/-- Block g is the array l. -/
def LisAt (W : World) (g : Nat) (l : List Nat) : Prop := W.heap[g]? = some (.cells (numV l).toArray 71 (0, 0)) ∧ l.length = 32
theorem LisAt.lt {W : World} {g : Nat} {l : List Nat} (h : LisAt W g l) : g < W.heap.size := (Array.getElem?_eq_some_iff.1 h.1).1
theorem LisAt.below {W W' : World} {g n : Nat} {l : List Nat} (h : LisAt W g l) (hb : Below n W W') (hg : g < n) : LisAt W' g l := ⟨(hb.block g hg).trans h.1, h.2⟩
theorem LisAt.cell {W : World} {g : Nat} {l : List Nat} (h : LisAt W g l) {j n : Nat} (hj : l[j]? = some n) : W.cell? ⟨g, j, none⟩ = some (w16 n) := by
  rw [cell_of_row W g j _ _ _ h.1]; simpa using numV_at hj
def lisLoad (x : Value) : Sem Value := Instr.loadAt 71 x
def lisStore (x v : Value) : Sem Unit := Instr.storeAt 71 x v
@[go_sem ↓] theorem lis_load_fold (x : Value) : Instr.loadAt 71 x = lisLoad x := rfl
@[go_sem ↓] theorem lis_store_fold (x v : Value) : Instr.storeAt 71 x v = lisStore x v := rfl
theorem lis_load {W : World} {g : Nat} {l : List Nat} (h : LisAt W g l) : (lisLoad (.pointer (some ⟨g, 0, none⟩))).run Tryz.prog W = .ok (lisV l) W := by
  have hl := run_loadVar_row (P := Tryz.prog) W g 71 71 _ (0, 0) _ h.1 Tryz.underlying71 rfl (by rw [List.size_toArray, numV_length, h.2]; kernel_rfl)
  unfold lisLoad
  simp only [Instr.loadAt, Instr.sureAddr, Sem.run_bind, Sem.run_pure, Result.andThen_ok, hl]
theorem numV_all (l : List Nat) : (numV l).toArray.all (·.oneCell') = true := by
  rw [Array.all_eq_true_iff_forall_mem]
  intro v hv
  exact numV_one l v (by simpa using hv)
theorem lis_var {W : World} {g : Nat} {l : List Nat} (h : LisAt W g l) : (loadVar 71 ⟨g, 0, none⟩).run Tryz.prog W = .ok (lisV l) W :=
  run_loadVar_row (P := Tryz.prog) W g 71 71 _ (0, 0) _ h.1 Tryz.underlying71 rfl (by rw [List.size_toArray, numV_length, h.2]; kernel_rfl)
theorem lis_store {W : World} {g : Nat} {l old : List Nat} (h : LisAt W g old) (hl : l.length = 32) :
    ∃ W', (lisStore (.pointer (some ⟨g, 0, none⟩)) (lisV l)).run Tryz.prog W = .ok () W' ∧ LisAt W' g l ∧ (∀ k, k ≠ g → W'.heap[k]? = W.heap[k]?) ∧ ∀ n, n ≤ g → Below n W W' := by
  have hst := run_storeCells_row (P := Tryz.prog) W g 71 _ (numV l) h.1 (by simp [h.2, hl]) (numV_all l)
  have sz := Tryz.sizeOf71
  refine ⟨W.setRow g (numV l).toArray, ?_, ⟨setRow_heap W g _ _ _ _ h.1, hl⟩, fun k hk => ?_, fun n hn => below_setRow (Below.refl _ _) g hn _⟩
  · unfold lisStore
    simp only [Instr.storeAt, Instr.sureAddr, Sem.run_bind, Sem.run_pure, Result.andThen_ok]
    unfold storeVar
    simp only [Sem.run_bind, sz, Result.andThen_ok, Value.cells]
    simpa [hl] using hst
  · simp only [World.setRow, Array.getElem?_modify]
    rw [if_neg (fun e => hk e.symm)]
theorem lis_alloc (W : World) (l : List Nat) (hl : l.length = 32) : LisAt (W.alloc (.cells (numV l).toArray 71)) W.heap.size l := ⟨heap_alloc_new W _, hl⟩
set_option maxHeartbeats 1000000 in
theorem bread_zero (t : Value) (i b j : Int) (w : World) :
    Calls Tryz.prog 27 #[t, geoV i b j, .int .u16 0] w fun e w' => e = .returned (.tuple #[lisV (List.replicate 32 0), .int .i64 0]) ∧ Below w.heap.size w w' := by
  obtain ⟨hz, hsz⟩ := zero_of_info lisInfo2
  have Hsz := Lib.hid hsz
  clear hsz
  have h32 : (List.replicate 32 0).length = 32 := rfl
  generalize List.replicate 32 0 = Z at *
  have hA : LisAt (((w.alloc (.cells #[.int .i64 i, .int .i64 b, .int .i64 j] 23)).alloc (.cells (numV Z).toArray 71)).alloc (.cells (numV Z).toArray 71)) (w.heap.size + 1) Z := by
    have := (heap_two (w.alloc (.cells #[.int .i64 i, .int .i64 b, .int .i64 j] 23)) (.cells (numV Z).toArray 71) (.cells (numV Z).toArray 71)).1
    exact ⟨by simpa using this, h32⟩
  have hB : LisAt (((w.alloc (.cells #[.int .i64 i, .int .i64 b, .int .i64 j] 23)).alloc (.cells (numV Z).toArray 71)).alloc (.cells (numV Z).toArray 71)) (w.heap.size + 1 + 1) Z := by
    have := (heap_two (w.alloc (.cells #[.int .i64 i, .int .i64 b, .int .i64 j] 23)) (.cells (numV Z).toArray 71) (.cells (numV Z).toArray 71)).2
    exact ⟨by simpa using this, h32⟩
  have hbel : Below w.heap.size w (((w.alloc (.cells #[.int .i64 i, .int .i64 b, .int .i64 j] 23)).alloc (.cells (numV Z).toArray 71)).alloc (.cells (numV Z).toArray 71)) := (((Below.refl _ w).alloc (Nat.le_refl _) _).alloc (by simp) _).alloc (by simp; omega) _
  have hl := lis_load hB
  obtain ⟨W2, hs, hr, -, hb2⟩ := lis_store hA h32
  have HR := Lib.hid hr
  have HB := Lib.hid (hbel.trans (hb2 w.heap.size (by omega)))
  clear hA hB hbel hr hb2
  go_enter Tryz.func27, Tryz.ntmps27
  go_wp2_with fail
  refine bodyPost_ret (v := .tuple #[lisV Z, .int .i64 0]) ?_ rfl ⟨rfl, HB.out⟩
  exact results_row_tmp (p := 6) (q := 7) rfl _ _ (w.heap.size + 1) _ rfl (lis_var HR.out)
/-- Cells that are written in the midst of a block. -/
theorem setCells_heap (g : Nat) (e : TypeId) : ∀ (vs : List Value) (o : Nat) (cs : List Value) (W : World), W.heap[g]? = some (.cells cs.toArray e (0, 0)) → o + vs.length ≤ cs.length →
    (W.setCells g o vs).heap[g]? = some (.cells (cs.take o ++ vs ++ cs.drop (o + vs.length)).toArray e (0, 0))
  | [], o, cs, W, h, _ => by simpa [World.setCells] using h
  | v :: r, o, cs, W, h, hl => by
    simp only [List.length_cons] at hl
    have h1 : (W.setCell ⟨g, o, none⟩ v).heap[g]? = some (.cells (cs.set o v).toArray e (0, 0)) := by
      rw [heap_setCell_same W g o _ e v h]; simp
    rw [World.setCells, setCells_heap g e r (o + 1) (cs.set o v) _ h1 (by rw [List.length_set]; omega)]
    congr 3
    have ho : o < cs.length := by omega
    rw [List.take_succ_eq_append_getElem (by rw [List.length_set]; exact ho), List.getElem_set_self, List.take_set_of_le (Nat.le_refl o), List.drop_set_of_lt (by omega)]
    rw [show o + 1 + r.length = o + (v :: r).length by rw [List.length_cons]; omega]
    simp
theorem other_setCells {g k : Nat} (hk : k ≠ g) : ∀ (vs : List Value) (o : Nat) (W : World), (W.setCells g o vs).heap[k]? = W.heap[k]?
  | [], _, _ => rfl
  | v :: r, o, W => by rw [World.setCells, other_setCells hk r (o + 1), heap_setCell_other _ _ _ _ (by simpa using hk)]
theorem below_setCells {n : Nat} {a : World} (g : Nat) (hg : n ≤ g) : ∀ (vs : List Value) (o : Nat) (W : World), Below n a W → Below n a (W.setCells g o vs)
  | [], _, _, h => h
  | v :: r, o, W, h => below_setCells g hg r (o + 1) _ (h.setCell hg v)
theorem lis_copy {W : World} {g : Nat} {l old : List Nat} (h : LisAt W g old) (a : Addr) (c : Nat) (hl : l.length = 32) (hs : ∀ (j n : Nat), l[j]? = some n → W.cell? (a.add j) = some (w16 n)) :
    ∃ W', (Builtin.copy_ #[37, 37] 3 #[.slice (some ⟨g, 0, none⟩) 32 32, .slice (some a) l.length c]).run Tryz.prog W = .ok (goInt 32) W' ∧ LisAt W' g l ∧ (∀ k, k ≠ g → W'.heap[k]? = W.heap[k]?) ∧ ∀ n, n ≤ g → Below n W W' := by
  have hsz : old.length = 32 := h.2
  have hlen : (numV l).length = 32 := by rw [numV_length, hl]
  have hrun := run_copy_cells W 37 37 3 24 g 0 32 32 a l.length c (numV l) Tryz.underlying37 (by kernel_rfl) (by rw [numV_length, hl]; rfl)
    (fun j v hj => by
      rw [List.getElem?_map, Option.map_eq_some_iff] at hj
      obtain ⟨n, hn, rfl⟩ := hj
      exact hs j n hn)
    (fun j hj => by
      rw [cell_of_row W g (0 + j) _ _ (0, 0) h.1]
      rw [numV_length, hl] at hj
      simp; omega)
    (fun j hj => frozen_of_row W g _ _ _ h.1) (numV_one l)
  rw [hlen] at hrun
  have hh := setCells_heap g 71 (numV l) 0 (numV old) W h.1 (by rw [hlen, numV_length, hsz]; omega)
  refine ⟨_, hrun, ⟨?_, hl⟩, fun k hk => ?_, fun n hn => below_setCells g hn _ _ _ (Below.refl _ _)⟩
  · rw [hh]
    congr 3
    simp [hl, hsz]
  · exact other_setCells hk _ _ _
/-- The sector of a block. -/
def secB (G : Gm) (k : Nat) : Nat := G.off 5 + (k - 1)
set_option maxHeartbeats 1000000 in
theorem bread_ok (t : Value) (G : Gm) (hG : G.ok) (k : Nat) (h1 : 1 ≤ k) (h2 : k ≤ G.b) (s : List UInt8) (hs : s.length = 64) (w : World)
    (hR : ∀ V, Below w.heap.size w V → Calls Tryz.prog 47 #[t, .int .i64 ((secB G k : Nat) : Int)] V fun e w' => e = .returned (.tuple #[str s, .int .i64 0]) ∧ Below V.heap.size V w') :
    Calls Tryz.prog 27 #[t, gv G, w16 k] w fun e w' => e = .returned (.tuple #[lisV (numsL s), .int .i64 0]) ∧ Below w.heap.size w w' := by
  have hb5 : G.b ≤ 1024 := hG.2.1.2
  have HBl := Lib.hid fun W => block_ok G (k - 1) (k : Int) (by omega) W hG (by omega)
  have hsec : G.off 5 + (k - 1) = secB G k := rfl
  rw [hsec] at HBl
  have HT := Lib.hid fun W => told_ok s W hs
  have h32 : (numsL s).length = 32 := by rw [numsL_length, hs]
  have HR := Lib.hid hR
  have hne : ((k : Int) == 0) = false := by simp; omega
  clear hR hsec hs
  obtain ⟨hz, hsz⟩ := zero_of_info lisInfo2
  have Hsz := Lib.hid hsz
  clear hsz
  have hZ32 : (List.replicate 32 0).length = 32 := rfl
  generalize numsL s = l at *
  generalize List.replicate 32 0 = Z at *
  generalize secB G k = sc at *
  have hA : LisAt (((w.alloc (.cells #[.int .i64 G.i, .int .i64 G.b, .int .i64 G.j] 23)).alloc (.cells (numV Z).toArray 71)).alloc (.cells (numV Z).toArray 71)) (w.heap.size + 1) Z := by
    have := (heap_two (w.alloc (.cells #[.int .i64 G.i, .int .i64 G.b, .int .i64 G.j] 23)) (.cells (numV Z).toArray 71) (.cells (numV Z).toArray 71)).1
    exact ⟨by simpa using this, hZ32⟩
  have hB : LisAt (((w.alloc (.cells #[.int .i64 G.i, .int .i64 G.b, .int .i64 G.j] 23)).alloc (.cells (numV Z).toArray 71)).alloc (.cells (numV Z).toArray 71)) (w.heap.size + 1 + 1) Z := by
    have := (heap_two (w.alloc (.cells #[.int .i64 G.i, .int .i64 G.b, .int .i64 G.j] 23)) (.cells (numV Z).toArray 71) (.cells (numV Z).toArray 71)).2
    exact ⟨by simpa using this, hZ32⟩
  have hbel : Below w.heap.size w (((w.alloc (.cells #[.int .i64 G.i, .int .i64 G.b, .int .i64 G.j] 23)).alloc (.cells (numV Z).toArray 71)).alloc (.cells (numV Z).toArray 71)) := (((Below.refl _ w).alloc (Nat.le_refl _) _).alloc (by simp) _).alloc (by simp; omega) _
  have HA := Lib.hid hA
  have HB := Lib.hid hB
  have HW := Lib.hid hbel
  clear hA hB hbel
  go_enter Tryz.func27, Tryz.ntmps27
  go_wp2_with fail
  generalize hW : (((w.alloc (.cells #[.int .i64 G.i, .int .i64 G.b, .int .i64 G.j] 23)).alloc (.cells (numV Z).toArray 71)).alloc (.cells (numV Z).toArray 71)) = W0 at *
  clear hW
  refine (HBl.out _).mono ?_
  rintro e w1 ⟨rfl, hb⟩
  have HA1 := Lib.hid (HA.out.below hb HA.out.lt)
  have HB1 := Lib.hid (HB.out.below hb HB.out.lt)
  have HW1 := Lib.hid (HW.out.trans (hb.mono HW.out.size))
  clear hb HA HB HW HBl
  go_wp2_with fail
  refine (HR.out _ HW1.out).mono ?_
  rintro e w2 ⟨rfl, hb⟩
  have HA2 := Lib.hid (HA1.out.below hb HA1.out.lt)
  have HB2 := Lib.hid (HB1.out.below hb HB1.out.lt)
  have HW2 := Lib.hid (HW1.out.trans (hb.mono HW1.out.size))
  clear hb HA1 HB1 HW1 HR
  go_wp2_with fail
  refine (HT.out _).mono ?_
  rintro e w3 ⟨v, rfl, hu, hb⟩
  have hA3 := HA2.out.below hb HA2.out.lt
  have hB3 := HB2.out.below hb HB2.out.lt
  have HW3 := Lib.hid (HW2.out.trans (hb.mono HW2.out.size))
  clear hb HA2 HB2 HW2 HT
  obtain ⟨A, c, rfl, hc⟩ := hu
  obtain ⟨a, rfl⟩ : ∃ a, A = some a := by
    obtain ⟨n, hn⟩ : ∃ n, l[0]? = some n := ⟨l[0]'(by omega), List.getElem?_eq_getElem (by omega)⟩
    obtain ⟨a, e, -⟩ := hc 0 n hn
    exact ⟨a, e⟩
  obtain ⟨w4, hcp, hB4, ho4, hb4⟩ := lis_copy hB3 a c h32 (fun j n hj => by obtain ⟨a', e, h⟩ := hc j n hj; cases e; exact h)
  rw [h32] at hcp
  have hA4 : LisAt w4 (w.heap.size + 1) Z := ⟨(ho4 _ (by omega)).trans hA3.1, hA3.2⟩
  have hl := lis_load hB4
  obtain ⟨w5, hs, hr, -, hb5'⟩ := lis_store hA4 h32
  have HRes := Lib.hid hr
  have HW5 := Lib.hid ((HW3.out.trans (hb4 w.heap.size (by omega))).trans (hb5' w.heap.size (by omega)))
  clear hc hA3 hB3 hA4 hB4 ho4 hb4 hb5' hr HW3
  go_wp2_with fail
  refine bodyPost_ret (v := .tuple #[lisV l, .int .i64 0]) ?_ rfl ⟨rfl, HW5.out⟩
  exact results_row_tmp (p := 6) (q := 7) rfl _ _ (w.heap.size + 1) _ rfl (lis_var HRes.out)
end Go.Proofs.YtdddennhdbmolaaGreat
