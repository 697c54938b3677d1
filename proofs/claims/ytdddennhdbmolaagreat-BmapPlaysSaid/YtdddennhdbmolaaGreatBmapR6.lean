/- Layer 9 (bmap): numbers that are taken out of a row, one by one, into another one. -/
import Derived.Test.YtdddennhdbmolaaGreatBmapR5
namespace Go.Proofs.YtdddennhdbmolaaGreat
open Go.RowKit Go.Maps Go.Lib
set_option linter.unusedVariables false
set_option linter.unusedSimpArgs false
set_option maxRecDepth 10000
/-- A list of which what stands from a on, below k, is 0. -/
def zapL (l : List Nat) (a k : Nat) : List Nat := l.take a ++ List.replicate (k - a) 0 ++ l.drop k
theorem zapL_start (l : List Nat) (a : Nat) : zapL l a a = l := by unfold zapL; rw [Nat.sub_self]; simp
theorem zapL_length (l : List Nat) {a k : Nat} (hk : a ≤ k) (hl : k ≤ l.length) : (zapL l a k).length = l.length := by
  unfold zapL; simp; omega
theorem zapL_get (l : List Nat) {a k : Nat} (hk : a ≤ k) (hl : k < l.length) : (zapL l a k)[k]? = some l[k] := by
  unfold zapL
  rw [List.getElem?_append_right (by simp; omega)]
  have : (l.take a ++ List.replicate (k - a) 0).length = k := by simp; omega
  rw [this, Nat.sub_self, List.getElem?_drop]
  simp [hl]
theorem zapL_set (l : List Nat) {a k : Nat} (hk : a ≤ k) (hl : k < l.length) : (zapL l a k).set k 0 = zapL l a (k + 1) := by
  unfold zapL
  have hlen : (l.take a ++ List.replicate (k - a) 0).length = k := by simp; omega
  rw [List.set_append_right _ _ (by omega), hlen, Nat.sub_self, List.drop_eq_getElem_cons hl, List.set_cons_zero]
  rw [show k + 1 - a = (k - a) + 1 by omega, List.replicate_succ', ← List.append_assoc (l.take a), List.append_assoc _ [0]]
  rfl
/-- The numbers taken out so far. -/
def outL (l : List Nat) (a k : Nat) : List Nat := ((l.take k).drop a).filter fun b => b != 0
theorem outL_start (l : List Nat) (a : Nat) : outL l a a = [] := by unfold outL; rw [List.drop_of_length_le (by simp; omega)]; rfl
theorem outL_succ (l : List Nat) {a k : Nat} (hk : a ≤ k) (hl : k < l.length) : outL l a (k + 1) = outL l a k ++ if l[k] = 0 then [] else [l[k]] := by
  unfold outL
  rw [List.take_succ_eq_append_getElem hl, List.drop_append_of_le_length (by simp; omega), List.filter_append]
  congr 1
  by_cases h : l[k] = 0
  · rw [if_pos h, h]; rfl
  · rw [if_neg h, List.filter_cons_of_pos (by simpa using h)]; rfl
theorem outL_length (l : List Nat) (a k : Nat) : (outL l a k).length ≤ l.length := by
  unfold outL
  refine Nat.le_trans (List.length_filter_le _ _) ?_
  rw [List.length_drop, List.length_take]; omega
/-- A row of numbers at the head of block D, and a row of one's own, in blocks from n on; of the blocks below n only D has turned since w. -/
structure Zap (n : Nat) (w : World) (D : Nat) (t : TypeId) (cs : List Nat) (vf : Value) (fl : List Nat) (V : World) : Prop where
  row : ∃ cur, V.heap[D]? = some (.cells cur t (0, 0)) ∧ ∀ (j m : Nat), cs[j]? = some m → cur[j]? = some (w16 m)
  own : V.ownsRow n 24 1 vf fl.length (numV fl)
  os : V.os = w.os
  tape : V.tape = w.tape
  output : V.output = w.output
  size : w.heap.size ≤ V.heap.size
  low : ∀ k, k < n → k ≠ D → V.heap[k]? = w.heap[k]?
section
variable {w V : World} {n D : Nat} {t : TypeId} {cs fl : List Nat} {vf : Value}
theorem Zap.cell (h : Zap n w D t cs vf fl V) {j m : Nat} (hj : cs[j]? = some m) : V.cell? ⟨D, j, none⟩ = some (w16 m) ∧ V.frozen? ⟨D, j, none⟩ = false := by
  obtain ⟨cur, h1, h2⟩ := h.row
  exact ⟨by rw [cell_of_row V D j _ _ _ h1]; exact h2 j m hj, frozen_of_row V D j _ _ h1⟩
theorem Zap.zero (h : Zap n w D t cs vf fl V) (hD : D < n) {j : Nat} (hj : j < cs.length) : Zap n w D t (cs.set j 0) vf fl (V.setCell ⟨D, j, none⟩ (w16 0)) := by
  obtain ⟨cur, h1, h2⟩ := h.row
  refine ⟨⟨_, heap_setCell_same V D j _ _ _ h1, fun i m hi => ?_⟩, ?_, h.os, h.tape, h.output, by simpa [World.setCell] using h.size, fun k hk hne => (heap_setCell_other _ _ _ _ (by simpa using hne)).trans (h.low k hk hne)⟩
  · by_cases hij : j = i
    · subst hij
      rw [List.getElem?_set_self hj] at hi
      cases hi
      have hs : j < cur.size := (Array.getElem?_eq_some_iff.1 (h2 j _ (List.getElem?_eq_getElem hj))).1
      simp [hs]
    · rw [List.getElem?_set_ne hij] at hi
      rw [Array.getElem?_setIfInBounds_ne hij]
      exact h2 i m hi
  · refine h.own.kept (row := some D) ⟨rfl, rfl, rfl, by simp [World.setCell], fun k _ hne => heap_setCell_other _ _ _ _ (by intro e; exact hne (by rw [e]))⟩ ?_
    refine .inr fun e => ?_
    have := (h.own.lt D e).1
    omega
theorem Zap.app (h : Zap n w D t cs vf fl V) (hD : D < n) (hn : n ≤ w.heap.size) (hl : fl.length ≤ 1000) (b : Nat) :
    ∃ v' W', (numAppend #[vf, .slice (some ⟨V.heap.size, 0, none⟩) 1 1]).run Tryz.prog (V.alloc (.cells #[w16 b] 24)) = .ok v' W' ∧ Zap n w D t cs v' (fl ++ [b]) W' := by
  obtain ⟨i, hi, hz, hsi, hby⟩ := info_parts num16Info
  have hsz := h.size
  obtain ⟨v', W2, hap, hown, hg, _, hor⟩ := run_append_own_at (P := Tryz.prog) (w := V.alloc (.cells #[w16 b] 24)) n 37 37 24 i _ 1 2 Tryz.underlying37 hi hz hsi hby rfl (by decide) vf fl.length _ (h.own.alloc _) ⟨V.heap.size, 0, none⟩ 1 1 [w16 b] rfl (cell_one_new _ _ _) (by intro u hu; simp at hu; subst hu; rfl) (by unfold maxLen; omega) (by omega) (by simp; omega)
  have hkeep : ∀ k, k < V.heap.size → vf.ownBlock ≠ some k → W2.heap[k]? = V.heap[k]? := fun k hk hne => (hg.block k (by simp; omega) (fun e => hne e.symm)).trans (Below.heap_alloc V _ k hk)
  obtain ⟨cur, h1, h2⟩ := h.row
  have hDl : D < V.heap.size := (Array.getElem?_eq_some_iff.1 h1).1
  have hvb : ∀ k, vf.ownBlock = some k → n ≤ k := fun k hk => (h.own.lt k hk).1
  have hsz2 : V.heap.size ≤ W2.heap.size := by have := hg.size; simp at this; omega
  exact ⟨v', W2, hap, ⟨cur, (hkeep D hDl (fun e => by have := hvb D e; omega)).trans h1, h2⟩, by rw [numV_append, List.length_append]; exact hown, hg.os.trans h.os, hg.tape.trans h.tape, hg.output.trans h.output, by omega,
    fun k hk hne => (hkeep k (by omega) (fun e => by have := hvb k e; omega)).trans (h.low k hk hne)⟩
/-- The row is another one from here on. -/
theorem Zap.turn {D' : Nat} {t' : TypeId} {cs' : List Nat} {V' : World} (h : Zap n w D t cs vf fl V) (hr : ∃ cur, V'.heap[D']? = some (.cells cur t' (0, 0)) ∧ ∀ (j m : Nat), cs'[j]? = some m → cur[j]? = some (w16 m))
    (ho : ∀ k, n ≤ k → k < V.heap.size → V'.heap[k]? = V.heap[k]?) : Zap n V' D' t' cs' vf fl V' := by
  refine ⟨hr, ⟨h.own.1, ?_⟩, rfl, rfl, rfl, Nat.le_refl _, fun k _ _ => rfl⟩
  rcases h.own.2 with hn | ⟨g, cap, cur, hv, hb, hg, hrest⟩
  · exact .inl hn
  · exact .inr ⟨g, cap, cur, hv, hb, (ho g hb (Array.getElem?_eq_some_iff.1 hg).1).trans hg, hrest⟩
end
theorem zapL_keep {l : List Nat} (hl : l.length = 32) (a : Nat) : zapL l a 32 = keepL l a := by
  unfold zapL keepL
  rw [List.drop_of_length_le (by omega), List.append_nil]
theorem filter_nil {l : List Nat} : (l.filter fun b => b != 0) = [] ↔ l = List.replicate l.length 0 := by
  rw [List.filter_eq_nil_iff, List.eq_replicate_iff]
  simp
theorem outL_nil {l : List Nat} (hl : l.length = 32) {a : Nat} (ha : a ≤ 32) : outL l a 32 = [] ↔ keepL l a = l := by
  unfold outL keepL
  rw [List.take_of_length_le (by omega), filter_nil, List.length_drop, hl]
  constructor
  · intro h
    conv => rhs; rw [← List.take_append_drop a l, h]
  · intro h
    have h2 : l.take a ++ List.replicate (32 - a) 0 = l.take a ++ l.drop a := by rw [List.take_append_drop]; exact h
    exact (List.append_cancel_left h2).symm
theorem out_all (x : Im) {l : List Nat} (hl : l.length = 32) {p k : Nat} (hpk : p ≤ k) (hk : k ≤ 4 ∨ k = p) (hk4 : 4 ≤ k) : outL x.dir p k ++ outL l (p - 4) 32 = ((x.dir ++ l).drop p).filter fun b => b != 0 := by
  unfold outL
  rw [← List.filter_append]
  congr 1
  have h4 : x.dir.length = 4 := rfl
  rw [List.take_of_length_le (l := x.dir) (by omega), List.take_of_length_le (l := l) (by omega), List.drop_append, h4]
theorem cut_dirs (x : Im) {p : Nat} (hp : p ≤ 4) {d0 d1 d2 d3 : Nat} (h : zapL x.dir p 4 = [d0, d1, d2, d3]) : (⟨x.k, x.n, x.z, d0, d1, d2, d3, 0⟩ : Im) = x.cut p := by
  match p, hp with
  | 0, _ => injection h with a h; injection h with b h; injection h with c h; injection h with d h; subst a b c d; rfl
  | 1, _ => injection h with a h; injection h with b h; injection h with c h; injection h with d h; subst a b c d; rfl
  | 2, _ => injection h with a h; injection h with b h; injection h with c h; injection h with d h; subst a b c d; rfl
  | 3, _ => injection h with a h; injection h with b h; injection h with c h; injection h with d h; subst a b c d; rfl
  | 4, _ => injection h with a h; injection h with b h; injection h with c h; injection h with d h; subst a b c d; rfl
theorem keep_dirs (x : Im) {p d0 d1 d2 d3 : Nat} (h : zapL x.dir p p = [d0, d1, d2, d3]) : (⟨x.k, x.n, x.z, d0, d1, d2, d3, x.i⟩ : Im) = x := by
  rw [zapL_start] at h
  injection h with a h; injection h with b h; injection h with c h; injection h with d h
  subst a b c d; rfl
end Go.Proofs.YtdddennhdbmolaaGreat
