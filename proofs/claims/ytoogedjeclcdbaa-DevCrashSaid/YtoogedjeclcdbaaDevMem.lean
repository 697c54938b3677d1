/- Rows of sectors in memory: what a slice of them holds, and one more behind it. -/
import Derived.Test.YtoogedjeclcdbaaDevMap
import Derived.Great.BuildSlice
namespace Go.Proofs.Ytoogedjeclcdbaa
open Go.RowKit Go.Maps
set_option linter.unusedVariables false
/-- Bytes as cells. -/
abbrev bc (l : List UInt8) : List Value := l.map fun b => Value.int .u8 (b.toNat : Int)
theorem bc_one (l : List UInt8) : ∀ v ∈ bc l, v.oneCell' = true := by
  intro v hv
  obtain ⟨b, _, rfl⟩ := List.mem_map.1 hv
  rfl
theorem bc_append (a b : List UInt8) : bc (a ++ b) = bc a ++ bc b := List.map_append
/-- A part of a range. -/
theorem range_part {W : World} {g o : Nat} {cs : List Value} (h : W.rangeAt g o cs) (k n : Nat) : W.rangeAt g (o + k) ((cs.drop k).take n) := by
  intro j v hj
  rw [List.getElem?_take] at hj
  split at hj
  · rw [List.getElem?_drop] at hj
    have := h (k + j) v hj
    rwa [← Nat.add_assoc] at this
  · cases hj
theorem range_take {W : World} {g o : Nat} {cs : List Value} (h : W.rangeAt g o cs) (n : Nat) : W.rangeAt g o (cs.take n) := by
  have := range_part h 0 n
  simpa using this
theorem range_drop {W : World} {g o : Nat} {cs : List Value} (h : W.rangeAt g o cs) (k : Nat) : W.rangeAt g (o + k) (cs.drop k) := by
  have := range_part h k cs.length
  rwa [List.take_of_length_le (by simp)] at this
theorem range_append {W : World} {g o : Nat} {a b : List Value} (h : W.rangeAt g o a) (k : W.rangeAt g (o + a.length) b) : W.rangeAt g o (a ++ b) := by
  intro j v hj
  by_cases hl : j < a.length
  · rw [List.getElem?_append_left hl] at hj
    exact h j v hj
  · rw [List.getElem?_append_right (by omega)] at hj
    have := k (j - a.length) v hj
    rwa [show o + a.length + (j - a.length) = o + j by omega] at this
theorem range_kept {W W' : World} {g o : Nat} {cs : List Value} (h : W.rangeAt g o cs) (hb : W'.heap[g]? = W.heap[g]?) : W'.rangeAt g o cs := fun j v hj =>
  (World.cell?_of_block (a := ⟨g, o + j, none⟩) hb).trans (h j v hj)
theorem there_kept {W W' : World} {g o n : Nat} (h : W.there g o n) (hb : W'.heap[g]? = W.heap[g]?) : W'.there g o n := fun j hj => by
  rw [World.cell?_of_block (a := ⟨g, o + j, none⟩) hb, World.frozen?_of_block (a := ⟨g, o + j, none⟩) hb]
  exact h j hj
theorem there_sub {W : World} {g o n : Nat} (h : W.there g o n) (k m : Nat) (hk : k + m ≤ n) : W.there g (o + k) m := fun j hj => by
  have := h (k + j) (by omega)
  rwa [← Nat.add_assoc] at this
theorem there_row {W : World} {g : Nat} {cs : Array Value} {e : TypeId} (h : W.heap[g]? = some (.cells cs e (0, 0))) : W.there g 0 cs.size := fun j hj => by
  rw [Nat.zero_add, cell_of_row W g j cs e (0, 0) h, frozen_of_row W g j cs e h]
  exact ⟨by rw [Array.getElem?_eq_getElem hj]; rfl, rfl⟩
theorem range_row {W : World} {g : Nat} {cs : Array Value} {l : List Value} {e : TypeId} (h : W.heap[g]? = some (.cells cs e (0, 0))) (hl : l <+: cs.toList) : W.rangeAt g 0 l := fun j v hj => by
  rw [Nat.zero_add, cell_of_row W g j cs e (0, 0) h]
  obtain ⟨r, hr⟩ := hl
  have : cs.toList[j]? = some v := by
    rw [← hr, List.getElem?_append_left (List.getElem?_eq_some_iff.1 hj).1]
    exact hj
  simpa using this
theorem range_block {W : World} {g o : Nat} {v : Value} {cs : List Value} (h : W.rangeAt g o (v :: cs)) : g < W.heap.size :=
  World.block_lt_of_cell? W ⟨g, o + 0, none⟩ (h 0 v rfl)
theorem setCells_grown (g : Nat) : ∀ (vs : List Value) (o : Nat) (W : World), W.grownBy (W.setCells g o vs) (some g)
  | [], _, W => ⟨rfl, rfl, rfl, Nat.le_refl _, fun _ _ _ => rfl⟩
  | v :: r, o, W => by
    have h := setCells_grown g r (o + 1) (W.setCell ⟨g, o, none⟩ v)
    exact ⟨h.os, h.tape, h.output, Nat.le_trans (by simp [World.setCell]) h.size, fun k hk hne => (h.block k (by simpa [World.setCell] using hk) hne).trans (Below.heap_setCell W ⟨g, o, none⟩ v k (fun e => hne (by rw [e])))⟩
/-- Lists of sectors. -/
theorem flat_len {ps : List (List UInt8)} (h : ∀ p ∈ ps, p.length = 64) : ps.flatten.length = ps.length * 64 := by
  induction ps with
  | nil => rfl
  | cons p r ih =>
    rw [List.flatten_cons, List.length_append, h p (by simp), ih (fun q hq => h q (by simp [hq]))]
    simp; omega
theorem flat_drop {ps : List (List UInt8)} (h : ∀ p ∈ ps, p.length = 64) (k : Nat) : ps.flatten.drop (k * 64) = (ps.drop k).flatten := by
  induction ps generalizing k with
  | nil => simp
  | cons p r ih =>
    cases k with
    | zero => simp
    | succ k =>
      rw [List.flatten_cons, List.drop_succ_cons, ← ih (fun q hq => h q (by simp [hq])) k, List.drop_append]
      have hp := h p (by simp)
      rw [List.drop_eq_nil_of_le (by omega), List.nil_append]
      congr 1
      omega
theorem flat_at {ps : List (List UInt8)} (h : ∀ p ∈ ps, p.length = 64) (k : Nat) (hk : k < ps.length) : (ps.flatten.drop (k * 64)).take 64 = ps[k] := by
  rw [flat_drop h, List.drop_eq_getElem_cons hk, List.flatten_cons]
  have hp := h ps[k] (List.getElem_mem hk)
  rw [List.take_append_of_le_length (by omega), List.take_of_length_le (by omega)]
/-- v is a slice of the sectors ps. -/
def RowAt (W : World) (v : Value) (ps : List (List UInt8)) : Prop :=
  ∃ g off cap, v = .slice (some ⟨g, off, none⟩) ps.length cap ∧ ps.length ≤ cap ∧ cap ≤ maxLen ∧ W.rangeAt g off (bc ps.flatten) ∧ W.there g off (cap * 64)
theorem RowAt.kept {W W' : World} {v : Value} {ps : List (List UInt8)} (h : RowAt W v ps) (hb : ∀ k, v.ownBlock = some k → W'.heap[k]? = W.heap[k]?) : RowAt W' v ps := by
  obtain ⟨g, off, cap, rfl, h1, h2, h3, h4⟩ := h
  have := hb g rfl
  exact ⟨g, off, cap, rfl, h1, h2, range_kept h3 this, there_kept h4 this⟩
theorem RowAt.own {W : World} {v : Value} {ps : List (List UInt8)} (h : RowAt W v ps) (hn : ps ≠ []) : ∃ k, v.ownBlock = some k ∧ k < W.heap.size := by
  obtain ⟨g, off, cap, rfl, h1, h2, h3, h4⟩ := h
  refine ⟨g, rfl, ?_⟩
  have hl : 0 < ps.length := List.length_pos_iff.2 hn
  obtain ⟨u, hu⟩ := Option.isSome_iff_exists.1 (h4 0 (by omega)).1
  exact World.block_lt_of_cell? W _ hu
/-- The k-th sector of a row lies at its address. -/
theorem RowAt.sector {W : World} {g off cap n : Nat} {ps : List (List UInt8)} (h : RowAt W (.slice (some ⟨g, off, none⟩) n cap) ps) (hl : ∀ p ∈ ps, p.length = 64) (k : Nat) (hk : k < ps.length) : W.rangeAt g (off + k * 64) (bc ps[k]) := by
  obtain ⟨g', off', cap', he, h1, h2, h3, h4⟩ := h
  cases he
  have := range_part h3 (k * 64) 64
  rwa [← List.map_drop, ← List.map_take, flat_at hl k hk] at this
/-- A row without its first k sectors. -/
theorem RowAt.drop {W : World} {g off cap n : Nat} {ps : List (List UInt8)} (h : RowAt W (.slice (some ⟨g, off, none⟩) n cap) ps) (hl : ∀ p ∈ ps, p.length = 64) (k : Nat) (hk : k ≤ ps.length) :
    RowAt W (.slice (some ⟨g, off + k * 64, none⟩) (n - k) (cap - k)) (ps.drop k) := by
  obtain ⟨g', off', cap', he, h1, h2, h3, h4⟩ := h
  cases he
  refine ⟨g, off + k * 64, cap - k, by rw [List.length_drop], by rw [List.length_drop]; omega, by omega, ?_, ?_⟩
  · have := range_drop h3 (k * 64)
    rwa [← List.map_drop, flat_drop hl] at this
  · exact there_sub h4 _ _ (by omega)
section
variable {P : Program}
theorem run_append_row {t ty e : TypeId} {z : Value} (ht : P.underlying t = some (.slice e)) (hinfo : (P.info? e).map (fun i => (i.zero, i.size, i.bytes)) = some (some z, 64, 64)) (hzs : z.cells.size = 64)
    (W : World) (v : Value) (ps : List (List UInt8)) (hv : (v = .slice none 0 0 ∧ ps = []) ∨ RowAt W v ps) (hl : ∀ p ∈ ps, p.length = 64) (a c : Nat) (s : List UInt8) (hs : s.length = 64) (hnew : W.rangeAt a 0 (bc s)) (hbig : ps.length ≤ 1099511627776) :
    ∃ v' W', (Builtin.append_ #[t, t] ty #[v, .slice (some ⟨a, 0, none⟩) 1 c]).run P W = .ok v' W' ∧ RowAt W' v' (ps ++ [s]) ∧ W.grownBy W' v.ownBlock ∧
      (v'.ownBlock = v.ownBlock ∨ ∃ g, v'.ownBlock = some g ∧ W.heap.size ≤ g) := by
  obtain ⟨i, hi, hz, hsz, hby⟩ := info_parts hinfo
  have hnl : (bc s).length = 1 * i.size := by rw [List.length_map, hs, hsz]
  have hnc : ∀ j u, (bc s)[j]? = some u → W.cell? ((⟨a, 0, none⟩ : Addr).add j) = some u := fun j u hu => by
    rw [Addr.add_lit]; exact hnew j u hu
  have hfl := flat_len hl
  have hps : (ps ++ [s]).flatten = ps.flatten ++ s := by simp
  -- a new block
  have grown : ∀ (olds : List Value) (cap : Nat), olds = bc ps.flatten → ps.length + 1 ≤ cap → cap ≤ maxLen →
      RowAt (W.drew.alloc (.cells (olds.toArray ++ (bc s).toArray ++ Builtin.zeroCells z.cells (cap - (ps.length + 1))) e)) (.slice (some ⟨W.heap.size, 0, none⟩) (ps.length + 1) cap) (ps ++ [s]) := by
    rintro olds cap rfl h1 h2
    have hg := heap_alloc_new W.drew (.cells ((bc ps.flatten).toArray ++ (bc s).toArray ++ Builtin.zeroCells z.cells (cap - (ps.length + 1))) e)
    refine ⟨W.heap.size, 0, cap, by simp, by simpa using h1, h2, range_row hg ?_, ?_⟩
    · rw [hps, bc_append]
      simp
    · have := there_row hg
      refine fun j hj => this j ?_
      simp only [Array.size_append, List.size_toArray, List.length_map, hfl, hs, size_zeroCells, hzs]
      omega
  have hgb : ∀ (cs : Array Value) (row : Option Nat), W.grownBy (W.drew.alloc (.cells cs e)) row := fun cs row => ⟨rfl, rfl, rfl, by simp, fun k hk _ => Below.heap_alloc W.drew _ k hk⟩
  rcases hv with ⟨rfl, rfl⟩ | hrow
  · have hr := run_append_nil (P := P) W t ty e i z ht hi hz ⟨a, 0, none⟩ 1 c (bc s) hnl hnc (by omega) (by omega) (by omega)
    have hg1 := grownCap_ge W 1 0 e
    have hg2 := grownCap_le_maxLen W 1 0 e (by unfold maxLen; omega)
    have := grown [] _ (by simp) hg1 hg2
    refine ⟨_, _, hr, ?_, hgb _ _, .inr ⟨_, rfl, Nat.le_refl _⟩⟩
    simpa using this
  · have hrow' := hrow
    obtain ⟨g, off, cap, rfl, h1, h2, h3, h4⟩ := hrow'
    by_cases hroom : ps.length + 1 ≤ cap
    · have hf := run_firstCells_some (P := P) W i.size 1 ⟨a, 0, none⟩ 1 c (bc s) hnl hnc
      have hth := there_sub h4 (ps.length * 64) 64 (by omega)
      have hth' : W.there g (off + ps.length * 64) (bc s).length := by rw [List.length_map, hs]; exact hth
      have hst := run_storeCells_cells (P := P) g (off + ps.length * 64) (bc s) 0 W (fun j hj => (hth' j hj).1) (fun j hj => (hth' j hj).2) (bc_one s)
      refine ⟨.slice (some ⟨g, off, none⟩) (ps.length + 1) cap, W.setCells g (off + ps.length * 64) (bc s), ?_, ⟨g, off, cap, by simp, by simpa using hroom, h2, ?_, World.there_setCells h4 _ _ _⟩, setCells_grown _ _ _ _, .inl rfl⟩
      · rw [hsz] at hf
        simp only [Nat.add_zero] at hst
        simp [Builtin.append_, run_underlying ht, sizeOf, typeInfo, hi, Builtin.lenOf, hroom, hf, Addr.add_lit, hst, hsz]
      · rw [hps, bc_append]
        refine range_append (World.rangeAt_setCells_apart h3 _ _ _ ?_) ?_
        · right; left; rw [List.length_map, hfl]; exact Nat.le_refl _
        · rw [List.length_map, hfl]
          exact World.rangeAt_setCells_same _ _ _ _ hth'
    · have hr := run_append_grow (P := P) W t ty e i z ht hi hz ⟨g, off, none⟩ ps.length cap (bc ps.flatten) (by rw [List.length_map, hfl, hsz])
        (fun j u hu => by rw [Addr.add_lit]; exact h3 j u hu) ⟨a, 0, none⟩ 1 c (bc s) hnl hnc (by omega) (by omega) (growslice_fits (by omega) (by rw [hby]; omega))
      have hg1 := grownCap_ge W (ps.length + 1) cap e
      have hg2 := grownCap_le_maxLen W (ps.length + 1) cap e (by unfold maxLen; omega)
      exact ⟨_, _, hr, grown _ _ rfl hg1 hg2, hgb _ _, .inr ⟨_, rfl, Nat.le_refl _⟩⟩
end
end Go.Proofs.Ytoogedjeclcdbaa
