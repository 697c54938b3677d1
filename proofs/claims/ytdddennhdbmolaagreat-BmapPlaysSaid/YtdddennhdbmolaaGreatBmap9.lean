/- Layer 9 (bmap): what an inode doesn't need. -/
import Derived.Test.YtdddennhdbmolaaGreatBmap8
namespace Go.Proofs.YtdddennhdbmolaaGreat
open Go.RowKit Go.Maps Go.Sort Go.Shelf Go.Lib
set_option linter.unusedVariables false
set_option linter.unusedSimpArgs false
set_option maxRecDepth 10000
attribute [local go_sem] Oper.semAt_some
set_option maxHeartbeats 1000000 in
theorem blocks_any9 (x : Im) (l : List Nat) (hl : l.length = 32) (w : World) : Calls Tryz.prog 50 #[x.v, lisV l] w fun e w' => e = .returned (.func (.func 74) #[] #[.pointer (some ⟨w.heap.size, 0, none⟩), .pointer (some ⟨w.heap.size + 1, 0, none⟩)]) ∧
    w' = (w.alloc (.cells #[.int .u8 x.k, w16 x.n, .int .u32 x.z, w16 x.d0, w16 x.d1, w16 x.d2, w16 x.d3, w16 x.i] 28)).alloc (.cells (numV l).toArray 71) := by
  go_enter Tryz.func50, Tryz.ntmps50
  go_wp2_with fail
  go_ret
  exact ⟨rfl, rfl⟩
/-- What a loop keeps that appends to the row in box B: of what was there only the box has turned; the row so far, of cells cs. -/
def GrowI (w : World) (B p : Nat) (t : TypeId) (len : Nat) (cs : List Value) (V : World) : Prop :=
  Only (fun k => k = B) w V ∧ ∃ v, V.cell? ⟨B, 0, none⟩ = some v ∧ V.frozen? ⟨B, 0, none⟩ = false ∧ V.ownsRow (w.heap.size + 2) t 1 v len cs ∧ ∀ k, v.ownBlock = some k → k ≠ p
section
variable {w : World} {B p : Nat} {t : TypeId} {len : Nat} {cs : List Value} {V : World}
theorem GrowI.below {W' : World} (h : GrowI w B p t len cs V) (hB : B < w.heap.size) (hb : Below V.heap.size V W') : GrowI w B p t len cs W' := by
  obtain ⟨h2, v, h3, h4, h5, h6⟩ := h
  have hBv : B < V.heap.size := Nat.lt_of_lt_of_le hB h2.size
  exact ⟨h2.trans (Only.of_below (S := fun k => k = B) hb) (fun _ e => .inl e), v, (cell_same 0 (hb.block B hBv)).trans h3, (World.frozen?_of_block (a := ⟨B, 0, none⟩) (hb.block B hBv)).trans h4,
    h5.kept (grown_of_below' hb none) (by cases hv : Value.ownBlock _ <;> simp), h6⟩
theorem GrowI.put (h : GrowI w B p t len cs V) (hB : B < w.heap.size) (l : Nat) (o : Obj) (hl : w.heap.size ≤ l) (hl2 : l ≤ w.heap.size + 1) : GrowI w B p t len cs (V.putObj l o) := by
  obtain ⟨h2, v, h3, h4, h5, h6⟩ := h
  have hk : ∀ k, k ≠ l → (V.putObj l o).heap[k]? = V.heap[k]? := fun k hk => World.putObj_heap_other hk
  refine ⟨⟨h2.os, h2.tape, h2.output, by simpa using h2.size, fun k hkl hS => (hk k (by omega)).trans (h2.block k hkl hS)⟩, v, (cell_same 0 (hk B (by omega))).trans h3, (World.frozen?_of_block (a := ⟨B, 0, none⟩) (hk B (by omega))).trans h4, ?_, h6⟩
  refine h5.kept (row := some l) ⟨rfl, rfl, rfl, by simp, fun k _ hne => hk k (by intro e; subst e; exact hne rfl)⟩ (.inr fun e => ?_)
  have := (h5.lt l e).1
  omega
theorem GrowI.at_ (h : GrowI w B p t len cs V) {k : Nat} (hk : k < w.heap.size) (hB : k ≠ B) : V.heap[k]? = w.heap[k]? := h.1.block k hk hB
end
/-- 'append' of numbers: the walk doesn't open it. -/
def numAppend (args : Array Value) : Sem Value := Builtin.append_ #[37, 37] 37 args
theorem num_append_fold (args : Array Value) : Builtin.append_ #[37, 37] 37 args = numAppend args := rfl
attribute [local go_sem ↓] num_append_fold
/-- Of these pairs the blocks that are needed only for more than q pages. -/
def freeL (q : Int) (ps : List (Nat × Nat)) : List Nat := (ps.filter fun r => decide (q ≤ (r.1 : Int))).map (·.2)
theorem freeL_succ (q : Int) (ps : List (Nat × Nat)) {j : Nat} (hj : j < ps.length) : freeL q (ps.take (j + 1)) = freeL q (ps.take j) ++ if q ≤ (ps[j].1 : Int) then [ps[j].2] else [] := by
  unfold freeL
  rw [List.take_succ_eq_append_getElem hj, List.filter_append, List.map_append]
  congr 1
  by_cases h : q ≤ (ps[j].1 : Int)
  · rw [if_pos h, List.filter_cons_of_pos (by simpa using h)]; rfl
  · rw [if_neg h, List.filter_cons_of_neg (by simpa using h)]; rfl
theorem freeL_length (q : Int) (ps : List (Nat × Nat)) (j : Nat) : (freeL q (ps.take j)).length ≤ j := by
  unfold freeL
  rw [List.length_map]
  refine Nat.le_trans (List.length_filter_le _ _) ?_
  rw [List.length_take]; omega
theorem prL_length (x : Im) (l : List Nat) (hl : l.length = 32) : (prL x l).length ≤ 37 := by
  unfold prL
  have := nzL_length 0 (x.dir ++ l)
  rw [List.length_append] at this ⊢
  have h4 : x.dir.length = 4 := rfl
  split <;> simp <;> omega
theorem blocks_in' (lp B C : Nat) (x : Im) (l : List Nat) (hlt : ∀ b ∈ l, b < 65536) (hxf : x.fits) (PL : List (Nat × Nat)) (hPL : prL x l = PL) (W : World) (hx : InoAt W B x) (hl : LisAt W C l)
    (J : Nat → Nat → World → Prop) (hJd : ∀ p j V, J p j V → InoAt V B x)
    (hstart : ∀ p W', Below W.heap.size W W' → W.heap.size ≤ p → p < W'.heap.size → J p 0 W')
    (hround : ∀ p j (hj : j < PL.length) W1, J p j W1 → YieldAt Fence.wide 6 Tryz.prog lp #[.int .i64 ((PL[j]).1 : Int), w16 (PL[j]).2] W1 fun e W' => e = .returned (.bool true) ∧ J p (j + 1) W' ∧ W'.heap[p]? = W1.heap[p]?) :
    CallsIn Fence.wide 7 Tryz.prog 74 #[.func (.yield lp) #[] #[], .pointer (some ⟨B, 0, none⟩), .pointer (some ⟨C, 0, none⟩)] W fun e W' => (∃ v, e = .returned v) ∧ ∃ p, J p PL.length W' := by
  subst hPL
  exact blocks_in lp B C x l hlt hxf W hx hl J hJd hstart hround
set_option maxRecDepth 100000 in
set_option maxHeartbeats 4000000 in
theorem spare_any (x : Im) (hxf : x.fits) (l : List Nat) (hl : l.length = 32) (hlt : ∀ b ∈ l, b < 65536) (q : Int) (w : World) :
    Calls Tryz.prog 29 #[x.v, lisV l, .int .i64 q] w fun e w' => ∃ v, e = .returned v ∧ U16s w' v (freeL q (prL x l)) ∧ (∀ k, v.ownBlock = some k → w.heap.size ≤ k) ∧ Below w.heap.size w w' := by
  obtain ⟨PL, hPL⟩ : ∃ PL, prL x l = PL := ⟨_, rfl⟩
  have hN := prL_length x l hl
  rw [hPL] at hN ⊢
  obtain ⟨W4, hW4⟩ : ∃ W4, ((((w.alloc (.cells #[.int .u8 x.k, w16 x.n, .int .u32 x.z, w16 x.d0, w16 x.d1, w16 x.d2, w16 x.d3, w16 x.i] 28)).alloc (.cells (numV l).toArray 71)).alloc (.cells #[.int .i64 q] 3)).alloc (.cells #[.slice none 0 0] 37)) = W4 := ⟨_, rfl⟩
  have hs4 : W4.heap.size = w.heap.size + 4 := by rw [← hW4]; simp
  have hb4 : Below w.heap.size w W4 := by
    rw [← hW4]; exact ((((Below.refl _ w).alloc (Nat.le_refl _) _).alloc (by simp) _).alloc (by simp; omega) _).alloc (by simp; omega) _
  have hlis : LisAt W4 (w.heap.size + 1) l := by
    rw [← hW4]
    refine ⟨?_, hl⟩
    rw [heap_alloc_old _ _ (by simp), heap_alloc_old _ _ (by simp)]
    simpa using heap_alloc_new (w.alloc (.cells #[.int .u8 x.k, w16 x.n, .int .u32 x.z, w16 x.d0, w16 x.d1, w16 x.d2, w16 x.d3, w16 x.i] 28)) (.cells (numV l).toArray 71)
  have hq4 : W4.heap[w.heap.size + 1 + 1]? = some (.cells #[.int .i64 q] 3 (0, 0)) := by
    rw [← hW4, heap_alloc_old _ _ (by simp)]
    simpa using heap_alloc_new ((w.alloc (.cells #[.int .u8 x.k, w16 x.n, .int .u32 x.z, w16 x.d0, w16 x.d1, w16 x.d2, w16 x.d3, w16 x.i] 28)).alloc (.cells (numV l).toArray 71)) (.cells #[.int .i64 q] 3)
  have hf4 : W4.heap[w.heap.size + 1 + 1 + 1]? = some (.cells #[.slice none 0 0] 37 (0, 0)) := by
    rw [← hW4]
    simpa using heap_alloc_new (((w.alloc (.cells #[.int .u8 x.k, w16 x.n, .int .u32 x.z, w16 x.d0, w16 x.d1, w16 x.d2, w16 x.d3, w16 x.i] 28)).alloc (.cells (numV l).toArray 71)).alloc (.cells #[.int .i64 q] 3)) (.cells #[.slice none 0 0] 37)
  have hld := lis_load hlis
  rw [← hW4] at hld
  refine (callsIn_wide (n := 8)).1 ?_
  refine callsIn_of_wp_marks Tryz.func29 rfl trivial ?_ rfl
  simp only [Tryz.ntmps29, List.size_toArray, List.length_cons, List.length_nil, Nat.reduceAdd, Nat.reduceSub, Array.replicate_succ, Array.replicate_zero, List.push_toArray, List.append_toArray, List.nil_append, List.cons_append]
  have HW4 := Lib.hid hW4
  clear hW4
  gi_wp2_with fail
  refine ⟨trivial, (callsIn_wide.2 (blocks_any9 x l hl _)).mono ?_⟩
  rintro e w2 ⟨rfl, rfl⟩
  rw [HW4.out]
  clear hld HW4 hlis
  gi_wp2_with fail
  obtain ⟨W0, hW0⟩ : ∃ W0, (W4.alloc (.cells #[.int .u8 x.k, w16 x.n, .int .u32 x.z, w16 x.d0, w16 x.d1, w16 x.d2, w16 x.d3, w16 x.i] 28)).alloc (.cells (numV l).toArray 71) = W0 := ⟨_, rfl⟩
  have hs0 : W0.heap.size = w.heap.size + 6 := by rw [← hW0]; simp; omega
  have hB40 : Below W4.heap.size W4 W0 := by rw [← hW0]; exact ((Below.refl _ W4).alloc (Nat.le_refl _) _).alloc (by simp) _
  have hB0 : Below w.heap.size w W0 := hb4.trans (hB40.mono (by omega))
  have hx0 : InoAt W0 (w.heap.size + 4) x := by
    rw [← hW0, ← hs4]; exact (heap_two W4 _ _).1
  have hl0 : LisAt W0 (w.heap.size + 4 + 1) l := by
    rw [← hW0, ← hs4]; exact ⟨(heap_two W4 _ _).2, hl⟩
  have hq0 : W0.heap[w.heap.size + 1 + 1]? = some (.cells #[.int .i64 q] 3 (0, 0)) := (hB40.block _ (by omega)).trans hq4
  have hf0 : W0.heap[w.heap.size + 1 + 1 + 1]? = some (.cells #[.slice none 0 0] 37 (0, 0)) := (hB40.block _ (by omega)).trans hf4
  rw [hW0]
  clear hW0 hB40 hb4 hq4 hf4
  have hBk : w.heap.size + 1 + 1 + 1 < W0.heap.size := by omega
  have h00 : ∀ p, GrowI W0 (w.heap.size + 1 + 1 + 1) p 24 0 [] W0 := fun p => ⟨Only.refl _ _, .slice none 0 0, cell_of_row _ _ 0 _ _ _ hf0, frozen_of_row _ _ 0 _ _ hf0, World.ownsRow_nil _ _ _ _, fun k hk => by cases hk⟩
  have hboxx : ∀ (p len : Nat) (cs : List Value) (V : World), GrowI W0 (w.heap.size + 1 + 1 + 1) p 24 len cs V → InoAt V (w.heap.size + 4) x := fun p len cs V h => (h.at_ (by omega) (by omega)).trans hx0
  have hboxl : ∀ (p len : Nat) (cs : List Value) (V : World), GrowI W0 (w.heap.size + 1 + 1 + 1) p 24 len cs V → LisAt V (w.heap.size + 4 + 1) l := fun p len cs V h => ⟨(h.at_ (by omega) (by omega)).trans hl0.1, hl⟩
  have hboxq : ∀ (p len : Nat) (cs : List Value) (V : World), GrowI W0 (w.heap.size + 1 + 1 + 1) p 24 len cs V → V.cell? ⟨w.heap.size + 1 + 1, 0, none⟩ = some (.int .i64 q) := fun p len cs V h => cell_of_row V _ 0 _ _ _ ((h.at_ (by omega) (by omega)).trans hq0)
  have HX := Lib.hid hboxx
  have HLb := Lib.hid hboxl
  have HQ := Lib.hid hboxq
  have hit := fun (lp : Nat) (W : World) (hx : InoAt W (w.heap.size + 4) x) (hl : LisAt W (w.heap.size + 4 + 1) l) J h1 h2 h3 => blocks_in' lp (w.heap.size + 4) (w.heap.size + 4 + 1) x l hlt hxf PL hPL W hx hl J h1 h2 h3
  have HIt := Lib.hid hit
  clear hPL hit hboxx hboxl hboxq hx0 hl0 hq0 hf0 hxf hlt
  refine range_told (n := 8) (by decide) (gf := 74) (lb := #[.pointer (some ⟨w.heap.size + 4, 0, none⟩), .pointer (some ⟨w.heap.size + 4 + 1, 0, none⟩)]) rfl (enters_of Tryz.func74 (by kernel_rfl) rfl) PL.length
    (fun j args V => args = #[.int .i64 ((PL.getD j (0, 0)).1 : Int), w16 (PL.getD j (0, 0)).2])
    (fun p j V => GrowI W0 (w.heap.size + 1 + 1 + 1) p 24 (freeL q (PL.take j)).length (numV (freeL q (PL.take j))) V) ?hit ?h0 ?hput
    (fun p j a' V => GrowI W0 (w.heap.size + 1 + 1 + 1) p 24 (freeL q (PL.take j)).length (numV (freeL q (PL.take j))) V ∧ a' = { tmps := #[x.v, lisV l, .int .i64 q, .pointer (some ⟨w.heap.size, 0, none⟩), .pointer (some ⟨w.heap.size + 1, 0, none⟩), .pointer (some ⟨w.heap.size + 1 + 1, 0, none⟩), .slice none 0 0, .pointer (some ⟨w.heap.size + 1 + 1 + 1, 0, none⟩), .int .i64 ((PL.getD j (0, 0)).1 : Int), w16 (PL.getD j (0, 0)).2, x.v, lisV l, .func (.func 74) #[] #[.pointer (some ⟨w.heap.size + 4, 0, none⟩), .pointer (some ⟨w.heap.size + 4 + 1, 0, none⟩)], .int .i64 ((PL.getD j (0, 0)).1 : Int), w16 (PL.getD j (0, 0)).2, undef, undef, undef, undef, undef, undef, undef, undef], defers := [] }) ?hAx ?hassign ?hbody ?hdone
  case hit =>
    intro lp J V hJI hst hrd hb
    have hG := (h00 0).below hBk hb
    exact HIt.out lp V (HX.out _ _ _ V hG) (HLb.out _ _ _ V hG) J (fun p j V' hJ => HX.out _ _ _ V' (hJI p j V' hJ)) hst (fun p j hj V' hJ => by
      have := hrd p j hj #[.int .i64 (PL[j].1 : Int), w16 PL[j].2] V' hJ (by rw [List.getD_eq_getElem?_getD, List.getElem?_eq_getElem hj]; rfl)
      exact this)
  case h0 =>
    intro p V hb _ _
    exact (h00 p).below hBk hb
  case hput =>
    intro p j V l o hl hl2 h
    exact h.put hBk l o hl hl2
  case hAx =>
    rintro p j a' V l o hl hl2 ⟨hD, rfl⟩
    exact ⟨hD.put hBk l o hl hl2, rfl⟩
  case hassign =>
    rintro lp p j args V hj hp1 hp2 hD rfl
    refine ⟨rfl, ?_⟩
    have HD := Lib.hid hD
    clear hD
    generalize PL.getD j (0, 0) = r
    gi_wp2_with fail
    exact ⟨KeepB.refl _ _ _, HD.out, trivial⟩
  case hbody =>
    rintro lp p j a' V hj hp1 hp2 ⟨hD, rfl⟩
    have hcq := HQ.out _ _ _ V hD
    have hts := freeL_succ q PL hj
    have hfl := freeL_length q PL j
    rw [show PL.getD j (0, 0) = PL[j] by rw [List.getD_eq_getElem?_getD, List.getElem?_eq_getElem hj]; rfl]
    have HT := Lib.hid hts
    clear hts
    generalize PL[j] = r at *
    obtain ⟨a, b⟩ := r
    simp only at HT
    generalize freeL q (PL.take j) = xs at *
    by_cases hqa : q ≤ (a : Int)
    · have ht2 := HT.out
      rw [if_pos hqa] at ht2
      have HT2 := Lib.hid ht2
      clear ht2 HT
      obtain ⟨ho, v, hc, hf, hw, hp⟩ := hD
      have hsz := ho.size
      obtain ⟨i, hi, hz, hsi, hby⟩ := info_parts num16Info
      obtain ⟨v', W2, hap, hown, hg, _, hor⟩ := run_append_own_at (P := Tryz.prog) (w := V.alloc (.cells #[w16 b] 24)) (W0.heap.size + 2) 37 37 24 i _ 1 2 Tryz.underlying37 hi hz hsi hby rfl (by decide) v xs.length _ (hw.alloc _) ⟨V.heap.size, 0, none⟩ 1 1 [w16 b] rfl (cell_one_new _ _ _) (by intro u hu; simp at hu; subst hu; rfl) (by unfold maxLen; omega) (by omega) (by simp; omega)
      obtain ⟨g', cap', rfl⟩ := ownsRow_succ hown
      have hvb : ∀ k, v.ownBlock = some k → W0.heap.size + 2 ≤ k ∧ k < V.heap.size := fun k hk => hw.lt k hk
      have hsz2 : V.heap.size + 1 ≤ W2.heap.size := by have := hg.size; simpa using this
      have hkeep : ∀ k, k < V.heap.size → v.ownBlock ≠ some k → W2.heap[k]? = V.heap[k]? := fun k hk hne => (hg.block k (by simp; omega) (fun e => hne e.symm)).trans (Below.heap_alloc V _ k hk)
      have hlow : ∀ k, k < W0.heap.size + 2 → W2.heap[k]? = V.heap[k]? := by
        intro k hk
        by_cases hkv : k < V.heap.size
        · exact hkeep k hkv (fun e => by have := hvb k e; omega)
        · exfalso; omega
      have hc2 : W2.cell? ⟨w.heap.size + 1 + 1 + 1, 0, none⟩ = some v := (cell_same 0 (hlow _ (by omega))).trans hc
      have hf2 : W2.frozen? ⟨w.heap.size + 1 + 1 + 1, 0, none⟩ = false := (World.frozen?_of_block (a := ⟨w.heap.size + 1 + 1 + 1, 0, none⟩) (hlow (w.heap.size + 1 + 1 + 1) (by omega))).trans hf
      have hset : ∀ k, k ≠ w.heap.size + 1 + 1 + 1 → (W2.setCell ⟨w.heap.size + 1 + 1 + 1, 0, none⟩ (.slice (some ⟨g', 0, none⟩) (xs.length + 1) cap')).heap[k]? = W2.heap[k]? := fun k hk => set_other _ _ _ _ _ hk
      have hfin : KeepB W0.heap.size p V (W2.setCell ⟨w.heap.size + 1 + 1 + 1, 0, none⟩ (.slice (some ⟨g', 0, none⟩) (xs.length + 1) cap')) ∧ GrowI W0 (w.heap.size + 1 + 1 + 1) p 24 (xs.length + 1) (numV xs ++ [w16 b]) (W2.setCell ⟨w.heap.size + 1 + 1 + 1, 0, none⟩ (.slice (some ⟨g', 0, none⟩) (xs.length + 1) cap')) := by
        refine ⟨⟨?_, ?_, ?_⟩, ?_, _, set_here _ hc2, by rw [World.frozen?_setCell]; exact hf2, ?_, ?_⟩
        · rw [hset _ (by omega)]; exact hlow _ (by omega)
        · rw [hset _ (by omega)]; exact hlow _ (by omega)
        · rw [hset _ (by omega)]; exact hkeep p hp2 (fun e => hp p e rfl)
        · refine ⟨hg.os.trans ho.os, hg.tape.trans ho.tape, hg.output.trans ho.output, by rw [set_size]; omega, fun k hk hn => ?_⟩
          rw [hset k hn, hlow k (by omega)]
          exact ho.block k hk hn
        · exact ownsRow_setCell_below hown (by show w.heap.size + 1 + 1 + 1 < _; omega) _
        · intro k hk
          rcases hor with e | e
          · rw [e] at hk; exact hp k hk
          · rw [e] at hk; cases hk; simp; omega
      have HF := Lib.hid hfin
      have hde : decide (q ≤ (a : Int)) = true := decide_eq_true hqa
      clear hfin hkeep hlow hset hvb hown hg hor hw hp ho hqa
      change (numAppend #[v, .slice (some ⟨V.heap.size, 0, none⟩) 1 1]).run Tryz.prog _ = _ at hap
      gi_wp2_with fail
      exact ⟨HF.out.1, by rw [HT2.out, numV_append, List.length_append]; exact HF.out.2⟩
    · have ht2 := HT.out
      rw [if_neg hqa, List.append_nil] at ht2
      have HT2 := Lib.hid ht2
      have HD := Lib.hid hD
      have hde : decide (q ≤ (a : Int)) = false := decide_eq_false hqa
      clear ht2 HT hD hqa
      gi_wp2_with fail
      exact ⟨KeepB.refl _ _ _, by rw [HT2.out]; exact HD.out⟩
  case hdone =>
    intro p V hD hK
    rw [List.take_length] at hD
    obtain ⟨ho2, v, hc, hf, hw, _⟩ := hD
    have hbl : Below w.heap.size W0 V := ho2.below (by omega) (fun k e => by omega)
    have HB := Lib.hid (hB0.trans hbl)
    have HW := Lib.hid hw
    clear hbl ho2 hw
    gi_wp2_with fail
    refine ⟨by simp, .inl ⟨_, _, rfl, run_takeDeferred hK, ?_⟩⟩
    have hne : ∀ k, k ≠ W0.heap.size → (V.putObj W0.heap.size (.deferred none)).heap[k]? = V.heap[k]? := fun k hk => World.putObj_heap_other hk
    refine ⟨_, results_tmp rfl _ _ _, v, rfl, ?_, fun k hk => by have := (HW.out.lt k hk).1; omega, ?_⟩
    · obtain ⟨A, cc, hv, hcells⟩ := u16s_own HW.out
      refine ⟨A, cc, hv, fun j n hu => ?_⟩
      obtain ⟨a, hA, hcell⟩ := hcells j n hu
      refine ⟨a, hA, ?_⟩
      subst hA
      have hgg := (HW.out.lt a.block (by rw [hv]; rfl)).1
      have e := World.cell?_of_block (a := a.add j) (w := V) (w' := V.putObj W0.heap.size (.deferred none)) (by rw [show (a.add j).block = a.block by unfold Addr.add; split <;> rfl]; exact hne _ (by omega))
      exact e.trans hcell
    · refine ⟨HB.out.os, HB.out.tape, HB.out.output, by rw [World.putObj_size]; exact HB.out.size, fun k hk => ?_⟩
      rw [hne k (by omega)]; exact HB.out.block k hk
end Go.Proofs.YtdddennhdbmolaaGreat
