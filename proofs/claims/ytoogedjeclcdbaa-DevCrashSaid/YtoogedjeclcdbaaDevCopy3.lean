/- Layer 3 (dev): what the rounds of Copy keep. -/
import Derived.Test.YtoogedjeclcdbaaDevCopy1
import Derived.Test.YtoogedjeclcdbaaDev10
namespace Go.Proofs.Ytoogedjeclcdbaa
open Go.RowKit Go.Maps
set_option linter.unusedVariables false
theorem IMap.empty {P : Program} {k : TypeId} {W : World} {m n : Nat} (h : W.heap[m]? = some (.map #[] 0)) : IMap P k W m n (fun _ => none) := by
  obtain ⟨D0, ⟨es, c, hb, Ft, hs, hD⟩, hhas, hval⟩ := IMap.made W P k n
  rw [heap_new W _ _ rfl] at hb
  cases hb
  exact ⟨D0, ⟨#[], 0, h, Ft, hs, hD⟩, hhas, hval⟩
/-- M with the cached writes of xs alone. -/
def Dv.only (M : Dv) (xs : List Nat) : Dv := { M with row := fun i => if i ∈ xs then M.row i else [] }
theorem Dv.only_all {M : Dv} (h : Fine M) : M.only M.loose = M := by
  unfold Dv.only
  have : (fun i => if i ∈ M.loose then M.row i else []) = M.row := by
    funext i
    by_cases hr : M.row i = []
    · simp [hr]
    · rw [if_pos (Dv.mem_loose.2 ⟨h.out i hr, hr⟩)]
  rw [this]
theorem Dv.only_next (M : Dv) (j : Nat) (hj : j < M.loose.length) : upd (M.only (M.loose.take j)).row M.loose[j] (M.row M.loose[j]) = (M.only (M.loose.take (j + 1))).row := by
  funext i
  by_cases e : i = M.loose[j]
  · subst e
    simp only [upd_same, Dv.only, mem_take_succ j hj, or_true, if_true]
  · rw [upd_other _ _ e]
    simp only [Dv.only, mem_take_succ j hj, e, or_false]
theorem new_none {X : World} {nb g' cap' m' : Nat} {M : Dv} (hf : Fine M) (hh : Head X nb g' cap' m' M.n M.wr M.left M.down) (hr : RowAt X (.slice (some ⟨g', 0, none⟩) M.n cap') ((List.range M.n).map M.dur)) (hm : X.heap[m']? = some (.map #[] 0))
    (n1 : nb ≠ g') (n2 : nb ≠ m') (n3 : g' ≠ m') (lg : g' < X.heap.size) (lm : m' < X.heap.size) (lb : nb < X.heap.size) : DevIn (fun k => k = nb ∨ k = g' ∨ k = m') X nb g' cap' m' (fun _ => .slice none 0 0) (M.only []) := by
  have hno : ∀ k, ¬ Rk (M.only []).row (fun _ => Value.slice none 0 0) k := fun k ⟨i, hi, _⟩ => hi (by simp [Dv.only])
  have hl : ∀ q ∈ (List.range M.n).map M.dur, q.length = 64 := fun q hq => by
    obtain ⟨i, hi, rfl⟩ := List.mem_map.1 hq
    exact hf.dur i (List.mem_range.1 hi)
  have hr' := hr
  obtain ⟨g2, off2, c2, he, h1, h2, h3, h4⟩ := hr'
  injection he with e1 e2 e3
  injection e1 with e1
  injection e1 with e1 e4
  subst e1 e3 e4
  simp only [List.length_map, List.length_range] at h1
  exact {
    fine := { n := hf.n, dur := hf.dur, row := fun i p hp => by simp [Dv.only] at hp, out := fun i hi => absurd (by simp [Dv.only]) hi, rows := fun i => by simp [Dv.only], left := hf.left }
    head := hh
    du := ⟨fun i hi => by
      have hi' : i < M.n := hi
      have := hr.sector hl i (by simpa using hi')
      simpa [Dv.only] using this, there_sub h4 0 (M.n * 64) (by omega)⟩
    ro := ⟨(IMap.empty hm).congr (fun i _ => by rw [entry_none]; simp [Dv.only]), fun i hi => absurd (by simp [Dv.only]) hi, fun i j hi => absurd (by simp [Dv.only]) hi⟩
    cap := ⟨h1, h2⟩
    sb := .inl rfl, sg := .inr (.inl rfl), sm := .inr (.inr rfl)
    sr := fun k hk => absurd hk (hno k)
    bg := n1, bm := n2, gm := n3
    rb := hno _, rg := hno _, rm := hno _
    lt := fun k hk => by rcases hk with rfl | rfl | rfl <;> assumption }
/-- What the rounds of Copy keep. -/
structure CopyI (S : Nat → Prop) (W : World) (b g c m : Nat) (vals : Nat → Value) (M : Dv) (Bd nb p g' cap' m' j : Nat) (X : World) : Prop where
  orig : DevIn S X b g c m vals M
  dev : ∃ S' vals', DevIn S' X nb g' cap' m' vals' (M.only (M.loose.take j)) ∧ ∀ k, S' k → W.heap.size ≤ k ∧ k ≠ p ∧ (k < Bd ∨ Bd + 3 ≤ k)
  box : X.cell? ⟨p, 0, none⟩ = some (devp nb)
  bd : X.cell? ⟨Bd, 0, none⟩ = some (devp b)
  below : Below W.heap.size W X
section
variable {S : Nat → Prop} {W : World} {b g c m : Nat} {vals : Nat → Value} {M : Dv} {Bd nb p g' cap' m' j : Nat} {X Y : World}
theorem CopyI.under (h : CopyI S W b g c m vals M Bd nb p g' cap' m' j X) (hb : Below X.heap.size X Y) : CopyI S W b g c m vals M Bd nb p g' cap' m' j Y := by
  obtain ⟨S', vals', hd, hk⟩ := h.dev
  have hp : p < X.heap.size := World.block_lt_of_cell? X _ h.box
  have hB : Bd < X.heap.size := World.block_lt_of_cell? X _ h.bd
  exact ⟨h.orig.kept hb.size (fun k hk => hb.block k (h.orig.lt k hk)), ⟨S', vals', hd.kept hb.size (fun k hk => hb.block k (hd.lt k hk)), hk⟩, (cell_same 0 (hb.block _ hp)).trans h.box, (cell_same 0 (hb.block _ hB)).trans h.bd, h.below.trans (hb.mono h.below.size)⟩
theorem CopyI.put (h : CopyI S W b g c m vals M Bd nb p g' cap' m' j X) (hS : ∀ k, S k → k < W.heap.size) (hpB : p < Bd) (hWB : W.heap.size ≤ Bd) (l : Nat) (o : Obj) (h1 : Bd + 1 ≤ l) (h2 : l ≤ Bd + 2) : CopyI S W b g c m vals M Bd nb p g' cap' m' j (X.putObj l o) := by
  obtain ⟨S', vals', hd, hk⟩ := h.dev
  have hne : ∀ k, k ≠ l → (X.putObj l o).heap[k]? = X.heap[k]? := fun k hk => World.putObj_heap_other hk
  have hs : X.heap.size ≤ (X.putObj l o).heap.size := by simp
  exact ⟨h.orig.kept hs (fun k hk => hne k (by have := hS k hk; omega)), ⟨S', vals', hd.kept hs (fun k hk' => hne k (by have := hk k hk'; omega)), hk⟩, (cell_same 0 (hne _ (by omega))).trans h.box, (cell_same 0 (hne _ (by omega))).trans h.bd,
    ⟨h.below.os, h.below.tape, h.below.output, Nat.le_trans h.below.size hs, fun k hk => (hne k (by omega)).trans (h.below.block k hk)⟩⟩
theorem CopyI.round (h : CopyI S W b g c m vals M Bd nb p g' cap' m' j X) (hj : j < M.loose.length) (hS : ∀ k, S k → k < W.heap.size) (hm1 : W.heap.size ≤ m') (hm2 : m' < Bd) (hpm : p ≠ m')
    (hb : Below X.heap.size X Y) (v' : Value) (gq : Nat) (hgq : v'.ownBlock = some gq) (hR : RowAt Y v' (M.row M.loose[j])) (hgX : X.heap.size ≤ gq) (hgY : gq < Y.heap.size) (hX : Bd + 3 ≤ X.heap.size) :
    ∃ Z, (Instr.mapUpdate 54 (.map (some m')) (.int .i64 ((M.loose[j] : Nat) : Int)) (.agg #[v'])).run Try.prog Y = .ok () Z ∧ CopyI S W b g c m vals M Bd nb p g' cap' m' (j + 1) Z ∧ (∀ k, k < X.heap.size → k ≠ m' → Z.heap[k]? = X.heap[k]?) := by
  obtain ⟨S', vals', hd, hk⟩ := h.dev
  have hmem := (Dv.mem_loose (M := M)).1 (List.getElem_mem hj)
  have hdY : DevIn S' Y nb g' cap' m' vals' (M.only (M.loose.take j)) := hd.kept hb.size (fun k hk => hb.block k (hd.lt k hk))
  obtain ⟨Z, hup, hmap, hg⟩ := hdY.ro.map.store Try.underlying3 Try.underlying54 (by have := hd.fine.n; show (M.only _).n ≤ _; omega) (i := M.loose[j]) hmem.1 (.agg #[v'])
  have hZX : ∀ k, k < X.heap.size → k ≠ m' → Z.heap[k]? = X.heap[k]? := fun k hk hne => (grown_other hg (Nat.lt_of_lt_of_le hk hb.size) hne).trans (hb.block k hk)
  have hsz : X.heap.size ≤ Z.heap.size := Nat.le_trans hb.size hg.size
  have hnot := take_not_mem M.loose_nodup j hj
  have hrow0 : (M.only (M.loose.take j)).row M.loose[j] = [] := by simp [Dv.only, hnot]
  have hnew := hd.rows (S' := fun k => S' k ∨ k = gq) (W' := Z) M.loose[j] hmem.1 (M.row M.loose[j]) v' (fun k hk => .inl hk)
    (fun k hk => by rcases hk with e | rfl; exact Nat.lt_of_lt_of_le (hd.lt k e) hsz; exact Nat.lt_of_lt_of_le hgY hg.size)
    (fun k hk _ hne _ => hZX k hk hne)
    (by rw [if_neg (by simpa using hmem.2)]; exact hmap)
    (fun _ => ⟨hR.kept (fun k hk => by rw [hgq] at hk; cases hk; exact grown_other hg hgY (by omega)), gq, hgq, .inr rfl, .inr hgX⟩)
    (fun q hq => h.orig.fine.row _ q hq) (hd.head.kept (hZX nb (hd.lt nb hd.sb) hd.bm)) hd.fine.left (h.orig.fine.rows _) (Nat.le_refl _)
  rw [Dv.only_next M j hj] at hnew
  have hW : W.heap.size ≤ X.heap.size := h.below.size
  have hp : p < X.heap.size := World.block_lt_of_cell? X _ h.box
  have hB : Bd < X.heap.size := World.block_lt_of_cell? X _ h.bd
  refine ⟨Z, hup, ⟨h.orig.kept hsz (fun k hk => hZX k (h.orig.lt k hk) (by have := hS k hk; omega)), ⟨_, _, hnew, fun k hk' => ?_⟩, (cell_same 0 (hZX _ hp hpm)).trans h.box, (cell_same 0 (hZX _ hB (by omega))).trans h.bd, ?_⟩, hZX⟩
  · rcases hk' with e | rfl
    · exact hk k e
    · exact ⟨by omega, by omega, by omega⟩
  · exact ⟨hg.os.trans (hb.os.trans h.below.os), hg.tape.trans (hb.tape.trans h.below.tape), hg.output.trans (hb.output.trans h.below.output), Nat.le_trans hW hsz, fun k hk => (hZX k (by omega) (by omega)).trans (h.below.block k hk)⟩
end
end Go.Proofs.Ytoogedjeclcdbaa
