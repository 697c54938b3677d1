/- Layer 3 (dev): a device, and an array of what its sectors contained, held by a call. -/
import Derived.Test.YtoogedjeclcdbaaDev18
namespace Go.Proofs.Ytoogedjeclcdbaa
open Go.RowKit Go.Maps
set_option linter.unusedVariables false
/-- w: the world of the call; wb: the array's block; vs: its rows; F: what they say. -/
structure CrI (w W : World) (b : Nat) (M : Dv) (wb : Nat) (vs : Nat → Value) (F : Nat → List (List UInt8)) : Prop where
  keep : Keeps (All w) w W
  dev : ∃ S, DevAt S W b M ∧ ∀ k, S k → w.heap.size ≤ k ∧ k ≠ wb ∧ ∀ i, i < 16 → (vs i).ownBlock ≠ some k
  arr : ∀ i, i < 16 → W.cell? ⟨wb, i, none⟩ = some (vs i) ∧ W.frozen? ⟨wb, i, none⟩ = false
  rows : ∀ i, i < 16 → W.ownsRow w.heap.size 9 1 (vs i) (F i).length ((F i).map str) ∧ (vs i).ownBlock ≠ some wb
  wbge : w.heap.size ≤ wb
  wblt : wb < W.heap.size
section
variable {w W : World} {b : Nat} {M : Dv} {wb : Nat} {vs : Nat → Value} {F : Nat → List (List UInt8)}
theorem owns_lt {base : Nat} {e : TypeId} {v : Value} {n : Nat} {xs : List Value} {k : Nat} (h : W.ownsRow base e 1 v n xs) (hk : v.ownBlock = some k) : base ≤ k ∧ k < W.heap.size := by
  rcases h.2 with ⟨rfl, _⟩ | ⟨g, cap, cur, rfl, hb, hg, _⟩
  · cases hk
  · cases hk
    exact ⟨hb, (Array.getElem?_eq_some_iff.1 hg).1⟩
theorem owns_same {W' : World} {base : Nat} {e : TypeId} {v : Value} {n : Nat} {xs : List Value} (h : W.ownsRow base e 1 v n xs) (hk : ∀ k, v.ownBlock = some k → W'.heap[k]? = W.heap[k]?) : W'.ownsRow base e 1 v n xs := by
  refine ⟨h.1, ?_⟩
  rcases h.2 with h0 | ⟨g, cap, cur, rfl, hb, hg, hr⟩
  · exact .inl h0
  · exact .inr ⟨g, cap, cur, rfl, hb, (hk g rfl).trans hg, hr⟩
/-- Whatever turns no block of the three. -/
theorem CrI.same {W' : World} {N : Dv} (h : CrI w W b M wb vs F) (hk : Keeps (All w) w W') (hs : W.heap.size ≤ W'.heap.size) (hd : ∃ S, DevAt S W' b N ∧ ∀ k, S k → w.heap.size ≤ k ∧ k ≠ wb ∧ ∀ i, i < 16 → (vs i).ownBlock ≠ some k)
    (h1 : W'.heap[wb]? = W.heap[wb]?) (h2 : ∀ i, i < 16 → ∀ k, (vs i).ownBlock = some k → W'.heap[k]? = W.heap[k]?) : CrI w W' b N wb vs F :=
  ⟨hk, hd, fun i hi => ⟨(cell_same i h1).trans (h.arr i hi).1, (World.frozen?_of_block (a := ⟨wb, i, none⟩) h1).trans (h.arr i hi).2⟩, fun i hi => ⟨owns_same (h.rows i hi).1 (h2 i hi), (h.rows i hi).2⟩, h.wbge, Nat.lt_of_lt_of_le h.wblt hs⟩
theorem CrI.below {W' : World} (h : CrI w W b M wb vs F) (hb : Below W.heap.size W W') : CrI w W' b M wb vs F := by
  obtain ⟨S, hd, hS⟩ := h.dev
  exact h.same (h.keep.below hb) hb.size ⟨S, hd.below hb, hS⟩ (hb.block _ h.wblt) (fun i hi k hk => hb.block k (owns_lt (h.rows i hi).1 hk).2)
theorem CrI.step {f : FuncId} {args : Array Value} {N : Dv} {r : Value} (h : CrI w W b M wb vs F) (hc : ∀ S, DevAt S W b M → Calls Try.prog f args W fun e w' => e = .returned r ∧ Step S W b N w') :
    Calls Try.prog f args W fun e w' => e = .returned r ∧ CrI w w' b N wb vs F := by
  obtain ⟨S, hd, hS⟩ := h.dev
  refine (hc S hd).mono ?_
  rintro e w' ⟨he, S', hd', ho, hk⟩
  refine ⟨he, h.same (h.keep.only ho fun k e hK => ?_) ho.size ⟨S', hd', fun k e => ?_⟩ (ho.block _ h.wblt fun e => (hS _ e).2.1 rfl) fun i hi k e => ho.block k (owns_lt (h.rows i hi).1 e).2 fun e' => (hS _ e').2.2 i hi e⟩
  · have := (hS k e).1
    unfold All at hK
    omega
  · rcases hk k e with e | e
    · exact hS k e
    · have h1 := h.keep.size
      have h2 := h.wblt
      exact ⟨by omega, by omega, fun i hi hh => by have := (owns_lt (h.rows i hi).1 hh).2; omega⟩
theorem cr_write (h : CrI w W b M wb vs F) (hw : M.wr < 1099511627776) (i : Int) (s : List UInt8) :
    Calls Try.prog 10 #[devp b, .int .i64 i, str s] W fun e w' => e = .returned (.int .i64 (M.wroteE i s)) ∧ CrI w w' b (M.wrote i s) wb vs F := h.step fun S hS => write_all hS hw i s
theorem cr_back (h : CrI w W b M wb vs F) (hw : M.wr ≤ 1099511627776) (i k : Int) :
    Calls Try.prog 12 #[devp b, .int .i64 i, .int .i64 k] W fun e w' => e = .returned (.int .i64 (M.backE i k)) ∧ CrI w w' b (M.backed i k) wb vs F := h.step fun S hS => back_all hS hw i k
/-- A row is put in another's place. -/
theorem CrI.put {W1 : World} (h : CrI w W b M wb vs F) (i : Nat) (hi : i < 16) (v' : Value) (ss : List (List UInt8)) (hb : Below W.heap.size W W1) (hown : W1.ownsRow w.heap.size 9 1 v' ss.length (ss.map str))
    (hnew : ∀ k, v'.ownBlock = some k → W.heap.size ≤ k) : CrI w (W1.setCell ⟨wb, i, none⟩ v') b M wb (upd vs i v') (upd F i ss) := by
  have h1 := h.below hb
  have hne : ∀ k, k ≠ wb → (W1.setCell ⟨wb, i, none⟩ v').heap[k]? = W1.heap[k]? := fun k hk => Below.heap_setCell W1 ⟨wb, i, none⟩ v' k hk
  have hs : (W1.setCell ⟨wb, i, none⟩ v').heap.size = W1.heap.size := by simp [World.setCell]
  obtain ⟨S, hd, hS⟩ := h.dev
  have hwl := h.wblt
  have hd1 := hd.below hb
  have hlt : ∀ k, S k → k < W.heap.size := fun k hk => hd.lt k hk
  refine ⟨⟨h.keep.lt, h1.keep.os, h1.keep.tape, h1.keep.output, by rw [hs]; exact h1.keep.size, fun k hk => (hne k (by have := h.wbge; unfold All at hk; omega)).trans (h1.keep.same k hk)⟩,
    ⟨S, hd1.kept (by rw [hs]; exact Nat.le_refl _) (fun k hk => hne k (hS k hk).2.1), fun k hk => ⟨(hS k hk).1, (hS k hk).2.1, fun j hj hh => ?_⟩⟩, fun j hj => ?_, fun j hj => ?_, h.wbge, by rw [hs]; exact h1.wblt⟩
  · by_cases e : j = i
    · subst e
      rw [upd_same] at hh
      have := hnew k hh; have := hlt k hk; omega
    · rw [upd_other _ _ e] at hh
      exact (hS k hk).2.2 j hj hh
  · by_cases e : j = i
    · subst e
      rw [upd_same]
      exact ⟨set_here _ (h1.arr j hj).1, by rw [World.frozen?_setCell]; exact (h1.arr j hj).2⟩
    · rw [upd_other _ _ e]
      refine ⟨?_, by rw [World.frozen?_setCell]; exact (h1.arr j hj).2⟩
      rw [set_there W1 wb v' (fun hh => e hh.symm)]
      exact (h1.arr j hj).1
  · by_cases e : j = i
    · subst e
      rw [upd_same, upd_same]
      have hnw : v'.ownBlock ≠ some wb := fun hh => by have := hnew wb hh; omega
      exact ⟨owns_same hown (fun k hk => hne k (fun hh => hnw (hh ▸ hk))), hnw⟩
    · rw [upd_other _ _ e, upd_other _ _ e]
      exact ⟨owns_same (h1.rows j hj).1 (fun k hk => hne k (fun hh => (h.rows j hj).2 (hh ▸ hk))), (h.rows j hj).2⟩
end
end Go.Proofs.Ytoogedjeclcdbaa
