/- A range over a function whose rounds are told what they are handed (the round's arguments may hang on the world), and keep one block of the iterator's own. -/
import Derived.Test.YtmidoghjacmdcaaBaseIter
namespace Go.Proofs.Ytmidoghjacmdcaa
open Go.RowKit
set_option linter.unusedVariables false
set_option linter.unusedSimpArgs false
set_option maxRecDepth 10000
/-- The two blocks of the loop's own, and block p, lie as they lay. -/
def KeepB (B p : Nat) (W W' : World) : Prop := W'.heap[B]? = W.heap[B]? ∧ W'.heap[B + 1]? = W.heap[B + 1]? ∧ W'.heap[p]? = W.heap[p]?
theorem KeepB.refl (B p : Nat) (W : World) : KeepB B p W W := ⟨rfl, rfl, rfl⟩
theorem KeepB.trans {B p : Nat} {X Y Z : World} (h : KeepB B p X Y) (k : KeepB B p Y Z) : KeepB B p X Z := ⟨k.1.trans h.1, k.2.1.trans h.2.1, k.2.2.trans h.2.2⟩
theorem KeepB.below {B p : Nat} {W W' : World} (h : Below W.heap.size W W') (hB : B + 2 ≤ W.heap.size) (hp : p < W.heap.size) : KeepB B p W W' := ⟨h.block _ (by omega), h.block _ (by omega), h.block _ hp⟩
/-- How a round ends here: off its end. -/
def roundEnd (B p : Nat) (I : World → Prop) (W : World) : Exit → Act → World → Prop
  | .normal, _, W' => KeepB B p W W' ∧ I W'
  | _, _, _ => False
section
variable {P : Program} {n : Nat}
theorem range_told {g : Operand} {ps : Array Tmp} {assign body : Code} {Q : Exit → Act → World → Prop} {a : Act} {w : World} (h1 : 1 ≤ n) {gf : Nat} {lb : Array Value}
    (hg : a.eval g = .func (.func gf) #[] lb) (eg : ∀ args w, (callFunc gf args).run P w = .ok (.enter gf args) w)
    (N : Nat) (G : Nat → Array Value → World → Prop) (I : Nat → Nat → World → Prop)
    (hit : ∀ (l : Nat) (J : Nat → Nat → World → Prop) (W : World), (∀ p j W, J p j W → I p j W) → (∀ p W', Below W.heap.size W W' → W.heap.size ≤ p → p < W'.heap.size → J p 0 W') →
      (∀ p j, j < N → ∀ args W1, J p j W1 → G j args W1 → YieldAt Fence.wide (n - 1 - 1) P l args W1 fun e W' => e = .returned (.bool true) ∧ J p (j + 1) W' ∧ W'.heap[p]? = W1.heap[p]?) →
      Below w.heap.size w W → CallsIn Fence.wide (n - 1) P gf (#[.func (.yield l) #[] #[]] ++ lb) W fun e W' => (∃ v, e = .returned v) ∧ ∃ p, J p N W')
    (h0 : ∀ p W, Below w.heap.size w W → w.heap.size + 2 ≤ p → p < W.heap.size → I p 0 W) (hput : ∀ p j W l o, w.heap.size ≤ l → l ≤ w.heap.size + 1 → I p j W → I p j (W.putObj l o))
    (Ax : Nat → Nat → Act → World → Prop) (hAx : ∀ p j a' W l o, w.heap.size ≤ l → l ≤ w.heap.size + 1 → Ax p j a' W → Ax p j a' (W.putObj l o))
    (hassign : ∀ (l p j : Nat) (args : Array Value) (W : World), j < N → w.heap.size + 2 ≤ p → p < W.heap.size → I p j W → G j args W → args.size = ps.size ∧
      assign.wpIn (Fence.wide.inRound l) (n - 1 - 1) P (Exit.then (fun a' W' => KeepB w.heap.size p W W' ∧ Ax p j a' W') (fun _ _ _ => False))
        { tmps := (ps.zip args).foldl (fun t (p, v) => t.setIfInBounds p v) a.tmps, defers := [] } W)
    (hbody : ∀ (l p j : Nat) (a' : Act) (W : World), j < N → w.heap.size + 2 ≤ p → p < W.heap.size → Ax p j a' W → body.wpIn (Fence.wide.inRound l) (n - 1 - 1) P (roundEnd w.heap.size p (I p (j + 1)) W) a' W)
    (hdone : ∀ p W, I p N W → W.heap[w.heap.size]? = some (.deferred (some [])) → Q .normal { a with defers := { target := .collected w.heap.size, args := #[] } :: a.defers } W) :
    (Code.rangeFunc g ps assign body).wpIn Fence.wide n P Q a w := by
  refine wpIn_rangeFunc fun fn hfn => ?_
  obtain ⟨mk, hmk⟩ : ∃ mk : LoopState → Option Code → Loop, mk = fun s p => { state := s, pending := p, fn := fn, tmps := a.tmps, params := ps, assign := assign, body := body, defers := w.heap.size } := ⟨_, rfl⟩
  obtain ⟨V, hV⟩ : ∃ V, (w.alloc (.deferred (some []))).alloc (.loop (mk .ready none)) = V := ⟨_, rfl⟩
  have hVs : V.heap.size = w.heap.size + 2 := by rw [← hV]; simp
  have hVb : Below w.heap.size w V := by
    rw [← hV]; exact ((Below.refl _ w).alloc (Nat.le_refl _) _).alloc (by simp) _
  have hV1 : V.heap[w.heap.size + 1]? = some (.loop (mk .ready none)) := by
    rw [← hV]; have := World.alloc_heap_new (w.alloc (.deferred (some []))) (.loop (mk .ready none)); rwa [World.size_alloc] at this
  have hV0 : V.heap[w.heap.size]? = some (.deferred (some [])) := by
    rw [← hV, Below.heap_alloc _ _ _ (by simp)]; exact World.alloc_heap_new w _
  refine ⟨w.heap.size + 1, [{ target := .collected w.heap.size, args := #[] }], V, { target := .fn (.func gf) lb, args := #[.func (.yield (w.heap.size + 1)) #[] #[]] }, V, gf,
    #[.func (.yield (w.heap.size + 1)) #[] #[]] ++ lb, V, ?_, ?_, fun _ _ => trivial, ?_, fun _ => h1, ?_⟩
  · rw [← hV, hmk]; exact run_enterLoop_outer _ _ _ _ _
  · simp only [resolve, hg]
    simp [go_sem]
  · simp [invoke, go_sem, eg]
  refine (hit (w.heap.size + 1) (fun p j W => I p j W ∧ W.heap[w.heap.size + 1]? = some (.loop (mk .ready none)) ∧ W.heap[w.heap.size]? = some (.deferred (some [])) ∧ w.heap.size + 2 ≤ p ∧ p < W.heap.size) V
    (fun p j W h => h.1) (fun p W' hbl hp1 hp2 => ⟨h0 p W' (hVb.trans (hbl.mono hVb.size)) (by omega) hp2, ?_, ?_, by omega, hp2⟩) ?_ hVb).mono ?_
  · rw [hbl.block _ (by omega)]; exact hV1
  · rw [hbl.block _ (by omega)]; exact hV0
  · rintro p j hj args W ⟨hi, hl, hk, hp1, hp2⟩ hG
    obtain ⟨has, hwp⟩ := hassign (w.heap.size + 1) p j args W hj hp1 hp2 hi hG
    have hy := run_yield (P := P) (args := args) hl (by rw [hmk]; exact has)
    rw [hmk] at hy
    refine ⟨fn, _, assign, body, hy, roundIn_of_wpIn hfn (wpIn_mono hwp ?_)⟩
    clear hy
    rintro e a' Wa hp
    cases e with
    | normal =>
      obtain ⟨hka, hax⟩ := hp
      have hla := hka.2.1.trans hl
      have hka0 := hka.1.trans hk
      have hpa : p < Wa.heap.size := by
        have h2 : W.heap[p]? = some W.heap[p] := Array.getElem?_eq_getElem hp2
        exact (Array.getElem?_eq_some_iff.1 (hka.2.2.trans h2)).1
      have hsa : w.heap.size + 1 < Wa.heap.size := (Array.getElem?_eq_some_iff.1 hla).1
      refine ⟨_, run_beginRound hla (by rw [hmk]), ?_⟩
      refine wpIn_mono (hbody _ p j a' _ hj hp1 (by simpa using hpa) (hAx _ _ _ _ _ _ (by omega) (Nat.le_refl _) hax)) ?_
      rintro e2 a2 W2 hp2'
      cases e2 with
      | normal =>
        obtain ⟨hk2, hi2⟩ := hp2'
        have hl2 : W2.heap[w.heap.size + 1]? = some (.loop { mk .ready none with state := .busy }) := hk2.2.1.trans (World.putObj_heap_same hsa)
        have hk20 : W2.heap[w.heap.size]? = some (.deferred (some [])) := hk2.1.trans ((World.putObj_heap_other (by omega)).trans hka0)
        have hkp : W2.heap[p]? = W.heap[p]? := hk2.2.2.trans ((World.putObj_heap_other (by omega)).trans hka.2.2)
        have hps2 : p < W2.heap.size := by
          have h2 : W.heap[p]? = some W.heap[p] := Array.getElem?_eq_getElem hp2
          exact (Array.getElem?_eq_some_iff.1 (hkp.trans h2)).1
        refine ⟨_, _, run_endRound none hl2, rfl, ⟨hput _ _ _ _ _ (by omega) (Nat.le_refl _) hi2, ?_, (World.putObj_heap_other (by omega)).trans hk20, hp1, by simpa using hps2⟩, (World.putObj_heap_other (by omega)).trans hkp⟩
        rw [World.putObj_heap_same (Array.getElem?_eq_some_iff.1 hl2).1, hmk]
        rfl
      | ret => exact hp2'.elim
      | exit id => exact hp2'.elim
      | goto t => exact hp2'.elim
      | panic c => exact hp2'.elim
      | outgrown => exact hp2'.elim
    | ret => exact hp.elim
    | exit id => exact hp.elim
    | goto t => exact hp.elim
    | panic c => exact hp.elim
    | outgrown => exact hp.elim
  · rintro e W2 ⟨⟨v, rfl⟩, p, hi, hl, hk, _, _⟩
    exact ⟨none, _, by have := run_endLoop (P := P) hl (by rw [hmk]; simp); rw [hmk] at this; exact this, hdone p _ (hput _ _ _ _ _ (by omega) (Nat.le_refl _) hi) ((World.putObj_heap_other (by omega)).trans hk)⟩
end
end Go.Proofs.Ytmidoghjacmdcaa
