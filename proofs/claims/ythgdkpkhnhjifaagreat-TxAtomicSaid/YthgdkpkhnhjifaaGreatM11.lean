/- A region that draws its order, in the round of a range over a function: what holds of it outside holds within. -/
import Derived.Test.YthgdkpkhnhjifaaGreatM10
import Derived.StillTailTactics
namespace Go.Proofs.YthgdkpkhnhjifaaGreat
open Go.RowKit
set_option linter.unusedVariables false
set_option linter.unusedSimpArgs false
set_option maxRecDepth 10000
section
variable {P : Program} {ops : Array Oper} {Q : Exit → Act → World → Prop} {md : Region.Mode}
/-- No operation is a 'defer' statement. -/
def noDefer (ops : Array Oper) : Prop := ∀ (i : Nat) (o : Oper), ops[i]? = some o → ∀ c, o.op ≠ .defer c
theorem upon_round {l n : Nat} {o : Oper} {a : Act} {K K' : Act → World → Prop} (hd : ∀ c, o.op ≠ .defer c) {w : World} (hK : ∀ a w, K a w → K' a w) (h : o.wp P a w K Q) : o.wpIn (Fence.wide.inRound l) n P a w K' Q := by
  refine ⟨fun _ _ => trivial, ?_⟩
  show o.uponIn (Fence.wide.inRound l) n P a K' Q ((Oper.semAt (some l) a.eval o).run P w)
  rw [Oper.semAt_some l _ o hd]
  unfold Oper.wp at h
  generalize (execOp a.eval o).run P w = r at h
  cases r with
  | ok x w' =>
    cases x with
    | value v => exact hK _ _ h
    | skip => exact hK _ _ h
    | defer d => exact hK _ _ h
    | enter f args =>
      exact ⟨(fun e => by cases e), CallsIn.inRound l (callsIn_wide.2 (Calls.mono h fun e w2 he => by cases e <;> first | exact hK _ _ he | exact he))⟩
    | row r args => exact ⟨(fun e => by cases e), fun c cs _ => let ⟨v, w2, hr, hs⟩ := h c cs; ⟨v, w2, hK _ _ hr, stepsIn_wide.2 hs⟩⟩
    | _ => exact h.elim
  | halt x w' =>
    cases x with
    | panic v => exact h
    | _ => exact h.elim
theorem any_round {l n : Nat} (hd : noDefer ops) (hq : ¬ LetsOut Q) : ∀ (fuel : Nat) (listed : Array Bool) (a : Act) (w : World), wpAny P md ops Q fuel listed a w → wpAnyIn (Fence.wide.inRound l) n P md ops Q fuel listed a w
  | 0, listed, a, w, h => h
  | fuel + 1, listed, a, w, h => by
    refine ⟨h.1, fun i hi => ?_⟩
    have h2 := h.2 i hi
    unfold wpOp at h2
    unfold wpOpIn
    cases ho : ops[i]? with
    | none =>
      simp only [ho] at h2 ⊢
      exact any_round hd hq fuel _ _ _ h2
    | some o =>
      simp only [ho] at h2 ⊢
      by_cases hw : Region.wanted o (yielded ops a.tmps) = true
      · rw [if_pos hw] at h2 ⊢
        rcases h2 with h2 | ⟨_, h2⟩
        · exact upon_round (hd i o ho) (fun a w hh => any_round hd hq fuel _ a w hh) h2
        · exact absurd h2 hq
      · rw [if_neg hw] at h2 ⊢
        exact ⟨fun _ _ => trivial, any_round hd hq fuel _ _ _ h2⟩
theorem region_round {l n id : Nat} {a : Act} {w : World} (hm : P.follows .mixedOrders = true) (hd : noDefer ops) (hq : ¬ LetsOut Q)
    (h : wpAny P .any ops Q ops.size (Array.replicate ops.size false) a w.drew) : (Code.region id ops true).wpIn (Fence.wide.inRound l) n P Q a w :=
  wpIn_region_any hm (any_round hd hq _ _ _ _ h)
/-- Operations that only read, k of them, in the text's order; then the rest, one behind the other. -/
theorem still_any {a : Act} {w : World} {os : List Oper} (k : Nat) (hB : Region.lexTailB .any os.toArray k = true) (h : wpStill P os.toArray w (fun a' => wpList P os.toArray Q (os.drop k) a' w) (os.take k) a) :
    wpAny P .any os.toArray Q os.toArray.size (Array.replicate os.toArray.size false) a w := by
  simp only [Region.lexTailB, Bool.and_eq_true, decide_eq_true_eq] at hB
  obtain ⟨⟨⟨⟨b1, b2⟩, b3⟩, b4⟩, b5⟩ := hB
  have hk : k < os.length := by simpa using b2
  have hsum : k + (os.toArray.size - k) = os.toArray.size := by simp; omega
  have ht : (os.take k).length = k := by simp; omega
  have hdr : (os.drop k).length = os.toArray.size - k := by simp
  have hH := wpAnyL_lex (md := .any) (g := os.toArray.size - k) b1 b3 b4 b2 (os.take k) 0 (Array.replicate os.toArray.size false) a (fun j hj => by rw [ht] at hj; simp [hj]) (by rw [ht]; omega)
    ⟨by simp, (fun j oj _ hl => by rw [getD_replicate_false] at hl; cases hl), fun t _ hlt => getD_in (by simpa using hlt) (getD_replicate_false _ _)⟩ (by rw [ht]; exact b5) h
  have hE := wpAny_of_head (Q' := Q) (g := os.toArray.size - k) (fun listed a' hL => by
    have hs := wpAny_of_seq (md := .any) (Q' := Q) (os.drop k) k listed a' w (fun j => by simp [List.getElem?_drop]) (by rw [hdr]; exact hL.1) hL.2
    rwa [hdr] at hs) _ _ _ hH
  rwa [ht, hsum] at hE
theorem still_round {l n id : Nat} {a : Act} {w : World} {os : List Oper} (k : Nat) (hm : P.follows .mixedOrders = true) (hd : noDefer os.toArray) (hq : ¬ LetsOut Q) (hB : Region.lexTailB .any os.toArray k = true)
    (h : wpStill P os.toArray w.drew (fun a' => wpList P os.toArray Q (os.drop k) a' w.drew) (os.take k) a) : (Code.region id os.toArray true).wpIn (Fence.wide.inRound l) n P Q a w :=
  region_round hm hd hq (still_any k hB h)
theorem noDefer_of (os : List Oper) (h : os.all (fun o => match o.op with | .defer _ => false | _ => true) = true) : noDefer os.toArray := by
  intro i o hi c e
  have hm : o ∈ os := by
    have : os[i]? = some o := by simpa using hi
    exact List.mem_of_getElem? this
  have := List.all_eq_true.1 h o hm
  rw [e] at this
  cases this
end
end Go.Proofs.YthgdkpkhnhjifaaGreat
/- A range over a function whose rounds are told what they are handed; the iterator keeps nothing of its own. -/
namespace Go.Proofs.YthgdkpkhnhjifaaGreat
open Go.RowKit
set_option linter.unusedVariables false
set_option linter.unusedSimpArgs false
set_option maxRecDepth 10000
/-- The two blocks of the loop's own lie as they lay. -/
def KeepF (B : Nat) (W W' : World) : Prop := W'.heap[B]? = W.heap[B]? ∧ W'.heap[B + 1]? = W.heap[B + 1]?
theorem KeepF.refl (B : Nat) (W : World) : KeepF B W W := ⟨rfl, rfl⟩
theorem KeepF.trans {B : Nat} {X Y Z : World} (h : KeepF B X Y) (k : KeepF B Y Z) : KeepF B X Z := ⟨k.1.trans h.1, k.2.trans h.2⟩
theorem KeepF.below {B : Nat} {W W' : World} (h : Below W.heap.size W W') (hB : B + 2 ≤ W.heap.size) : KeepF B W W' := ⟨h.block _ (by omega), h.block _ (by omega)⟩
/-- How a round ends here: off its end. -/
def roundF (B : Nat) (I : World → Prop) (W : World) : Exit → Act → World → Prop
  | .normal, _, W' => KeepF B W W' ∧ I W'
  | _, _, _ => False
section
variable {P : Program} {n : Nat}
theorem range_flat {g : Operand} {ps : Array Tmp} {assign body : Code} {Q : Exit → Act → World → Prop} {a : Act} {w : World} (h1 : 1 ≤ n) {gf : Nat} {lb : Array Value}
    (hg : a.eval g = .func (.func gf) #[] lb) (eg : ∀ args w, (callFunc gf args).run P w = .ok (.enter gf args) w)
    (N : Nat) (G : Nat → Array Value → World → Prop) (I : Nat → World → Prop)
    (hit : ∀ (l : Nat) (J : Nat → World → Prop) (W : World), (∀ j W, J j W → I j W) → (∀ j W, J j W → J j W.drew) → J 0 W →
      (∀ j, j < N → ∀ args W1, J j W1 → G j args W1 → YieldAt Fence.wide (n - 1 - 1) P l args W1 fun e W' => e = .returned (.bool true) ∧ J (j + 1) W') →
      Below w.heap.size w W → CallsIn Fence.wide (n - 1) P gf (#[.func (.yield l) #[] #[]] ++ lb) W fun e W' => (∃ v, e = .returned v) ∧ J N W')
    (h0 : ∀ W, Below w.heap.size w W → I 0 W) (hdr : ∀ j W, I j W → I j W.drew) (hput : ∀ j W l o, w.heap.size ≤ l → l ≤ w.heap.size + 1 → I j W → I j (W.putObj l o))
    (Ax : Nat → Act → World → Prop) (hAx : ∀ j a' W l o, w.heap.size ≤ l → l ≤ w.heap.size + 1 → Ax j a' W → Ax j a' (W.putObj l o))
    (hassign : ∀ (l j : Nat) (args : Array Value) (W : World), j < N → I j W → G j args W → args.size = ps.size ∧
      assign.wpIn (Fence.wide.inRound l) (n - 1 - 1) P (Exit.then (fun a' W' => KeepF w.heap.size W W' ∧ Ax j a' W') (fun _ _ _ => False))
        { tmps := (ps.zip args).foldl (fun t (p, v) => t.setIfInBounds p v) a.tmps, defers := [] } W)
    (hbody : ∀ (l j : Nat) (a' : Act) (W : World), j < N → w.heap.size + 2 ≤ W.heap.size → Ax j a' W → body.wpIn (Fence.wide.inRound l) (n - 1 - 1) P (roundF w.heap.size (I (j + 1)) W) a' W)
    (hdone : ∀ W, I N W → W.heap[w.heap.size]? = some (.deferred (some [])) → Q .normal { a with defers := { target := .collected w.heap.size, args := #[] } :: a.defers } W) :
    (Code.rangeFunc g ps assign body).wpIn Fence.wide n P Q a w := by
  refine wpIn_rangeFunc fun fn hfn => ?_
  obtain ⟨mk, hmk⟩ : ∃ mk : LoopState → Option Code → Loop, mk = fun s p => { state := s, pending := p, fn := fn, tmps := a.tmps, params := ps, assign := assign, body := body, defers := w.heap.size } := ⟨_, rfl⟩
  obtain ⟨V, hV⟩ : ∃ V, (w.alloc (.deferred (some []))).alloc (.loop (mk .ready none)) = V := ⟨_, rfl⟩
  have hVs : V.heap.size = w.heap.size + 2 := by rw [← hV]; simp
  have hVb : Below w.heap.size w V := by
    rw [← hV]; exact ((Below.refl _ w).alloc (Nat.le_refl _) _).alloc (by simp) _
  have hV1 : V.heap[w.heap.size + 1]? = some (.loop (mk .ready none)) := by
    rw [← hV]; have := World.alloc_heap_new (w.alloc (.deferred (some []))) (.loop (mk .ready none)); rwa [World.size_alloc] at this
  have hV0 : V.heap[w.heap.size]? = some (.deferred (some [])) := by
    rw [← hV, Below.heap_alloc _ _ _ (by simp)]; exact World.alloc_heap_new w _
  refine ⟨w.heap.size + 1, [{ target := .collected w.heap.size, args := #[] }], V, { target := .fn (.func gf) lb, args := #[.func (.yield (w.heap.size + 1)) #[] #[]] }, V, gf,
    #[.func (.yield (w.heap.size + 1)) #[] #[]] ++ lb, V, ?_, ?_, fun _ _ => trivial, ?_, fun _ => h1, ?_⟩
  · rw [← hV, hmk]; exact run_enterLoop_outer _ _ _ _ _
  · simp only [resolve, hg]
    simp [go_sem]
  · simp [invoke, go_sem, eg]
  refine (hit (w.heap.size + 1) (fun j W => I j W ∧ W.heap[w.heap.size + 1]? = some (.loop (mk .ready none)) ∧ W.heap[w.heap.size]? = some (.deferred (some []))) V
    (fun j W h => h.1) (fun j W h => ⟨hdr j W h.1, h.2⟩) ⟨h0 V hVb, hV1, hV0⟩ ?_ hVb).mono ?_
  · rintro j hj args W ⟨hi, hl, hk⟩ hG
    obtain ⟨has, hwp⟩ := hassign (w.heap.size + 1) j args W hj hi hG
    have hy := run_yield (P := P) (args := args) hl (by rw [hmk]; exact has)
    rw [hmk] at hy
    refine ⟨fn, _, assign, body, hy, roundIn_of_wpIn hfn (wpIn_mono hwp ?_)⟩
    clear hy
    rintro e a' Wa hp
    cases e with
    | normal =>
      obtain ⟨hka, hax⟩ := hp
      have hla := hka.2.trans hl
      have hka0 := hka.1.trans hk
      have hsa : w.heap.size + 1 < Wa.heap.size := (Array.getElem?_eq_some_iff.1 hla).1
      refine ⟨_, run_beginRound hla (by rw [hmk]), ?_⟩
      refine wpIn_mono (hbody _ j a' _ hj (by simp only [World.putObj_size]; omega) (hAx _ _ _ _ _ (by omega) (Nat.le_refl _) hax)) ?_
      rintro e2 a2 W2 hp2'
      cases e2 with
      | normal =>
        obtain ⟨hk2, hi2⟩ := hp2'
        have hl2 : W2.heap[w.heap.size + 1]? = some (.loop { mk .ready none with state := .busy }) := hk2.2.trans (World.putObj_heap_same hsa)
        have hk20 : W2.heap[w.heap.size]? = some (.deferred (some [])) := hk2.1.trans ((World.putObj_heap_other (by omega)).trans hka0)
        refine ⟨_, _, run_endRound none hl2, rfl, hput _ _ _ _ (by omega) (Nat.le_refl _) hi2, ?_, (World.putObj_heap_other (by omega)).trans hk20⟩
        rw [World.putObj_heap_same (Array.getElem?_eq_some_iff.1 hl2).1, hmk]
        rfl
      | ret => exact hp2'.elim
      | exit id => exact hp2'.elim
      | goto t => exact hp2'.elim
      | panic c => exact hp2'.elim
      | outgrown => exact hp2'.elim
    | ret => exact hp.elim
    | exit id => exact hp.elim
    | goto t => exact hp.elim
    | panic c => exact hp.elim
    | outgrown => exact hp.elim
  · rintro e W2 ⟨⟨v, rfl⟩, hi, hl, hk⟩
    exact ⟨none, _, by have := run_endLoop (P := P) hl (by rw [hmk]; simp); rw [hmk] at this; exact this, hdone _ (hput _ _ _ _ (by omega) (Nat.le_refl _) hi) ((World.putObj_heap_other (by omega)).trans hk)⟩
end
end Go.Proofs.YthgdkpkhnhjifaaGreat
