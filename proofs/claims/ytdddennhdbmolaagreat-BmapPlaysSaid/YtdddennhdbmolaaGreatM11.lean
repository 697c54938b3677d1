/- A region that draws its order, in the round of a range over a function: what holds of it outside holds within. -/
import Derived.Test.YtdddennhdbmolaaGreatM10
import Derived.StillTailTactics
import Derived.BigRegion
namespace Go.Proofs.YtdddennhdbmolaaGreat
open Go.RowKit
set_option linter.unusedVariables false
set_option linter.unusedSimpArgs false
set_option maxRecDepth 10000
section
variable {P : Program} {ops : Array Oper} {Q : Exit → Act → World → Prop} {md : Region.Mode}
/-- No operation is a 'defer' statement. -/
def noDefer (ops : Array Oper) : Prop := ∀ (i : Nat) (o : Oper), ops[i]? = some o → ∀ c, o.op ≠ .defer c
theorem upon_round {l n : Nat} {o : Oper} {a : Act} {K K' : Act → World → Prop} (hd : ∀ c, o.op ≠ .defer c) {w : World} (hK : ∀ a w, K a w → K' a w) (h : o.wp P a w K Q) : o.wpIn (Fence.wide.inRound l) n P a w K' Q := by
  refine ⟨fun _ _ => trivial, ?_⟩
  show o.uponIn (Fence.wide.inRound l) n P a K' Q ((Oper.semAt (some l) a.eval o).run P w)
  rw [Oper.semAt_some l _ o hd]
  unfold Oper.wp at h
  generalize (execOp a.eval o).run P w = r at h
  cases r with
  | ok x w' =>
    cases x with
    | value v => exact hK _ _ h
    | skip => exact hK _ _ h
    | defer d => exact hK _ _ h
    | enter f args =>
      exact ⟨(fun e => by cases e), CallsIn.inRound l (callsIn_wide.2 (Calls.mono h fun e w2 he => by cases e <;> first | exact hK _ _ he | exact he))⟩
    | row r args => exact ⟨(fun e => by cases e), fun c cs _ => let ⟨v, w2, hr, hs⟩ := h c cs; ⟨v, w2, hK _ _ hr, stepsIn_wide.2 hs⟩⟩
    | _ => exact h.elim
  | halt x w' =>
    cases x with
    | panic v => exact h
    | _ => exact h.elim
theorem any_round {l n : Nat} (hd : noDefer ops) (hq : ¬ LetsOut Q) : ∀ (fuel : Nat) (listed : Array Bool) (a : Act) (w : World), wpAny P md ops Q fuel listed a w → wpAnyIn (Fence.wide.inRound l) n P md ops Q fuel listed a w
  | 0, listed, a, w, h => h
  | fuel + 1, listed, a, w, h => by
    refine ⟨h.1, fun i hi => ?_⟩
    have h2 := h.2 i hi
    unfold wpOp at h2
    unfold wpOpIn
    cases ho : ops[i]? with
    | none =>
      simp only [ho] at h2 ⊢
      exact any_round hd hq fuel _ _ _ h2
    | some o =>
      simp only [ho] at h2 ⊢
      by_cases hw : Region.wanted o (yielded ops a.tmps) = true
      · rw [if_pos hw] at h2 ⊢
        rcases h2 with h2 | ⟨_, h2⟩
        · exact upon_round (hd i o ho) (fun a w hh => any_round hd hq fuel _ a w hh) h2
        · exact absurd h2 hq
      · rw [if_neg hw] at h2 ⊢
        exact ⟨fun _ _ => trivial, any_round hd hq fuel _ _ _ h2⟩
theorem region_round {l n id : Nat} {a : Act} {w : World} (hm : P.follows .mixedOrders = true) (hd : noDefer ops) (hq : ¬ LetsOut Q)
    (h : wpAny P .any ops Q ops.size (Array.replicate ops.size false) a w.drew) : (Code.region id ops true).wpIn (Fence.wide.inRound l) n P Q a w :=
  wpIn_region_any hm (any_round hd hq _ _ _ _ h)
/-- Operations that only read, k of them, in the text's order; then the rest, one behind the other. -/
theorem still_any {a : Act} {w : World} {os : List Oper} (k : Nat) (hB : Region.lexTailB .any os.toArray k = true) (h : wpStill P os.toArray w (fun a' => wpList P os.toArray Q (os.drop k) a' w) (os.take k) a) :
    wpAny P .any os.toArray Q os.toArray.size (Array.replicate os.toArray.size false) a w := by
  simp only [Region.lexTailB, Bool.and_eq_true, decide_eq_true_eq] at hB
  obtain ⟨⟨⟨⟨b1, b2⟩, b3⟩, b4⟩, b5⟩ := hB
  have hk : k < os.length := by simpa using b2
  have hsum : k + (os.toArray.size - k) = os.toArray.size := by simp; omega
  have ht : (os.take k).length = k := by simp; omega
  have hdr : (os.drop k).length = os.toArray.size - k := by simp
  have hH := wpAnyL_lex (md := .any) (g := os.toArray.size - k) b1 b3 b4 b2 (os.take k) 0 (Array.replicate os.toArray.size false) a (fun j hj => by rw [ht] at hj; simp [hj]) (by rw [ht]; omega)
    ⟨by simp, (fun j oj _ hl => by rw [getD_replicate_false] at hl; cases hl), fun t _ hlt => getD_in (by simpa using hlt) (getD_replicate_false _ _)⟩ (by rw [ht]; exact b5) h
  have hE := wpAny_of_head (Q' := Q) (g := os.toArray.size - k) (fun listed a' hL => by
    have hs := wpAny_of_seq (md := .any) (Q' := Q) (os.drop k) k listed a' w (fun j => by simp [List.getElem?_drop]) (by rw [hdr]; exact hL.1) hL.2
    rwa [hdr] at hs) _ _ _ hH
  rwa [ht, hsum] at hE
theorem still_round {l n id : Nat} {a : Act} {w : World} {os : List Oper} (k : Nat) (hm : P.follows .mixedOrders = true) (hd : noDefer os.toArray) (hq : ¬ LetsOut Q) (hB : Region.lexTailB .any os.toArray k = true)
    (h : wpStill P os.toArray w.drew (fun a' => wpList P os.toArray Q (os.drop k) a' w.drew) (os.take k) a) : (Code.region id os.toArray true).wpIn (Fence.wide.inRound l) n P Q a w :=
  region_round hm hd hq (still_any k hB h)
theorem noDefer_of (os : List Oper) (h : os.all (fun o => match o.op with | .defer _ => false | _ => true) = true) : noDefer os.toArray := by
  intro i o hi c e
  have hm : o ∈ os := by
    have : os[i]? = some o := by simpa using hi
    exact List.mem_of_getElem? this
  have := List.all_eq_true.1 h o hm
  rw [e] at this
  cases this
end
end Go.Proofs.YtdddennhdbmolaaGreat
/- A range over a function whose rounds are told what they are handed; the iterator keeps nothing of its own. -/
namespace Go.Proofs.YtdddennhdbmolaaGreat
open Go.RowKit
set_option linter.unusedVariables false
set_option linter.unusedSimpArgs false
set_option maxRecDepth 10000
/-- The two blocks of the loop's own lie as they lay. -/
def KeepF (B : Nat) (W W' : World) : Prop := W'.heap[B]? = W.heap[B]? ∧ W'.heap[B + 1]? = W.heap[B + 1]?
theorem KeepF.refl (B : Nat) (W : World) : KeepF B W W := ⟨rfl, rfl⟩
theorem KeepF.trans {B : Nat} {X Y Z : World} (h : KeepF B X Y) (k : KeepF B Y Z) : KeepF B X Z := ⟨k.1.trans h.1, k.2.trans h.2⟩
theorem KeepF.below {B : Nat} {W W' : World} (h : Below W.heap.size W W') (hB : B + 2 ≤ W.heap.size) : KeepF B W W' := ⟨h.block _ (by omega), h.block _ (by omega)⟩
/-- How a round ends here: off its end. -/
def roundF (B : Nat) (I : World → Prop) (W : World) : Exit → Act → World → Prop
  | .normal, _, W' => KeepF B W W' ∧ I W'
  | _, _, _ => False
section
variable {P : Program} {n : Nat}
theorem range_flat {g : Operand} {ps : Array Tmp} {assign body : Code} {Q : Exit → Act → World → Prop} {a : Act} {w : World} (h1 : 1 ≤ n) {gf : Nat} {lb : Array Value}
    (hg : a.eval g = .func (.func gf) #[] lb) (eg : ∀ args w, (callFunc gf args).run P w = .ok (.enter gf args) w)
    (N : Nat) (G : Nat → Array Value → World → Prop) (I : Nat → World → Prop)
    (hit : ∀ (l : Nat) (J : Nat → World → Prop) (W : World), (∀ j W, J j W → I j W) → (∀ j W, J j W → J j W.drew) → J 0 W →
      (∀ j, j < N → ∀ args W1, J j W1 → G j args W1 → YieldAt Fence.wide (n - 1 - 1) P l args W1 fun e W' => e = .returned (.bool true) ∧ J (j + 1) W') →
      Below w.heap.size w W → CallsIn Fence.wide (n - 1) P gf (#[.func (.yield l) #[] #[]] ++ lb) W fun e W' => (∃ v, e = .returned v) ∧ J N W')
    (h0 : ∀ W, Below w.heap.size w W → I 0 W) (hdr : ∀ j W, I j W → I j W.drew) (hput : ∀ j W l o, w.heap.size ≤ l → l ≤ w.heap.size + 1 → I j W → I j (W.putObj l o))
    (Ax : Nat → Act → World → Prop) (hAx : ∀ j a' W l o, w.heap.size ≤ l → l ≤ w.heap.size + 1 → Ax j a' W → Ax j a' (W.putObj l o))
    (hassign : ∀ (l j : Nat) (args : Array Value) (W : World), j < N → I j W → G j args W → args.size = ps.size ∧
      assign.wpIn (Fence.wide.inRound l) (n - 1 - 1) P (Exit.then (fun a' W' => KeepF w.heap.size W W' ∧ Ax j a' W') (fun _ _ _ => False))
        { tmps := (ps.zip args).foldl (fun t (p, v) => t.setIfInBounds p v) a.tmps, defers := [] } W)
    (hbody : ∀ (l j : Nat) (a' : Act) (W : World), j < N → w.heap.size + 2 ≤ W.heap.size → Ax j a' W → body.wpIn (Fence.wide.inRound l) (n - 1 - 1) P (roundF w.heap.size (I (j + 1)) W) a' W)
    (hdone : ∀ W, I N W → W.heap[w.heap.size]? = some (.deferred (some [])) → Q .normal { a with defers := { target := .collected w.heap.size, args := #[] } :: a.defers } W) :
    (Code.rangeFunc g ps assign body).wpIn Fence.wide n P Q a w := by
  refine wpIn_rangeFunc fun fn hfn => ?_
  obtain ⟨mk, hmk⟩ : ∃ mk : LoopState → Option Code → Loop, mk = fun s p => { state := s, pending := p, fn := fn, tmps := a.tmps, params := ps, assign := assign, body := body, defers := w.heap.size } := ⟨_, rfl⟩
  obtain ⟨V, hV⟩ : ∃ V, (w.alloc (.deferred (some []))).alloc (.loop (mk .ready none)) = V := ⟨_, rfl⟩
  have hVs : V.heap.size = w.heap.size + 2 := by rw [← hV]; simp
  have hVb : Below w.heap.size w V := by
    rw [← hV]; exact ((Below.refl _ w).alloc (Nat.le_refl _) _).alloc (by simp) _
  have hV1 : V.heap[w.heap.size + 1]? = some (.loop (mk .ready none)) := by
    rw [← hV]; have := World.alloc_heap_new (w.alloc (.deferred (some []))) (.loop (mk .ready none)); rwa [World.size_alloc] at this
  have hV0 : V.heap[w.heap.size]? = some (.deferred (some [])) := by
    rw [← hV, Below.heap_alloc _ _ _ (by simp)]; exact World.alloc_heap_new w _
  refine ⟨w.heap.size + 1, [{ target := .collected w.heap.size, args := #[] }], V, { target := .fn (.func gf) lb, args := #[.func (.yield (w.heap.size + 1)) #[] #[]] }, V, gf,
    #[.func (.yield (w.heap.size + 1)) #[] #[]] ++ lb, V, ?_, ?_, fun _ _ => trivial, ?_, fun _ => h1, ?_⟩
  · rw [← hV, hmk]; exact run_enterLoop_outer _ _ _ _ _
  · simp only [resolve, hg]
    simp [go_sem]
  · simp [invoke, go_sem, eg]
  refine (hit (w.heap.size + 1) (fun j W => I j W ∧ W.heap[w.heap.size + 1]? = some (.loop (mk .ready none)) ∧ W.heap[w.heap.size]? = some (.deferred (some []))) V
    (fun j W h => h.1) (fun j W h => ⟨hdr j W h.1, h.2⟩) ⟨h0 V hVb, hV1, hV0⟩ ?_ hVb).mono ?_
  · rintro j hj args W ⟨hi, hl, hk⟩ hG
    obtain ⟨has, hwp⟩ := hassign (w.heap.size + 1) j args W hj hi hG
    have hy := run_yield (P := P) (args := args) hl (by rw [hmk]; exact has)
    rw [hmk] at hy
    refine ⟨fn, _, assign, body, hy, roundIn_of_wpIn hfn (wpIn_mono hwp ?_)⟩
    clear hy
    rintro e a' Wa hp
    cases e with
    | normal =>
      obtain ⟨hka, hax⟩ := hp
      have hla := hka.2.trans hl
      have hka0 := hka.1.trans hk
      have hsa : w.heap.size + 1 < Wa.heap.size := (Array.getElem?_eq_some_iff.1 hla).1
      refine ⟨_, run_beginRound hla (by rw [hmk]), ?_⟩
      refine wpIn_mono (hbody _ j a' _ hj (by simp only [World.putObj_size]; omega) (hAx _ _ _ _ _ (by omega) (Nat.le_refl _) hax)) ?_
      rintro e2 a2 W2 hp2'
      cases e2 with
      | normal =>
        obtain ⟨hk2, hi2⟩ := hp2'
        have hl2 : W2.heap[w.heap.size + 1]? = some (.loop { mk .ready none with state := .busy }) := hk2.2.trans (World.putObj_heap_same hsa)
        have hk20 : W2.heap[w.heap.size]? = some (.deferred (some [])) := hk2.1.trans ((World.putObj_heap_other (by omega)).trans hka0)
        refine ⟨_, _, run_endRound none hl2, rfl, hput _ _ _ _ (by omega) (Nat.le_refl _) hi2, ?_, (World.putObj_heap_other (by omega)).trans hk20⟩
        rw [World.putObj_heap_same (Array.getElem?_eq_some_iff.1 hl2).1, hmk]
        rfl
      | ret => exact hp2'.elim
      | exit id => exact hp2'.elim
      | goto t => exact hp2'.elim
      | panic c => exact hp2'.elim
      | outgrown => exact hp2'.elim
    | ret => exact hp.elim
    | exit id => exact hp.elim
    | goto t => exact hp.elim
    | panic c => exact hp.elim
    | outgrown => exact hp.elim
  · rintro e W2 ⟨⟨v, rfl⟩, hi, hl, hk⟩
    exact ⟨none, _, by have := run_endLoop (P := P) hl (by rw [hmk]; simp); rw [hmk] at this; exact this, hdone _ (hput _ _ _ _ (by omega) (Nat.le_refl _) hi) ((World.putObj_heap_other (by omega)).trans hk)⟩
end
end Go.Proofs.YtdddennhdbmolaaGreat
/- Where things lie on a disk: plain mathematics, no program. -/
namespace Go.Proofs.YtdddennhdbmolaaGreat
/-- A geometry: inodes, blocks, sectors of journal. -/
structure Gm where
  i : Nat
  b : Nat
  j : Nat
deriving DecidableEq
/-- A geometry that may be. -/
def Gm.ok (G : Gm) : Prop := (2 ≤ G.i ∧ G.i ≤ 256) ∧ (8 ≤ G.b ∧ G.b ≤ 1024) ∧ (40 ≤ G.j ∧ G.j ≤ 256)
instance (G : Gm) : Decidable G.ok := by unfold Gm.ok; exact inferInstance
/-- How many sectors part p has. -/
def Gm.cnt (G : Gm) : Nat → Nat
  | 0 => 1
  | 1 => G.j
  | 2 => (G.i + 512) / 512
  | 3 => (G.b + 512) / 512
  | 4 => (G.i + 1) / 2
  | 5 => G.b
  | _ => 0
/-- Where part p begins. -/
def Gm.off (G : Gm) : Nat → Nat
  | 0 => 0
  | p + 1 => G.off p + G.cnt p
theorem Gm.off_succ (G : Gm) (p : Nat) : G.off (p + 1) = G.off p + G.cnt p := rfl
theorem Gm.cnt_pos {G : Gm} (h : G.ok) (p : Nat) (hp : p < 6) : 1 ≤ G.cnt p := by
  unfold Gm.ok at h
  match p, hp with
  | 0, _ | 1, _ | 2, _ | 3, _ | 4, _ | 5, _ => simp only [Gm.cnt]; omega
theorem Gm.cnt_le {G : Gm} (h : G.ok) (p : Nat) : G.cnt p ≤ 1024 := by
  unfold Gm.ok at h
  match p with
  | 0 | 1 | 2 | 3 | 4 | 5 => simp only [Gm.cnt]; omega
  | p + 6 => simp [Gm.cnt]
theorem Gm.off_mono (G : Gm) {p q : Nat} (h : p ≤ q) : G.off p ≤ G.off q := by
  induction q with
  | zero => have : p = 0 := by omega
            subst this; exact Nat.le_refl _
  | succ q ih =>
    rcases Nat.lt_or_ge p (q + 1) with h1 | h1
    · exact Nat.le_trans (ih (by omega)) (by rw [Gm.off_succ]; omega)
    · have : p = q + 1 := by omega
      subst this; exact Nat.le_refl _
theorem Gm.off_le {G : Gm} (h : G.ok) (p : Nat) (hp : p ≤ 6) : G.off p ≤ 1024 * p := by
  induction p with
  | zero => simp [Gm.off]
  | succ p ih =>
    have := ih (by omega)
    have := G.cnt_le h p
    rw [Gm.off_succ]; omega
/-- The disk's sectors. -/
abbrev Gm.all (G : Gm) : Nat := G.off 6
/-- The part that has sector x: the first one that ends behind it. -/
def Gm.part (G : Gm) (x : Nat) : Nat → Nat → Nat
  | 0, p => p
  | n + 1, p => if x < G.off (p + 1) then p else G.part x n (p + 1)
theorem Gm.part_unique (G : Gm) {x p q : Nat} (h1 : G.off p ≤ x) (h2 : x < G.off (p + 1)) (h3 : G.off q ≤ x) (h4 : x < G.off (q + 1)) : p = q := by
  rcases Nat.lt_trichotomy p q with h | h | h
  · have := G.off_mono (show p + 1 ≤ q by omega); omega
  · exact h
  · have := G.off_mono (show q + 1 ≤ p by omega); omega
theorem Gm.part_at (G : Gm) {x : Nat} (k : Nat) (hx : x < G.off k) : ∃ p, p < k ∧ G.off p ≤ x ∧ x < G.off (p + 1) := by
  induction k with
  | zero => simp [Gm.off] at hx
  | succ k ih =>
    by_cases h : x < G.off k
    · obtain ⟨p, h1, h2, h3⟩ := ih h
      exact ⟨p, by omega, h2, h3⟩
    · exact ⟨k, by omega, by omega, hx⟩
/-- The text that a superblock begins with. -/
def labelL : List UInt8 := [108, 117, 110, 101, 116, 116, 101, 49]
/-- The superblock. -/
def superL (G : Gm) : List UInt8 := labelL ++ leB 4 G.i ++ leB 4 G.b ++ leB 4 G.j ++ List.replicate 44 0
theorem superL_length (G : Gm) : (superL G).length = 64 := by simp [superL, labelL, leB_length]
/-- The numbers of a text where they stand. -/
def gotL (l : List UInt8) : Gm := ⟨leV ((l.drop 8).take 4), leV ((l.drop 12).take 4), leV ((l.drop 16).take 4)⟩
theorem gotL_super {G : Gm} (h : G.ok) : gotL (superL G) = G := by
  unfold Gm.ok at h
  have e1 : ((superL G).drop 8).take 4 = leB 4 G.i := by
    have : superL G = labelL ++ (leB 4 G.i ++ (leB 4 G.b ++ leB 4 G.j ++ List.replicate 44 0)) := by simp [superL, List.append_assoc]
    rw [this, List.drop_append_of_le_length (by simp [labelL])]
    rw [show labelL.drop 8 = [] from rfl, List.nil_append, List.take_left' (leB_length _ _)]
  have e2 : ((superL G).drop 12).take 4 = leB 4 G.b := by
    have : superL G = (labelL ++ leB 4 G.i) ++ (leB 4 G.b ++ (leB 4 G.j ++ List.replicate 44 0)) := by simp [superL, List.append_assoc]
    rw [this, List.drop_left' (by simp [labelL, leB_length]), List.take_left' (leB_length _ _)]
  have e3 : ((superL G).drop 16).take 4 = leB 4 G.j := by
    have : superL G = (labelL ++ leB 4 G.i ++ leB 4 G.b) ++ (leB 4 G.j ++ List.replicate 44 0) := by simp [superL, List.append_assoc]
    rw [this, List.drop_left' (by simp [labelL, leB_length]), List.take_left' (leB_length _ _)]
  unfold gotL
  rw [e1, e2, e3, leV_leB _ _ (by omega), leV_leB _ _ (by omega), leV_leB _ _ (by omega)]
theorem superL_inj {G H : Gm} (h : G.ok) (k : H.ok) (e : superL G = superL H) : G = H := by
  rw [← gotL_super h, ← gotL_super k, e]
/-- Which geometry's superblock a text is. -/
def readL (l : List UInt8) : Option Gm := if (gotL l).ok ∧ superL (gotL l) = l then some (gotL l) else none
theorem readL_super {G : Gm} (h : G.ok) : readL (superL G) = some G := by
  unfold readL
  rw [gotL_super h, if_pos ⟨h, rfl⟩]
theorem readL_some {l : List UInt8} {G : Gm} (h : readL l = some G) : G.ok ∧ superL G = l ∧ G = gotL l := by
  unfold readL at h
  split at h
  · rename_i hc
    injection h with h
    subst h
    exact ⟨hc.1, hc.2, rfl⟩
  · cases h
theorem readL_none {l : List UInt8} (h : ∀ G : Gm, G.ok → superL G ≠ l) : readL l = none := by
  unfold readL
  rw [if_neg]
  exact fun hc => h _ hc.1 hc.2
theorem readL_short {l : List UInt8} (h : l.length ≠ 64) : readL l = none :=
  readL_none fun G _ e => h (by rw [← e, superL_length])
end Go.Proofs.YtdddennhdbmolaaGreat
/- A region that reads and calls quietly, and then writes: in the text's order, the world behind the draw under its own name. -/
namespace Go.Proofs.YtdddennhdbmolaaGreat
open Go.RowKit
set_option linter.unusedVariables false
set_option linter.unusedSimpArgs false
set_option maxRecDepth 10000
theorem still_tail {P : Program} {id : Nat} {Q : Exit → Act → World → Prop} {a : Act} {w : World} {l : List Oper} (n : Nat) (hm : P.follows .mixedOrders = true) (hB : Region.lexTailB .any l.toArray n = true)
    (h : wpStill P l.toArray w.drew (fun a' => wpList P l.toArray Q (l.drop n) a' w.drew) (l.take n) a) : (Code.region id l.toArray true).wp P Q a w :=
  wp_region_still_tail n hm hB h
/-- Old cells and old marks read as before: two rules for the walk. -/
theorem bcell {W w1 : World} (hb : Below W.heap.size W w1) : (∀ b o, b < W.heap.size → w1.cell? ⟨b, o, none⟩ = W.cell? ⟨b, o, none⟩) ∧ (∀ b o, b < W.heap.size → w1.frozen? ⟨b, o, none⟩ = W.frozen? ⟨b, o, none⟩) :=
  ⟨fun b o h => hb.cell (p := ⟨b, o, none⟩) h, fun b o h => hb.frozen (p := ⟨b, o, none⟩) h⟩
end Go.Proofs.YtdddennhdbmolaaGreat
/- Layer 5 (geo): which geometries may be, how many sectors the parts have. -/
namespace Go.Proofs.YtdddennhdbmolaaGreat
open Go.RowKit
set_option linter.unusedVariables false
set_option linter.unusedSimpArgs false
set_option maxRecDepth 10000
/-- A geometry as a value. -/
abbrev geoV (i b j : Int) : Value := .agg #[.int .i64 i, .int .i64 b, .int .i64 j]
abbrev gv (G : Gm) : Value := geoV G.i G.b G.j
/-- Numbers of a geometry that may be. -/
def mayI (i b j : Int) : Prop := (2 ≤ i ∧ i ≤ 256) ∧ (8 ≤ b ∧ b ≤ 1024) ∧ (40 ≤ j ∧ j ≤ 256)
instance (i b j : Int) : Decidable (mayI i b j) := by unfold mayI; exact inferInstance
theorem mayI_gm {i b j : Int} (h : mayI i b j) : ∃ G : Gm, G.ok ∧ i = G.i ∧ b = G.b ∧ j = G.j := by
  unfold mayI at h
  exact ⟨⟨i.toNat, b.toNat, j.toNat⟩, by unfold Gm.ok; simp only; omega, by simp only; omega, by simp only; omega, by simp only; omega⟩
theorem gm_mayI {G : Gm} (h : G.ok) : mayI G.i G.b G.j := by
  unfold Gm.ok at h; unfold mayI; omega
set_option maxHeartbeats 400000 in
theorem within_in (n lo hi : Int) (w : World) (h1 : lo ≤ n) (h2 : n ≤ hi) :
    Calls Tryz.prog 22 #[.int .i64 n, .int .i64 lo, .int .i64 hi] w fun e w' => e = .returned (.bool true) ∧ w = w' := by
  go_enter Tryz.func22, Tryz.ntmps22
  go_wp2
  go_ret
  exact ⟨rfl, rfl⟩
set_option maxHeartbeats 400000 in
theorem within_out (n lo hi : Int) (w : World) (h : n < lo ∨ hi < n) :
    Calls Tryz.prog 22 #[.int .i64 n, .int .i64 lo, .int .i64 hi] w fun e w' => e = .returned (.bool false) ∧ w = w' := by
  by_cases h1 : lo ≤ n
  · have h2 : hi < n := by omega
    have hd : decide (n ≤ hi) = false := by simpa using h2
    clear h
    go_enter Tryz.func22, Tryz.ntmps22
    go_wp2
    go_ret
    exact ⟨rfl, rfl⟩
  · clear h
    go_enter Tryz.func22, Tryz.ntmps22
    go_wp2
    go_ret
    exact ⟨rfl, rfl⟩
set_option maxHeartbeats 400000 in
theorem needed_any (n p : Nat) (x y : Int) (hx : x = (n : Int)) (hy : y = (p : Int)) (w : World) (hn : n ≤ 1048576) (hp : 0 < p) (hp2 : p ≤ 1048576) :
    Calls Tryz.prog 101 #[.int .i64 x, .int .i64 y] w fun e w' => e = .returned (.int .i64 ((n + (p - 1)) / p : Nat)) ∧ w' = w := by
  subst hx hy
  have hq : ((n : Int) + (p : Int) - 1) / (p : Int) = (((n + (p - 1)) / p : Nat) : Int) := by
    rw [Int.natCast_ediv, show ((n + (p - 1) : Nat) : Int) = (n : Int) + (p : Int) - 1 by omega]
  have HQ := Lib.hid hq
  clear hq
  go_enter Tryz.func101, Tryz.ntmps101
  go_wp2
  go_ret
  exact ⟨congrArg (fun x => Ending.returned (.int .i64 x)) HQ.out, rfl⟩
set_option maxHeartbeats 400000 in
theorem may_ok (i b j : Int) (w : World) (h : mayI i b j) :
    Calls Tryz.prog 8 #[geoV i b j] w fun e w' => e = .returned (.bool true) ∧ Below w.heap.size w w' := by
  obtain ⟨⟨h1, h2⟩, ⟨h3, h4⟩, h5, h6⟩ := h
  go_enter Tryz.func8, Tryz.ntmps8
  go_wp2_with fail
  refine (within_in _ _ _ _ h1 h2).mono ?_
  rintro e w1 ⟨rfl, rfl⟩
  go_wp2_with fail
  refine (within_in _ _ _ _ h3 h4).mono ?_
  rintro e w1 ⟨rfl, rfl⟩
  go_wp2_with fail
  refine (within_in _ _ _ _ h5 h6).mono ?_
  rintro e w1 ⟨rfl, rfl⟩
  go_wp2_with fail
  go_ret
  exact ⟨rfl, (Below.refl _ _).alloc (Nat.le_refl _) _⟩
set_option maxHeartbeats 400000 in
theorem may_bad (i b j : Int) (w : World) (h : ¬ mayI i b j) :
    Calls Tryz.prog 8 #[geoV i b j] w fun e w' => e = .returned (.bool false) ∧ Below w.heap.size w w' := by
  unfold mayI at h
  by_cases h1 : 2 ≤ i ∧ i ≤ 256
  · by_cases h2 : 8 ≤ b ∧ b ≤ 1024
    · have h3 : j < 40 ∨ 256 < j := by omega
      clear h
      go_enter Tryz.func8, Tryz.ntmps8
      go_wp2_with fail
      refine (within_in _ _ _ _ h1.1 h1.2).mono ?_
      rintro e w1 ⟨rfl, rfl⟩
      go_wp2_with fail
      refine (within_in _ _ _ _ h2.1 h2.2).mono ?_
      rintro e w1 ⟨rfl, rfl⟩
      go_wp2_with fail
      refine (within_out _ _ _ _ h3).mono ?_
      rintro e w1 ⟨rfl, rfl⟩
      go_wp2_with fail
      go_ret
      exact ⟨rfl, (Below.refl _ _).alloc (Nat.le_refl _) _⟩
    · have h3 : b < 8 ∨ 1024 < b := by omega
      clear h h2
      go_enter Tryz.func8, Tryz.ntmps8
      go_wp2_with fail
      refine (within_in _ _ _ _ h1.1 h1.2).mono ?_
      rintro e w1 ⟨rfl, rfl⟩
      go_wp2_with fail
      refine (within_out _ _ _ _ h3).mono ?_
      rintro e w1 ⟨rfl, rfl⟩
      go_wp2_with fail
      go_ret
      exact ⟨rfl, (Below.refl _ _).alloc (Nat.le_refl _) _⟩
  · have h3 : i < 2 ∨ 256 < i := by omega
    clear h h1
    go_enter Tryz.func8, Tryz.ntmps8
    go_wp2_with fail
    refine (within_out _ _ _ _ h3).mono ?_
    rintro e w1 ⟨rfl, rfl⟩
    go_wp2_with fail
    go_ret
    exact ⟨rfl, (Below.refl _ _).alloc (Nat.le_refl _) _⟩
/-- The sizes of the parts, as cells. -/
def sizesL (G : Gm) : List Value := [.int .i64 1, .int .i64 (G.j : Int), .int .i64 (((G.i : Int) + 1 + 511) / 512), .int .i64 (((G.b : Int) + 1 + 511) / 512), .int .i64 (((G.i : Int) + 1) / 2), .int .i64 (G.b : Int)]
theorem sizesL_at (G : Gm) (p : Nat) (hp : p < 6) : (sizesL G)[p]? = some (.int .i64 (G.cnt p : Int)) := by
  match p, hp with
  | 0, _ | 1, _ | 5, _ => rfl
  | 2, _ | 3, _ | 4, _ =>
    simp only [sizesL, Gm.cnt, List.getElem?_cons_succ, List.getElem?_cons_zero, Option.some.injEq, Value.int.injEq, true_and]
    omega
theorem heap_drew2 (w : World) (o p : Obj) : ((w.alloc o).alloc p).drew.heap[w.heap.size + 1]? = some p := by
  have := heap_alloc_new (w.alloc o) p
  show ((w.alloc o).alloc p).heap[w.heap.size + 1]? = some p
  simpa using this
set_option maxHeartbeats 1000000 in
theorem sizes_any (G : Gm) (w : World) (h : G.ok) :
    Calls Tryz.prog 75 #[gv G] w fun e w' => e = .returned (.agg (sizesL G).toArray) ∧ Below w.heap.size w w' := by
  unfold Gm.ok at h
  obtain ⟨⟨h1, h2⟩, ⟨h3, h4⟩, h5, h6⟩ := h
  have n1 := Lib.hid fun W => needed_any (G.i + 1) 512 ((G.i : Int) + 1) 512 rfl rfl W (by omega) (by omega) (by omega)
  have n2 := Lib.hid fun W => needed_any (G.b + 1) 512 ((G.b : Int) + 1) 512 rfl rfl W (by omega) (by omega) (by omega)
  have n3 := Lib.hid fun W => needed_any G.i 2 (G.i : Int) 2 rfl rfl W (by omega) (by omega) (by omega)
  have e1 : IntKind.i64.wrap ((G.i : Int) + 1) = (G.i : Int) + 1 := IntWalk.i64_in _ (by omega)
  have e2 : IntKind.i64.wrap ((G.b : Int) + 1) = (G.b : Int) + 1 := IntWalk.i64_in _ (by omega)
  go_enter Tryz.func75, Tryz.ntmps75
  go_wp2_with fail
  refine still_tail 16 (by kernel_rfl) (by kernel_rfl) ?_
  simp only [List.take_succ_cons, List.take_zero, List.drop_succ_cons, List.drop_zero]
  repeat still_step
  still_call (n1.out _)
  repeat still_step
  still_call (n2.out _)
  repeat still_step
  still_call (n3.out _)
  repeat still_step
  refine wpStill_nil ?_
  clear e1 e2
  go_wp2
  refine bodyPost_ret (v := .agg (sizesL G).toArray) ?_ rfl ⟨rfl, (((Below.refl _ _).alloc (Nat.le_refl _) _).alloc (by simp) _).drew⟩
  exact results_cell_row rfl _ _ (w.heap.size + 1) 153 (sizesL G).toArray (0, 0) _ rfl (heap_drew2 _ _ _) Tryz.underlying153 rfl (by kernel_rfl)
end Go.Proofs.YtdddennhdbmolaaGreat
/- Layer 5 (geo): where the parts lie. -/
namespace Go.Proofs.YtdddennhdbmolaaGreat
open Go.RowKit
set_option linter.unusedVariables false
set_option linter.unusedSimpArgs false
set_option maxRecDepth 10000
/-- The sizes of the parts lie in block B. -/
def Laid (W : World) (B : Nat) (G : Gm) : Prop := W.heap[B]? = some (.cells (sizesL G).toArray 153 (0, 0))
theorem Laid.after {W W' : World} {B n : Nat} {G : Gm} (h : Laid W B G) (hb : Below n W W') (hn : B < n) : Laid W' B G := (hb.block B hn).trans h
theorem Laid.lt {W : World} {B : Nat} {G : Gm} (h : Laid W B G) : B < W.heap.size := (Array.getElem?_eq_some_iff.1 h).1
/-- The closure over the sizes in block B. -/
abbrev layV (B : Nat) : Value := .func (.func 76) #[] #[.pointer (some ⟨B, 0, none⟩)]
def LayPost (G : Gm) (w : World) (e : Ending) (w' : World) : Prop := ∃ B, e = .returned (layV B) ∧ Laid w' B G ∧ w.heap.size ≤ B ∧ Below w.heap.size w w'
set_option maxHeartbeats 400000 in
theorem layout_any (G : Gm) (w : World) (h : G.ok) : Calls Tryz.prog 51 #[gv G] w (LayPost G w) := by
  have hmf : ∀ (fn : Fn) (first cap : Array Value) (w : World), (Instr.makeFunc fn first cap).run Tryz.prog w = .ok (.func fn first cap) w := fun _ _ _ _ => rfl
  have hs := fun W => sizes_any G W h
  simp only [sizesL] at hs
  have HS := Lib.hid hs
  clear hs
  go_enter Tryz.func51, Tryz.ntmps51
  go_wp2_with fail
  refine (HS.out _).mono ?_
  rintro e w1 ⟨rfl, hb⟩
  have B := Lib.hid hb
  clear hb
  go_wp2_with fail
  go_ret
  exact ⟨w1.heap.size, rfl, heap_alloc_new _ _, by have := B.out.size; simp at this; omega, ((Below.refl _ _).alloc (Nat.le_refl _) _).trans (B.out.mono (by simp)) |>.alloc (by have := B.out.size; simp at this; omega) _⟩
/-- A part as a value. -/
abbrev spanV (a n : Int) : Value := .agg #[.int .i64 a, .int .i64 n]
abbrev partV (G : Gm) (p : Nat) : Value := spanV (G.off p) (G.cnt p)
theorem heap_low (w : World) (o p : Obj) : ((w.alloc o).alloc p).heap[w.heap.size]? = some o := by
  have h := heap_alloc_new w o
  have hb := (Below.refl (w.alloc o).heap.size (w.alloc o)).alloc (Nat.le_refl _) p
  rw [hb.block w.heap.size (by simp)]
  exact h
theorem gset2 {W : World} {g : Nat} {a b : Value} {t : TypeId} (h : W.heap[g]? = some (.cells #[a, b] t (0, 0))) (x y : Value) :
    ((W.setCell ⟨g, 0, none⟩ x).setCell ⟨g, 1, none⟩ y).heap[g]? = some (.cells #[x, y] t (0, 0)) := by
  have h1 := heap_setCell_same W g 0 _ t x h
  have h2 := heap_setCell_same _ g 1 _ t y h1
  exact h2
set_option maxHeartbeats 1000000 in
theorem span_any (G : Gm) (p : Nat) (x : Int) (hx : x = (p : Int)) (B : Nat) (w : World) (h : G.ok) (hp : p < 6) (hL : Laid w B G) :
    Calls Tryz.prog 76 #[.int .i64 x, .pointer (some ⟨B, 0, none⟩)] w fun e w' => e = .returned (partV G p) ∧ Below w.heap.size w w' := by
  subst hx
  have hc := cell_of_row w B p _ 153 (0, 0) hL
  have hs := sizesL_at G p hp
  rw [List.getElem?_toArray, hs] at hc
  have hoff := fun k (hk : k ≤ 6) => G.off_le h k hk
  have hcnt := G.cnt_le h p
  have hB := hL.lt
  have HL := Lib.hid hL
  have Hoff := Lib.hid hoff
  clear hL hs hoff
  go_enter Tryz.func76, Tryz.ntmps76
  go_wp2_with fail
  go_loopw [5, 11] (fun _ i wr => ∃ k : Nat, k ≤ p ∧ i = .int .i64 k ∧ wr.heap[w.heap.size]? = some (.cells #[.int .i64 0, .int .i64 0] 78 (0, 0)) ∧ wr.heap[w.heap.size + 1]? = some (.cells #[.int .i64 (G.off k : Int), .int .i64 (G.cnt p : Int)] 78 (0, 0)) ∧ Below w.heap.size w wr) (fun _ i _ => p - (Go.RowKit.intOf i).toNat)
  case atStart => exact ⟨0, Nat.zero_le _, rfl, heap_low _ _ _, by have := heap_alloc_new (w.alloc (.cells #[.int .i64 0, .int .i64 0] 78)) (.cells #[.int .i64 0, .int .i64 (G.cnt p : Int)] 78); simpa [Gm.off] using this, ((Below.refl _ _).alloc (Nat.le_refl _) _).alloc (by simp) _⟩
  case round =>
    obtain ⟨k, hk, rfl, hr, hv, hb⟩ := hrel
    have hLw : Laid wr B G := HL.out.after hb hB
    have r0 := cell_of_row wr w.heap.size 0 _ 78 (0, 0) hr
    have r1 := cell_of_row wr w.heap.size 1 _ 78 (0, 0) hr
    have r2 := frozen_of_row wr w.heap.size 0 _ 78 hr
    have r3 := frozen_of_row wr w.heap.size 1 _ 78 hr
    have v0 := cell_of_row wr (w.heap.size + 1) 0 _ 78 (0, 0) hv
    have v1 := cell_of_row wr (w.heap.size + 1) 1 _ 78 (0, 0) hv
    have v2 := frozen_of_row wr (w.heap.size + 1) 0 _ 78 hv
    have v3 := frozen_of_row wr (w.heap.size + 1) 1 _ 78 hv
    simp only [List.getElem?_toArray, List.getElem?_cons_zero, List.getElem?_cons_succ] at r0 r1 v0 v1
    have ho := Hoff.out k (by omega)
    have Hr := Lib.hid hr
    have Hv := Lib.hid hv
    by_cases hlt : k < p
    · have hck := cell_of_row wr B k _ 153 (0, 0) hLw
      rw [List.getElem?_toArray, sizesL_at G k (by omega)] at hck
      have hcl := G.cnt_le h k
      clear hr hv hLw
      go_wp2_with fail
      go_region
      go_wp2_with fail
      go_roundw
      case rel =>
        refine ⟨k + 1, by omega, by go_num, ?_, ?_, (hb.setCell (by simp) _).drew⟩
        · show (wr.setCell _ _).heap[w.heap.size]? = _
          rw [heap_setCell_other _ _ _ _ (by simp)]
          exact Hr.out
        · show (wr.setCell _ _).heap[w.heap.size + 1]? = _
          have := heap_setCell_same wr (w.heap.size + 1) 0 _ 78 (.int .i64 ((G.off k : Int) + (G.cnt k : Int))) Hv.out
          rw [this]
          simp [Gm.off_succ]
      case measure => simp [Go.RowKit.intOf]; omega
    · have : k = p := by omega
      subst this
      clear hr hv hLw
      go_wp2_with fail
      refine bodyPost_ret (v := partV G k) ?_ rfl ⟨rfl, (hb.setCell (Nat.le_refl _) _).setCell (Nat.le_refl _) _⟩
      exact results_cell_row rfl _ _ w.heap.size 78 _ (0, 0) _ rfl (gset2 Hr.out _ _) Tryz.underlying78 rfl (by kernel_rfl)
end Go.Proofs.YtdddennhdbmolaaGreat
/- Layer 5 (geo): Part, Sectors, Inode, Block. -/
namespace Go.Proofs.YtdddennhdbmolaaGreat
open Go.RowKit
set_option linter.unusedVariables false
set_option linter.unusedSimpArgs false
set_option maxRecDepth 10000
/-- A struct of one-cell fields, and one slot. -/
theorem results_row_tmp {fn : Func} {p q : Tmp} {ty : TypeId} {P : Program} (h : fn.results = #[.cell p ty, .tmp q]) (tmps : Array Value) (w : World) (g : Nat) (v : Value)
    (hp : tmps.getD p undef = .pointer (some ⟨g, 0, none⟩)) (hl : (loadVar ty ⟨g, 0, none⟩).run P w = .ok v w) :
    (results fn tmps).run P w = .ok (.tuple #[v, tmps.getD q undef]) w := by
  have hp' : tmps[p]?.getD undef = .pointer (some ⟨g, 0, none⟩) := by simpa using hp
  simp [results, h, hp', asAddr, hl]
/-- A part out of its block. -/
theorem load_span (W : World) (g : Nat) (a n : Int) (h : W.heap[g]? = some (.cells #[.int .i64 a, .int .i64 n] 78 (0, 0))) : (loadVar 78 ⟨g, 0, none⟩).run Tryz.prog W = .ok (spanV a n) W :=
  run_loadVar_row W g 78 78 _ (0, 0) _ h Tryz.underlying78 rfl (by kernel_rfl)
theorem load_geo (W : World) (g : Nat) (i b j : Int) (h : W.heap[g]? = some (.cells #[.int .i64 i, .int .i64 b, .int .i64 j] 23 (0, 0))) : (loadVar 23 ⟨g, 0, none⟩).run Tryz.prog W = .ok (geoV i b j) W :=
  run_loadVar_row W g 23 23 _ (0, 0) _ h Tryz.underlying23 rfl (by kernel_rfl)
theorem heap_new2 (w : World) (o p : Obj) : ((w.alloc o).alloc p).heap[w.heap.size + 1]? = some p := by
  have := heap_alloc_new (w.alloc o) p
  simpa using this
set_option maxHeartbeats 1000000 in
theorem part_ok (G : Gm) (p : Nat) (x : Int) (hx : x = (p : Int)) (w : World) (h : G.ok) (hp : p < 6) :
    Calls Tryz.prog 31 #[gv G, .int .i64 x] w fun e w' => e = .returned (.tuple #[partV G p, .int .i64 0]) ∧ Below w.heap.size w w' := by
  subst hx
  have HM := Lib.hid fun W => may_ok _ _ _ W (gm_mayI h)
  have HY := Lib.hid fun W => layout_any G W h
  have HI := Lib.hid fun W => within_in (p : Int) 0 5 W (by omega) (by omega)
  go_enter Tryz.func31, Tryz.ntmps31
  go_wp2_with fail
  with_reducible refine (HM.out _).mono ?_
  rintro e w1 ⟨rfl, hb⟩
  have B := Lib.hid hb
  obtain ⟨hc, hf⟩ := bcell hb
  clear hb
  go_wp2_with fail
  with_reducible refine (HI.out _).mono ?_
  rintro e w2 ⟨rfl, rfl⟩
  go_wp2_with fail
  with_reducible refine (HY.out _).mono ?_
  rintro e w2 ⟨bb, rfl, hL, hge, hb⟩
  have hz := B.out.size
  have B := Lib.hid (B.out.trans (hb.mono hz))
  clear hb hc hf
  obtain ⟨hc, hf⟩ := bcell B.out
  have HS := Lib.hid (span_any G p (p : Int) rfl bb w2 h hp hL)
  clear hL hge
  go_wp2_with fail
  with_reducible refine HS.out.mono ?_
  rintro e w3 ⟨rfl, hb⟩
  have hz2 := B.out.size
  have B := Lib.hid (B.out.trans (hb.mono hz2))
  clear hb hc hf
  obtain ⟨hc, hf⟩ := bcell B.out
  go_wp2_with fail
  have hrow := (B.out.block (w.heap.size + 1) (by simp)).trans (heap_new2 w _ _)
  refine bodyPost_ret (v := .tuple #[partV G p, .int .i64 0]) ?_ rfl ⟨rfl, (((((Below.refl _ _).alloc (Nat.le_refl _) _).alloc (by simp) _).trans (B.out.mono (by simp; omega))).setCell (by simp) _).setCell (by simp) _⟩
  exact results_row_tmp (p := 4) (q := 5) rfl _ _ (w.heap.size + 1) _ rfl (load_span _ _ _ _ (gset2 hrow _ _))
def noPart (i b j x : Int) : Prop := ¬ mayI i b j ∨ x < 0 ∨ 5 < x
set_option maxHeartbeats 1000000 in
theorem part_bad (i b j x : Int) (w : World) (h : noPart i b j x) :
    Calls Tryz.prog 31 #[geoV i b j, .int .i64 x] w fun e w' => e = .returned (.tuple #[spanV 0 0, .int .i64 2]) ∧ Below w.heap.size w w' := by
  by_cases hm : mayI i b j
  · have hx : x < 0 ∨ 5 < x := by rcases h with h | h; exact absurd hm h; exact h
    have HM := Lib.hid fun W => may_ok _ _ _ W hm
    have HI := Lib.hid fun W => within_out x 0 5 W hx
    clear h hx hm
    go_enter Tryz.func31, Tryz.ntmps31
    go_wp2_with fail
    with_reducible refine (HM.out _).mono ?_
    rintro e w1 ⟨rfl, hb⟩
    have B := Lib.hid hb
    obtain ⟨hc, hf⟩ := bcell hb
    clear hb
    go_wp2_with fail
    with_reducible refine (HI.out _).mono ?_
    rintro e w2 ⟨rfl, rfl⟩
    go_wp2_with fail
    have hrow := (B.out.block (w.heap.size + 1) (by simp)).trans (heap_new2 w _ _)
    refine bodyPost_ret (v := .tuple #[spanV 0 0, .int .i64 2]) ?_ rfl ⟨rfl, (((((Below.refl _ _).alloc (Nat.le_refl _) _).alloc (by simp) _).trans (B.out.mono (by simp; omega))).setCell (by simp) _).setCell (by simp) _⟩
    exact results_row_tmp (p := 4) (q := 5) rfl _ _ (w.heap.size + 1) _ rfl (load_span _ _ _ _ (gset2 hrow _ _))
  · have HM := Lib.hid fun W => may_bad _ _ _ W hm
    clear h hm
    go_enter Tryz.func31, Tryz.ntmps31
    go_wp2_with fail
    with_reducible refine (HM.out _).mono ?_
    rintro e w1 ⟨rfl, hb⟩
    have B := Lib.hid hb
    obtain ⟨hc, hf⟩ := bcell hb
    clear hb
    go_wp2_with fail
    have hrow := (B.out.block (w.heap.size + 1) (by simp)).trans (heap_new2 w _ _)
    refine bodyPost_ret (v := .tuple #[spanV 0 0, .int .i64 2]) ?_ rfl ⟨rfl, (((((Below.refl _ _).alloc (Nat.le_refl _) _).alloc (by simp) _).trans (B.out.mono (by simp; omega))).setCell (by simp) _).setCell (by simp) _⟩
    exact results_row_tmp (p := 4) (q := 5) rfl _ _ (w.heap.size + 1) _ rfl (load_span _ _ _ _ (gset2 hrow _ _))
set_option maxHeartbeats 1000000 in
theorem sectors_ok (G : Gm) (w : World) (h : G.ok) :
    Calls Tryz.prog 18 #[gv G] w fun e w' => e = .returned (.int .i64 (G.all : Int)) ∧ Below w.heap.size w w' := by
  have HP := Lib.hid fun W => part_ok G 5 5 rfl W h (by omega)
  have h1 := G.off_le h 5 (by omega)
  have h2 := G.cnt_le h 5
  go_enter Tryz.func18, Tryz.ntmps18
  go_wp2_with fail
  with_reducible refine (HP.out _).mono ?_
  rintro e w1 ⟨rfl, hb⟩
  have B := Lib.hid hb
  clear hb
  go_wp2_with fail
  go_ret
  exact ⟨by simp [Gm.all, Gm.off_succ], (((Below.refl _ _).alloc (Nat.le_refl _) _).trans (B.out.mono (by simp))).alloc (by have := B.out.size; simp at this; omega) _⟩
set_option maxHeartbeats 1000000 in
theorem sectors_bad (i b j : Int) (w : World) (h : ¬ mayI i b j) :
    Calls Tryz.prog 18 #[geoV i b j] w fun e w' => e = .returned (.int .i64 0) ∧ Below w.heap.size w w' := by
  have HP := Lib.hid fun W => part_bad i b j 5 W (.inl h)
  clear h
  go_enter Tryz.func18, Tryz.ntmps18
  go_wp2_with fail
  with_reducible refine (HP.out _).mono ?_
  rintro e w1 ⟨rfl, hb⟩
  have B := Lib.hid hb
  clear hb
  go_wp2_with fail
  go_ret
  exact ⟨rfl, (((Below.refl _ _).alloc (Nat.le_refl _) _).trans (B.out.mono (by simp))).alloc (by have := B.out.size; simp at this; omega) _⟩
end Go.Proofs.YtdddennhdbmolaaGreat
/- Layer 5 (geo): Inode, Block, Where. -/
namespace Go.Proofs.YtdddennhdbmolaaGreat
open Go.RowKit
set_option linter.unusedVariables false
set_option linter.unusedSimpArgs false
set_option maxRecDepth 10000
theorem ret3_ii {a b c d : Int} {x : Value} (h : a = b) (k : c = d) : Ending.returned (.tuple #[.int .i64 a, .int .i64 c, x]) = .returned (.tuple #[.int .i64 b, .int .i64 d, x]) := by rw [h, k]
theorem ret2_i {a b : Int} {x : Value} (h : a = b) : Ending.returned (.tuple #[.int .i64 a, x]) = .returned (.tuple #[.int .i64 b, x]) := by rw [h]
set_option maxHeartbeats 1000000 in
theorem block_ok (G : Gm) (k : Nat) (x : Int) (hx : x = ((k + 1 : Nat) : Int)) (w : World) (h : G.ok) (hk : k + 1 ≤ G.b) :
    Calls Tryz.prog 40 #[gv G, .int .u16 x] w fun e w' => e = .returned (.tuple #[.int .i64 ((G.off 5 + k : Nat) : Int), .int .i64 0]) ∧ Below w.heap.size w w' := by
  have h4 : G.b ≤ 1024 := h.2.1.2
  have HP := Lib.hid fun W => part_ok G 5 5 rfl W h (by omega)
  have HI := Lib.hid fun W => within_in x 1 (G.b : Int) W (by omega) (by omega)
  have h1 := G.off_le h 5 (by omega)
  have h2 := G.cnt_le h 5
  have hx1 : 1 ≤ x := by omega
  have hx2 : x ≤ 1024 := by omega
  have HX := Lib.hid hx
  clear hx
  go_enter Tryz.func40, Tryz.ntmps40
  go_wp2_with fail
  with_reducible refine (HP.out _).mono ?_
  rintro e w1 ⟨rfl, hb⟩
  have B := Lib.hid hb
  obtain ⟨hc, hf⟩ := bcell hb
  have hz : w.heap.size < w1.heap.size := by have := hb.size; simp at this; omega
  clear hb
  go_wp2_with fail
  with_reducible refine (HI.out _).mono ?_
  rintro e w2 ⟨rfl, rfl⟩
  go_wp2_with fail
  go_ret2
  have hX := HX.out
  exact ⟨ret2_i (by omega), (((Below.refl _ _).alloc (Nat.le_refl _) _).trans (B.out.mono (by simp))).alloc (by omega) _⟩
set_option maxHeartbeats 1000000 in
theorem block_bad (i b j : Int) (x : Int) (w : World) (h : ¬ mayI i b j ∨ x < 1 ∨ b < x) (h0 : 0 ≤ x) (h9 : x < 65536) :
    Calls Tryz.prog 40 #[geoV i b j, .int .u16 x] w fun e w' => e = .returned (.tuple #[.int .i64 0, .int .i64 2]) ∧ Below w.heap.size w w' := by
  by_cases hm : mayI i b j
  · obtain ⟨G, hG, rfl, rfl, rfl⟩ := mayI_gm hm
    have HP := Lib.hid fun W => part_ok G 5 5 rfl W hG (by omega)
    have HI := Lib.hid fun W => within_out x 1 (G.b : Int) W (by rcases h with h | h; exact absurd hm h; exact h)
    clear h hm hG
    go_enter Tryz.func40, Tryz.ntmps40
    go_wp2_with fail
    with_reducible refine (HP.out _).mono ?_
    rintro e w1 ⟨rfl, hb⟩
    have B := Lib.hid hb
    obtain ⟨hc, hf⟩ := bcell hb
    have hz : w.heap.size < w1.heap.size := by have := hb.size; simp at this; omega
    clear hb
    go_wp2_with fail
    with_reducible refine (HI.out _).mono ?_
    rintro e w2 ⟨rfl, rfl⟩
    go_wp2_with fail
    go_ret2
    exact ⟨rfl, (((Below.refl _ _).alloc (Nat.le_refl _) _).trans (B.out.mono (by simp))).alloc (by omega) _⟩
  · have HP := Lib.hid fun W => part_bad i b j 5 W (.inl hm)
    clear h hm
    go_enter Tryz.func40, Tryz.ntmps40
    go_wp2_with fail
    with_reducible refine (HP.out _).mono ?_
    rintro e w1 ⟨rfl, hb⟩
    have B := Lib.hid hb
    obtain ⟨hc, hf⟩ := bcell hb
    have hz : w.heap.size < w1.heap.size := by have := hb.size; simp at this; omega
    clear hb
    go_wp2_with fail
    go_ret2
    exact ⟨rfl, (((Below.refl _ _).alloc (Nat.le_refl _) _).trans (B.out.mono (by simp))).alloc (by omega) _⟩
end Go.Proofs.YtdddennhdbmolaaGreat
/- Layer 5, the document's own answers: May, Part, Sectors. -/
namespace Go.Proofs.YtdddennhdbmolaaGreat
open Go.RowKit
set_option linter.unusedVariables false
set_option linter.unusedSimpArgs false
set_option maxRecDepth 10000
set_option maxHeartbeats 400000 in
theorem refMay_ok (i b j : Int) (w : World) (h : mayI i b j) :
    Calls Tryz.prog 87 #[geoV i b j] w fun e w' => e = .returned (.bool true) ∧ Below w.heap.size w w' := by
  obtain ⟨⟨h1, h2⟩, ⟨h3, h4⟩, h5, h6⟩ := h
  go_enter Tryz.func87, Tryz.ntmps87
  go_wp2
  go_ret
  exact ⟨rfl, (Below.refl _ _).alloc (Nat.le_refl _) _⟩
set_option maxHeartbeats 1000000 in
theorem refMay_bad (i b j : Int) (w : World) (h : ¬ mayI i b j) :
    Calls Tryz.prog 87 #[geoV i b j] w fun e w' => e = .returned (.bool false) ∧ Below w.heap.size w w' := by
  unfold mayI at h
  by_cases h1 : 2 ≤ i
  · by_cases h2 : i ≤ 256
    · by_cases h3 : 8 ≤ b
      · by_cases h4 : b ≤ 1024
        · by_cases h5 : 40 ≤ j
          · have h6 : ¬ j ≤ 256 := by omega
            have hd : decide (j ≤ 256) = false := by simpa using h6
            clear h
            go_enter Tryz.func87, Tryz.ntmps87
            go_wp2
            go_ret
            exact ⟨rfl, (Below.refl _ _).alloc (Nat.le_refl _) _⟩
          · clear h
            go_enter Tryz.func87, Tryz.ntmps87
            go_wp2
            go_ret
            exact ⟨rfl, (Below.refl _ _).alloc (Nat.le_refl _) _⟩
        · clear h
          go_enter Tryz.func87, Tryz.ntmps87
          go_wp2
          go_ret
          exact ⟨rfl, (Below.refl _ _).alloc (Nat.le_refl _) _⟩
      · clear h
        go_enter Tryz.func87, Tryz.ntmps87
        go_wp2
        go_ret
        exact ⟨rfl, (Below.refl _ _).alloc (Nat.le_refl _) _⟩
    · clear h
      go_enter Tryz.func87, Tryz.ntmps87
      go_wp2
      go_ret
      exact ⟨rfl, (Below.refl _ _).alloc (Nat.le_refl _) _⟩
  · clear h
    go_enter Tryz.func87, Tryz.ntmps87
    go_wp2
    go_ret
    exact ⟨rfl, (Below.refl _ _).alloc (Nat.le_refl _) _⟩
/-- The sizes lie in block B, as a slice's cells. -/
def LaidR (W : World) (B : Nat) (G : Gm) : Prop := W.heap[B]? = some (.cells (sizesL G).toArray 3 (0, 0))
def SizesPost (G : Gm) (w : World) (e : Ending) (w' : World) : Prop := ∃ B, e = .returned (.slice (some ⟨B, 0, none⟩) 6 6) ∧ LaidR w' B G ∧ w.heap.size ≤ B ∧ Below w.heap.size w w'
set_option maxHeartbeats 400000 in
theorem refSizes_any (G : Gm) (w : World) (h : G.ok) : Calls Tryz.prog 129 #[gv G] w (SizesPost G w) := by
  unfold Gm.ok at h
  obtain ⟨⟨h1, h2⟩, ⟨h3, h4⟩, h5, h6⟩ := h
  go_enter Tryz.func129, Tryz.ntmps129
  go_wp2
  go_ret
  exact ⟨w.heap.size + 1, rfl, heap_new2 _ _ _, by omega, ((Below.refl _ _).alloc (Nat.le_refl _) _).alloc (by simp) _⟩
set_option maxHeartbeats 1000000 in
theorem refPart_ok (G : Gm) (p : Nat) (x : Int) (hx : x = (p : Int)) (w : World) (h : G.ok) (hp : p < 6) :
    Calls Tryz.prog 112 #[gv G, .int .i64 x] w fun e w' => e = .returned (.tuple #[partV G p, .int .i64 0]) ∧ Below w.heap.size w w' := by
  subst hx
  have HZ := Lib.hid fun W => refSizes_any G W h
  have HO := Lib.hid (fun p (hp : p ≤ 6) => G.off_le h p hp)
  have HC := Lib.hid (fun p => G.cnt_le h p)
  have hp' : (p : Int) < 6 := by omega
  go_enter Tryz.func112, Tryz.ntmps112
  go_wp2_with fail
  with_reducible refine (HZ.out _).mono ?_
  rintro e w1 ⟨bb, rfl, hL, hge, hb⟩
  have B := Lib.hid hb
  have HL := Lib.hid hL
  have hz := hb.size
  have hzb := (Array.getElem?_eq_some_iff.1 hL).1
  simp at hz
  clear hL hb hge
  go_wp2_with fail
  go_loopw [7, 8] (fun f i wr => ∃ k : Nat, k ≤ p ∧ i = .int .i64 k ∧ f = .int .i64 (G.off k : Int) ∧ wr = w1) (fun _ i _ => p - (Go.RowKit.intOf i).toNat)
  case atStart => exact ⟨0, Nat.zero_le _, rfl, rfl, rfl⟩
  case round =>
    obtain ⟨k, hk, rfl, rfl, rfl⟩ := hrel
    have hcell := cell_of_row wr bb k _ 3 (0, 0) HL.out
    rw [List.getElem?_toArray, sizesL_at G k (by omega)] at hcell
    have ho := HO.out k (by omega)
    have hc := HC.out k
    have hk6 : (k : Int) < 6 := by omega
    by_cases hlt : k < p
    · go_wp2_with fail
      go_roundw
      case rel => exact ⟨k + 1, by omega, by go_num, by rw [Gm.off_succ]; go_num, by first | trivial | rfl⟩
      case measure => simp [Go.RowKit.intOf]; omega
    · have hkp : k = p := by omega
      subst hkp
      have hrow := (B.out.block (w.heap.size + 1) (by simp)).trans (heap_new2 w _ _)
      have r2 := frozen_of_row wr (w.heap.size + 1) 0 _ 78 hrow
      have r3 := frozen_of_row wr (w.heap.size + 1) 1 _ 78 hrow
      have c0 := cell_of_row wr (w.heap.size + 1) 0 _ 78 (0, 0) hrow
      have c1 := cell_of_row wr (w.heap.size + 1) 1 _ 78 (0, 0) hrow
      simp only [List.getElem?_toArray, List.getElem?_cons_zero, List.getElem?_cons_succ] at c0 c1
      have Hrow := Lib.hid hrow
      clear hrow
      go_wp2_with fail
      refine bodyPost_ret (v := .tuple #[partV G k, .int .i64 0]) ?_ rfl ⟨rfl, ((((((Below.refl _ _).alloc (Nat.le_refl _) _).alloc (by simp) _).trans (B.out.mono (by simp; omega))).setCell (by simp) _).setCell (by simp) _)⟩
      exact results_row_tmp (p := 4) (q := 5) rfl _ _ (w.heap.size + 1) _ rfl (load_span _ _ _ _ (gset2 Hrow.out _ _))
set_option maxHeartbeats 1000000 in
theorem refPart_bad (i b j x : Int) (w : World) (h : x < 0 ∨ 5 < x) :
    Calls Tryz.prog 112 #[geoV i b j, .int .i64 x] w fun e w' => e = .returned (.tuple #[spanV 0 0, .int .i64 2]) ∧ Below w.heap.size w w' := by
  by_cases h0 : x < 0
  · clear h
    go_enter Tryz.func112, Tryz.ntmps112
    go_wp2
    refine bodyPost_ret (v := .tuple #[spanV 0 0, .int .i64 2]) ?_ rfl ⟨rfl, ((Below.refl _ _).alloc (Nat.le_refl _) _).alloc (by simp) _⟩
    exact results_row_tmp (p := 4) (q := 5) rfl _ _ (w.heap.size + 1) _ rfl (load_span _ _ _ _ (heap_new2 _ _ _))
  · have h6 : 6 ≤ x := by omega
    clear h
    go_enter Tryz.func112, Tryz.ntmps112
    go_wp2
    refine bodyPost_ret (v := .tuple #[spanV 0 0, .int .i64 2]) ?_ rfl ⟨rfl, ((Below.refl _ _).alloc (Nat.le_refl _) _).alloc (by simp) _⟩
    exact results_row_tmp (p := 4) (q := 5) rfl _ _ (w.heap.size + 1) _ rfl (load_span _ _ _ _ (heap_new2 _ _ _))
end Go.Proofs.YtdddennhdbmolaaGreat
/- Layer 5, the document's own answers: Inode, Block, Where. -/
namespace Go.Proofs.YtdddennhdbmolaaGreat
open Go.RowKit
set_option linter.unusedVariables false
set_option linter.unusedSimpArgs false
set_option maxRecDepth 10000
set_option maxHeartbeats 1000000 in
theorem refBlock_ok (G : Gm) (k : Nat) (x : Int) (hx : x = ((k + 1 : Nat) : Int)) (w : World) (h : G.ok) (hk : k + 1 ≤ G.b) :
    Calls Tryz.prog 89 #[gv G, .int .u16 x] w fun e w' => e = .returned (.tuple #[.int .i64 ((G.off 5 + k : Nat) : Int), .int .i64 0]) ∧ Below w.heap.size w w' := by
  have h4 : G.b ≤ 1024 := h.2.1.2
  have HP := Lib.hid fun W => refPart_ok G 5 5 rfl W h (by omega)
  have h1 := G.off_le h 5 (by omega)
  have h2 := G.cnt_le h 5
  have hx1 : 1 ≤ x := by omega
  have hx2 : x ≤ 1024 := by omega
  have hx3 : x ≤ (G.b : Int) := by omega
  have HX := Lib.hid hx
  clear hx hk
  go_enter Tryz.func89, Tryz.ntmps89
  go_wp2_with fail
  with_reducible refine (HP.out _).mono ?_
  rintro e w1 ⟨rfl, hb⟩
  have B := Lib.hid hb
  have hz : w.heap.size < w1.heap.size := by have := hb.size; simp at this; omega
  clear hb
  go_wp2_with fail
  go_ret2
  have hX := HX.out
  exact ⟨ret2_i (by omega), (((Below.refl _ _).alloc (Nat.le_refl _) _).trans (B.out.mono (by simp))).alloc (by omega) _⟩
set_option maxHeartbeats 1000000 in
theorem refBlock_bad (G : Gm) (x : Int) (w : World) (hG : G.ok) (h : x < 1 ∨ (G.b : Int) < x) (h0 : 0 ≤ x) (h9 : x < 65536) :
    Calls Tryz.prog 89 #[gv G, .int .u16 x] w fun e w' => e = .returned (.tuple #[.int .i64 0, .int .i64 2]) ∧ Below w.heap.size w w' := by
  have h4 : G.b ≤ 1024 := hG.2.1.2
  clear hG
  by_cases h1 : x < 1
  · clear h
    go_enter Tryz.func89, Tryz.ntmps89
    go_wp2
    go_ret2
    exact ⟨rfl, (Below.refl _ _).alloc (Nat.le_refl _) _⟩
  · have h2 : (G.b : Int) < x := by omega
    clear h
    go_enter Tryz.func89, Tryz.ntmps89
    go_wp2
    go_ret2
    exact ⟨rfl, (Below.refl _ _).alloc (Nat.le_refl _) _⟩
/-- The box with a geometry, at the front of a call's memory. -/
theorem box_cells {w W : World} {a b c : Value} (h : Below (w.alloc (.cells #[a, b, c] 23)).heap.size (w.alloc (.cells #[a, b, c] 23)) W) :
    W.cell? ⟨w.heap.size, 0, none⟩ = some a ∧ W.cell? ⟨w.heap.size, 1, none⟩ = some b ∧ W.cell? ⟨w.heap.size, 2, none⟩ = some c := by
  have h1 := (h.block w.heap.size (by simp)).trans (heap_alloc_new w _)
  exact ⟨cell_of_row W _ 0 _ _ (0, 0) h1, cell_of_row W _ 1 _ _ (0, 0) h1, cell_of_row W _ 2 _ _ (0, 0) h1⟩
end Go.Proofs.YtdddennhdbmolaaGreat
/- Inodes and blocks of blocks as bytes: plain mathematics, no program. -/
namespace Go.Proofs.YtdddennhdbmolaaGreat
/-- An inode as numbers. -/
structure Im where
  k : Nat
  n : Nat
  z : Nat
  d0 : Nat
  d1 : Nat
  d2 : Nat
  d3 : Nat
  i : Nat
deriving DecidableEq
def Im.nought : Im := ⟨0, 0, 0, 0, 0, 0, 0, 0⟩
def Im.fits (x : Im) : Prop := x.k < 256 ∧ x.n < 65536 ∧ x.z < 4294967296 ∧ x.d0 < 65536 ∧ x.d1 < 65536 ∧ x.d2 < 65536 ∧ x.d3 < 65536 ∧ x.i < 65536
/-- The five blocks. -/
def Im.bl (x : Im) : List Nat := [x.d0, x.d1, x.d2, x.d3, x.i]
def pagesN (z : Nat) : Nat := (z + 63) / 64
/-- No block is for a page behind the end. -/
def inside (z : Nat) (l : List Nat) : Prop := ∀ j b, l[j]? = some b → b = 0 ∨ 64 * j < z
/-- No block is there twice. -/
def once (l : List Nat) : Prop := (l.filter (· != 0)).Nodup
instance (l : List Nat) : Decidable (once l) := by unfold once; exact inferInstance
/-- What may be. -/
def Im.may (x : Im) : Prop := if x.k = 0 then x = Im.nought else x.k ≤ 2 ∧ x.n ≤ 200 ∧ x.z ≤ 2304 ∧ (x.k = 2 → x.z % 64 = 0) ∧ inside x.z x.bl ∧ once x.bl
noncomputable instance (x : Im) : Decidable x.may := Classical.propDecidable _
/-- Its bytes. -/
def Im.putL (x : Im) : List UInt8 := leB 1 x.k ++ leB 1 0 ++ leB 2 x.n ++ leB 4 x.z ++ (leB 2 x.d0 ++ leB 2 x.d1 ++ leB 2 x.d2 ++ leB 2 x.d3 ++ leB 2 x.i) ++ List.replicate 14 0
theorem putL_length (x : Im) : x.putL.length = 32 := by simp [Im.putL, leB_length]
/-- The j-th number of two bytes. -/
def num2 (l : List UInt8) (j : Nat) : Nat := leV ((l.drop (2 * j)).take 2)
/-- The numbers where they stand. -/
def getI (l : List UInt8) : Im := ⟨num2 l 0 % 256, num2 l 1, num2 l 2 + 65536 * num2 l 3, num2 l 4, num2 l 5, num2 l 6, num2 l 7, num2 l 8⟩
theorem num2_lt (l : List UInt8) (j : Nat) : num2 l j < 65536 := by
  have h := leV_lt ((l.drop (2 * j)).take 2)
  have h2 : ((l.drop (2 * j)).take 2).length ≤ 2 := by simp; omega
  have h3 : (256 : Nat) ^ ((l.drop (2 * j)).take 2).length ≤ 256 ^ 2 := Nat.pow_le_pow_right (by omega) h2
  unfold num2
  omega
theorem getI_fits (l : List UInt8) : (getI l).fits := by
  have h := num2_lt l
  have h2 := h 2
  have h3 := h 3
  exact ⟨Nat.mod_lt _ (by omega), h _, by show _ + _ < _; omega, h _, h _, h _, h _, h _⟩
theorem getI_put {x : Im} (h : x.fits) : getI x.putL = x := by
  obtain ⟨k, n, z, d0, d1, d2, d3, i⟩ := x
  obtain ⟨h1, h2, h3, h4, h5, h6, h7, h8⟩ := h
  simp only at h1 h2 h3 h4 h5 h6 h7 h8
  simp [getI, num2, Im.putL, leB, leV, List.replicate]
  omega
theorem putL_inj {x y : Im} (hx : x.fits) (hy : y.fits) (e : x.putL = y.putL) : x = y := by
  rw [← getI_put hx, ← getI_put hy, e]
/-- Which inode's encoding a text is. -/
noncomputable def getL (l : List UInt8) : Option Im := if (getI l).may ∧ (getI l).putL = l then some (getI l) else none
theorem getL_put {x : Im} (hf : x.fits) (h : x.may) : getL x.putL = some x := by
  unfold getL
  rw [getI_put hf, if_pos ⟨h, rfl⟩]
theorem getL_some {l : List UInt8} {x : Im} (h : getL l = some x) : x.may ∧ x.putL = l ∧ x.fits := by
  unfold getL at h
  split at h
  · rename_i hc
    injection h with h
    subst h
    exact ⟨hc.1, hc.2, getI_fits _⟩
  · cases h
theorem getL_none {l : List UInt8} (h : ¬ ((getI l).may ∧ (getI l).putL = l)) : getL l = none := by
  unfold getL
  rw [if_neg h]
theorem nought_may : Im.nought.may := by simp [Im.may, Im.nought]
theorem nought_fits : Im.nought.fits := by simp [Im.fits, Im.nought]
/-- The numbers of two bytes each, one behind the other. -/
def catL (l : List Nat) : List UInt8 := (l.map (leB 2)).flatten
theorem catL_length (l : List Nat) : (catL l).length = 2 * l.length := by
  induction l with
  | nil => rfl
  | cons a l ih => simp only [catL, List.map_cons, List.flatten_cons, List.length_append, leB_length, List.length_cons] at ih ⊢; omega
theorem catL_snoc (l : List Nat) (a : Nat) : catL (l ++ [a]) = catL l ++ leB 2 a := by simp [catL]
theorem catL_append (l r : List Nat) : catL (l ++ r) = catL l ++ catL r := by simp [catL]
theorem catL_zero (n : Nat) : catL (List.replicate n 0) = List.replicate (2 * n) 0 := by
  induction n with
  | zero => rfl
  | succ n ih =>
    rw [List.replicate_succ, show (0 : Nat) :: List.replicate n 0 = [0] ++ List.replicate n 0 from rfl, catL_append, ih]
    have : 2 * (n + 1) = 2 * n + 1 + 1 := by omega
    rw [this, List.replicate_succ, List.replicate_succ]
    rfl
/-- The block that lists these. -/
def tellL (l : List Nat) : List UInt8 := catL l ++ List.replicate (64 - 2 * l.length) 0
theorem tellL_length (l : List Nat) (h : l.length ≤ 32) : (tellL l).length = 64 := by simp [tellL, catL_length]; omega
theorem tellL_eq (l : List Nat) : tellL l = catL (l ++ List.replicate (32 - l.length) 0) := by
  rw [catL_append, catL_zero, tellL]
  congr 2
  omega
/-- The numbers that a text has. -/
def numsL (s : List UInt8) : List Nat := (List.range (s.length / 2)).map (num2 s)
theorem numsL_length (s : List UInt8) : (numsL s).length = s.length / 2 := by simp [numsL]
theorem num2_cat (l : List Nat) (r : List UInt8) (j : Nat) (h : j < l.length) (hl : ∀ x ∈ l, x < 65536) : num2 (catL l ++ r) j = l[j] := by
  induction l generalizing j with
  | nil => simp at h
  | cons a l ih =>
    have ha : a < 256 ^ 2 := hl a (by simp)
    cases j with
    | zero =>
      simp only [num2, catL, List.map_cons, List.flatten_cons, Nat.mul_zero, List.drop_zero, List.getElem_cons_zero, List.append_assoc]
      rw [List.take_left' (leB_length _ _), leV_leB _ _ ha]
    | succ j =>
      have e : num2 (catL (a :: l) ++ r) (j + 1) = num2 (catL l ++ r) j := by
        simp only [num2, catL, List.map_cons, List.flatten_cons, List.append_assoc]
        rw [show 2 * (j + 1) = 2 + 2 * j by omega, ← List.drop_drop, List.drop_left' (leB_length _ _)]
      rw [e, ih j (by simpa using h) fun x hx => hl x (by simp [hx])]
      rfl
theorem numsL_cat (l : List Nat) (hl : ∀ x ∈ l, x < 65536) : numsL (catL l) = l := by
  apply List.ext_getElem
  · simp [numsL, catL_length]
  · intro j h1 h2
    have := num2_cat l [] j h2 hl
    simpa [numsL] using this
theorem catL_numsL : ∀ (n : Nat) (s : List UInt8), s.length = 2 * n → catL (numsL s) = s := by
  intro n
  induction n with
  | zero => intro s h; have : s = [] := List.eq_nil_of_length_eq_zero (by omega); subst this; rfl
  | succ n ih =>
    intro s h
    have e : numsL s = leV (s.take 2) :: numsL (s.drop 2) := by
      apply List.ext_getElem
      · simp [numsL]; omega
      · intro j h1 h2
        cases j with
        | zero => simp [numsL, num2]
        | succ j => simp [numsL, num2, List.drop_drop, show 2 + 2 * j = 2 * (j + 1) by omega]
    rw [e, show leV (s.take 2) :: numsL (s.drop 2) = [leV (s.take 2)] ++ numsL (s.drop 2) from rfl, catL_append, ih (s.drop 2) (by simp; omega)]
    have h2 : (s.take 2).length = 2 := by simp; omega
    have h3 := leB_leV (s.take 2)
    rw [h2] at h3
    simp only [catL, List.map_cons, List.map_nil, List.flatten_cons, List.flatten_nil, List.append_nil]
    rw [h3, List.take_append_drop]
theorem tell_nums {s : List UInt8} (h : s.length = 64) : tellL (numsL s) = s := by
  have hl : (numsL s).length = 32 := by rw [numsL_length, h]
  rw [tellL, hl, catL_numsL 32 s h]
  simp
theorem nums_tell {l : List Nat} (hl : ∀ x ∈ l, x < 65536) : numsL (tellL l) = l ++ List.replicate (32 - l.length) 0 := by
  rw [tellL_eq, numsL_cat]
  intro x hx
  rcases List.mem_append.1 hx with hx | hx
  · exact hl x hx
  · rw [(List.mem_replicate.1 hx).2]; omega
theorem partsL_map2 : ∀ (f : Nat) (s : List UInt8), s.length ≤ f → ∀ n, s.length = 2 * n → (partsL 2 f s).map leV = numsL s := by
  intro f
  induction f with
  | zero => intro s h n _; have : s = [] := List.eq_nil_of_length_eq_zero (by omega); subst this; rfl
  | succ f ih =>
    intro s h n hn
    by_cases h0 : s = []
    · subst h0; rw [partsL_nil]; rfl
    · have hp : 0 < s.length := List.length_pos_iff.2 h0
      have e : numsL s = leV (s.take 2) :: numsL (s.drop 2) := by
        apply List.ext_getElem
        · simp [numsL]; omega
        · intro j h1 h2
          cases j with
          | zero => simp [numsL, num2]
          | succ j => simp [numsL, num2, List.drop_drop, show 2 + 2 * j = 2 * (j + 1) by omega]
      rw [partsL, if_neg h0, List.map_cons, ih (s.drop 2) (by simp; omega) (n - 1) (by simp; omega), e]
end Go.Proofs.YtdddennhdbmolaaGreat
