/- Layer 10 (dirs), the laws: rows of steps of the call's own, one step more. -/
import Derived.Test.YtmidoghjacmdcaaDirsL2
import Derived.Maps.AppendAt
import Derived.Deep.RegionLaw
import Derived.Deep.CutBlock
import Derived.Deep.DeepCutAuto
namespace Go.Proofs.Ytmidoghjacmdcaa
open Go.RowKit Go.Lib
set_option linter.unusedVariables false
set_option linter.unusedSimpArgs false
set_option maxRecDepth 10000
theorem stepInfo : (Try.prog.info? 45).map (fun i => (i.zero, i.size, i.bytes)) = some (some (.agg #[.int .i64 0, str [], .int .u32 0]), 3, 32) := by kernel_rfl
/-- The cells of steps. -/
def stC (l : List DSt) : List Value := l.flatMap fun x => [.int .i64 x.do_, str x.s, .int .u32 (x.i : Int)]
theorem stC_length (l : List DSt) : (stC l).length = l.length * 3 := by
  induction l with
  | nil => rfl
  | cons p r ih =>
    unfold stC at ih ⊢
    rw [List.flatMap_cons, List.length_append, ih, List.length_cons]
    simp only [List.length_cons, List.length_nil]
    omega
theorem stC_append (l m : List DSt) : stC (l ++ m) = stC l ++ stC m := by simp [stC]
theorem stC_one (x : DSt) : stC [x] = [.int .i64 x.do_, str x.s, .int .u32 (x.i : Int)] := by simp [stC]
theorem stC_cons (x : DSt) (l : List DSt) : stC (x :: l) = .int .i64 x.do_ :: str x.s :: .int .u32 (x.i : Int) :: stC l := by simp [stC]
theorem stC_at {l : List DSt} {k : Nat} {x : DSt} (h : l[k]? = some x) : (stC l)[k * 3]? = some (.int .i64 x.do_) ∧ (stC l)[k * 3 + 1]? = some (str x.s) ∧ (stC l)[k * 3 + 2]? = some (.int .u32 (x.i : Int)) := by
  induction l generalizing k with
  | nil => simp at h
  | cons p r ih =>
    rw [stC_cons]
    cases k with
    | zero => simp at h; subst h; exact ⟨rfl, rfl, rfl⟩
    | succ k =>
      have := ih (k := k) (by simpa using h)
      rw [show (k + 1) * 3 = k * 3 + 1 + 1 + 1 by omega]
      simpa using this
theorem stC_all (l : List DSt) : ∀ v ∈ stC l, v.oneCell' = true := by
  intro v hv
  obtain ⟨x, _, hx⟩ := List.mem_flatMap.1 hv
  simp at hx
  rcases hx with rfl | rfl | rfl <;> rfl
/-- A row of the call's own. -/
abbrev OwnS (W : World) (base : Nat) (v : Value) (l : List DSt) : Prop := W.ownsRow base 45 3 v l.length (stC l)
theorem OwnS.steps {W : World} {base : Nat} {v : Value} {l : List DSt} (h : OwnS W base v l) : DSteps W v l := by
  rcases h.2 with ⟨rfl, h0⟩ | ⟨g, cap, cur, hv, hrest⟩
  · exact ⟨none, 0, by rw [h0], fun j p hj => by rw [List.length_eq_zero_iff.1 h0] at hj; simp at hj⟩
  · refine ⟨some ⟨g, 0, none⟩, cap, hv, fun j p hj => ⟨_, rfl, ?_⟩⟩
    obtain ⟨h1, h2, h3⟩ := stC_at hj
    have hg : v.ownBlock = some g := by rw [hv]; rfl
    have c1 := h.cells hg _ _ h1
    have c2 := h.cells hg _ _ h2
    have c3 := h.cells hg _ _ h3
    rw [behindD_add _ _ _ (by decide)] at c2 c3
    exact ⟨c1, c2, c3⟩
theorem DSteps.below {W W' : World} {v : Value} {l : List DSt} (h : DSteps W v l) (hb : Below W.heap.size W W') : DSteps W' v l := by
  obtain ⟨A, c, hv, hc⟩ := h
  refine ⟨A, c, hv, fun j x hj => ?_⟩
  obtain ⟨a, hA, h1, h2, h3⟩ := hc j x hj
  exact ⟨a, hA, (hb.cell (World.block_lt_of_cell? W _ h1)).trans h1, (hb.cell (World.block_lt_of_cell? W _ h2)).trans h2, (hb.cell (World.block_lt_of_cell? W _ h3)).trans h3⟩
/-- append([]Step(nil), l...). -/
theorem steps_clone (W : World) (base : Nat) (v : Value) (l : List DSt) (h : DSteps W v l) (hl : l.length ≤ maxLen ∧ l.length * 32 ≤ 140737488351232) (hb : base ≤ W.heap.size) :
    ∃ v' W', (Builtin.append_ #[42, 42] 42 #[.slice none 0 0, v]).run Try.prog W = .ok v' W' ∧ OwnS W' base v' l ∧ Below W.heap.size W W' := by
  obtain ⟨i, hi, hz, hsz, hby⟩ := info_parts stepInfo
  have h0 : W.ownsRow base 45 3 (.slice none 0 0) 0 [] := ⟨rfl, .inl ⟨rfl, rfl⟩⟩
  obtain ⟨A, c, rfl, hc⟩ := h
  cases A with
  | none =>
    have hl0 : l = [] := by
      cases l with
      | nil => rfl
      | cons y r =>
        obtain ⟨a, e, _⟩ := hc 0 y rfl
        cases e
    subst hl0
    exact ⟨_, W, run_append_owned_none W base 42 42 45 i 3 Try.underlying42 hi _ _ _ h0, h0, Below.refl _ _⟩
  | some a =>
    obtain ⟨v', W', hap, hown, hg, _, hor⟩ := run_append_own_at (P := Try.prog) (w := W) base 42 42 45 i _ 3 32 Try.underlying42 hi hz hsz hby rfl (by decide) (.slice none 0 0) 0 [] h0
      a l.length c (stC l) (stC_length l) (fun j u hu => by
        have hj : j < (stC l).length := (List.getElem?_eq_some_iff.1 hu).1
        rw [stC_length] at hj
        obtain ⟨q, r, rfl, hr⟩ : ∃ q r, j = q * 3 + r ∧ r < 3 := ⟨j / 3, j % 3, by omega, by omega⟩
        have hk : q < l.length := by omega
        obtain ⟨a', e1, q0, q1, q2⟩ := hc q _ (List.getElem?_eq_getElem hk)
        obtain rfl : a = a' := Option.some.inj e1
        obtain ⟨p0, p1, p2⟩ := stC_at (List.getElem?_eq_getElem hk)
        match r, hr with
        | 0, _ =>
          rw [Nat.add_zero] at hu ⊢
          rw [p0] at hu
          rw [q0, ← hu]
        | 1, _ =>
          rw [p1] at hu
          rw [behindD_add _ _ _ (by decide), q1, ← hu]
        | 2, _ =>
          rw [p2] at hu
          rw [behindD_add _ _ _ (by decide), q2, ← hu]) (stC_all l) (by have := hl.1; omega) (by have := hl.2; omega) hb
    rw [Nat.zero_add, List.nil_append] at hown
    exact ⟨v', W', hap, hown, (Below.refl _ W).grown hg (Nat.le_refl _) (fun k hk => by cases hk)⟩
/-- append(l, x). -/
theorem steps_push (W : World) (base : Nat) (v : Value) (l : List DSt) (x : DSt) (h : OwnS W base v l) (a c : Nat) (hc0 : W.cell? ⟨a, 0, none⟩ = some (.int .i64 x.do_)) (hc1 : W.cell? ⟨a, 1, none⟩ = some (str x.s)) (hc2 : W.cell? ⟨a, 2, none⟩ = some (.int .u32 (x.i : Int)))
    (hl : l.length ≤ maxLen ∧ l.length * 32 ≤ 140737488351232) (hb : base ≤ W.heap.size) :
    ∃ v' W', (Builtin.append_ #[42, 42] 42 #[v, .slice (some ⟨a, 0, none⟩) 1 c]).run Try.prog W = .ok v' W' ∧ OwnS W' base v' (l ++ [x]) ∧ Below base W W' := by
  obtain ⟨i, hi, hz, hsz, hby⟩ := info_parts stepInfo
  obtain ⟨v', W', hap, hown, hg, _, hor⟩ := run_append_own_at (P := Try.prog) (w := W) base 42 42 45 i _ 3 32 Try.underlying42 hi hz hsz hby rfl (by decide) v l.length (stC l) h
    ⟨a, 0, none⟩ 1 c [.int .i64 x.do_, str x.s, .int .u32 (x.i : Int)] rfl (fun j u hj => by
      rw [Addr.add_lit]
      match j, hj with
      | 0, hj => simp at hj; subst hj; exact hc0
      | 1, hj => simp at hj; subst hj; exact hc1
      | 2, hj => simp at hj; subst hj; exact hc2) (fun u hu => by simp at hu; rcases hu with rfl | rfl | rfl <;> rfl) (by have := hl; unfold maxLen at *; omega) (by have := hl.2; omega) hb
  refine ⟨v', W', hap, ?_, (Below.refl base W).grown hg hb (fun k hk => (h.lt k hk).1)⟩
  rw [← stC_one, ← stC_append] at hown
  show W'.ownsRow base 45 3 v' (l ++ [x]).length (stC (l ++ [x]))
  rw [List.length_append]
  exact hown
/-- append at a step of a region that draws. -/
theorem step_run {P : Program} {ops : Array Oper} {o : Oper} {a : Act} {w : World} {K : Act → World → Prop} {Q : Exit → Act → World → Prop} {E : Prop} (hgd : o.guard = none) (s x : Operand) (t : TypeId)
    (ho : o.op = .call { callee := .builtin .append, args := #[s, x], argTypes := #[t, t] }) (v u : Value) (hs : a.eval s = v) (hx : a.eval x = u) (R : Value → World → Prop)
    (hr : ∃ r w', (Builtin.append_ #[t, t] o.type #[v, u]).run P w = .ok r w' ∧ R r w') (h : ∀ r w', R r w' → K (a.put o.dst r) w') :
    if Region.wanted o (yielded ops a.tmps) = true then Oper.wp P o a w K Q else E := by
  have hw : Region.wanted o (yielded ops a.tmps) = true := by simp [Region.wanted, hgd]
  rw [if_pos hw]
  obtain ⟨r, w', hr, hR⟩ := hr
  unfold Oper.wp execOp
  simp only [ho, resolve, invoke, builtin, Sem.run_bind, Sem.run_pure, Result.andThen_ok, List.map_toArray, List.map_cons, List.map_nil, hs, hx, hr]
  exact h r w' hR
end Go.Proofs.Ytmidoghjacmdcaa
