/- Layer 3 (dev): rows of texts, appended to; a fuse below 0. -/
import Derived.Test.YtoogedjeclcdbaaDev19
namespace Go.Proofs.Ytoogedjeclcdbaa
open Go.RowKit Go.Maps
set_option linter.unusedVariables false
/-- The builtin at texts, closed. -/
def textAppend (args : Array Value) : Sem Value := Builtin.append_ #[42, 42] 42 args
@[go_sem ↓] theorem text_append_fold (args : Array Value) : Builtin.append_ #[42, 42] 42 args = textAppend args := rfl
theorem owns_cells {W : World} {base : Nat} {v : Value} {ss : List (List UInt8)} (h : W.ownsRow base 9 1 v ss.length (ss.map str)) (hn : ss ≠ []) :
    ∃ g cap, v = .slice (some ⟨g, 0, none⟩) ss.length cap ∧ base ≤ g ∧ g < W.heap.size ∧ ss.length ≤ cap ∧ ∀ j (hj : j < ss.length), W.cell? ⟨g, j, none⟩ = some (str ss[j]) := by
  have hp := List.length_pos_iff.2 hn
  have h' := h
  rcases h'.2 with ⟨rfl, h0⟩ | ⟨g, cap, cur, rfl, hb, hg, hc, _⟩
  · omega
  · refine ⟨g, cap, rfl, hb, (Array.getElem?_eq_some_iff.1 hg).1, hc, fun j hj => ?_⟩
    have := h.cells (g := g) rfl j (str ss[j]) (by simp [hj])
    rwa [Addr.add_lit, Nat.zero_add] at this
/-- append(nil, r[k:]...). -/
theorem append_tail (W : World) (base g k cap : Nat) (ss : List (List UInt8)) (hc : ∀ j (hj : j < ss.length), W.cell? ⟨g, k + j, none⟩ = some (str ss[j])) (hn : ss ≠ []) (hl : ss.length ≤ 1048576) (hb : base ≤ W.heap.size) :
    ∃ v' W', (textAppend #[.slice none 0 0, .slice (some ⟨g, k, none⟩) ss.length cap]).run Try.prog W = .ok v' W' ∧ W'.ownsRow base 9 1 v' ss.length (ss.map str) ∧ Below W.heap.size W W' ∧ v'.ownBlock = some W.heap.size := by
  have hinfo : (Try.prog.info? 9).map (fun i => (i.zero, i.size, i.bytes)) = some (some (str []), 1, 16) := by kernel_rfl
  obtain ⟨i, hi, hz, hsz, hby⟩ := info_parts hinfo
  have hp := List.length_pos_iff.2 hn
  obtain ⟨v', W', hap, hown, hg, _, hor⟩ := run_append_own_at (P := Try.prog) (w := W) base 42 42 9 i (str []) 1 16 Try.underlying42 hi hz hsz hby rfl (by decide) (.slice none 0 0) 0 [] ⟨rfl, .inl ⟨rfl, rfl⟩⟩
    ⟨g, k, none⟩ ss.length cap (ss.map str) (by simp) (fun j u hu => by
      rw [Addr.add_lit]
      rw [List.getElem?_map, Option.map_eq_some_iff] at hu
      obtain ⟨s, hs, rfl⟩ := hu
      obtain ⟨hj, rfl⟩ := List.getElem?_eq_some_iff.1 hs
      exact hc j hj) (fun u hu => by obtain ⟨s, _, rfl⟩ := List.mem_map.1 hu; rfl) (by unfold maxLen; omega) (by omega) hb
  rw [Nat.zero_add, List.nil_append] at hown
  refine ⟨v', W', hap, hown, (Below.refl _ W).grown hg (Nat.le_refl _) (fun k hk => by cases hk), ?_⟩
  rcases hor with e | e
  · rcases hown.2 with ⟨rfl, h0⟩ | ⟨g2, cap2, cur2, rfl, _⟩
    · omega
    · cases e
  · exact e
/-- append(r, s). -/
theorem append_text (W : World) (base B : Nat) (v : Value) (ss : List (List UInt8)) (s : List UInt8) (h : W.ownsRow base 9 1 v ss.length (ss.map str)) (a c : Nat) (hc : W.cell? ⟨a, 0, none⟩ = some (str s)) (hl : ss.length ≤ 1048576) (hb : base ≤ W.heap.size)
    (hB : B ≤ W.heap.size) (hv : ∀ k, v.ownBlock = some k → B ≤ k) :
    ∃ v' W', (textAppend #[v, .slice (some ⟨a, 0, none⟩) 1 c]).run Try.prog W = .ok v' W' ∧ W'.ownsRow base 9 1 v' (ss ++ [s]).length ((ss ++ [s]).map str) ∧ Below B W W' ∧ ∀ k, v'.ownBlock = some k → B ≤ k := by
  have hinfo : (Try.prog.info? 9).map (fun i => (i.zero, i.size, i.bytes)) = some (some (str []), 1, 16) := by kernel_rfl
  obtain ⟨i, hi, hz, hsz, hby⟩ := info_parts hinfo
  obtain ⟨v', W', hap, hown, hg, _, hor⟩ := run_append_own_at (P := Try.prog) (w := W) base 42 42 9 i (str []) 1 16 Try.underlying42 hi hz hsz hby rfl (by decide) v ss.length (ss.map str) h
    ⟨a, 0, none⟩ 1 c [str s] rfl (fun j u hu => by
      rw [Addr.add_lit]
      cases j with
      | zero => simp at hu; subst hu; exact hc
      | succ j => simp at hu) (fun u hu => by simp at hu; subst hu; rfl) (by unfold maxLen; omega) (by omega) hb
  refine ⟨v', W', hap, by simpa using hown, (Below.refl B W).grown hg hB hv, fun k hk => ?_⟩
  rcases hor with e | e
  · rw [e] at hk; exact hv k hk
  · rw [e] at hk; cases hk; exact hB
theorem fuse_neg (b : Value) (n : Int) (hn : n < 0) (W : World) (p : Nat) (hb : b = devp p) :
    Calls Try.prog 17 #[b, .int .i64 n] W fun e w' => e = .returned (.int .i64 2) ∧ W = w' := by
  subst hb
  go_enter Try.func17, Try.ntmps17
  go_wp2_with fail
  go_ret
  exact ⟨rfl, rfl⟩
theorem own_up {W W' : World} {base : Nat} {e : TypeId} {v : Value} {n : Nat} {xs : List Value} (h : W.ownsRow base e 1 v n xs) (hb : Below W.heap.size W W') : W'.ownsRow base e 1 v n xs := owns_same h (fun k hk => hb.block k (owns_lt h hk).2)
theorem cell_up {W W' : World} {p : Addr} {v : Value} (h : W.cell? p = some v) (hb : Below W.heap.size W W') : W'.cell? p = some v := (hb.cell (World.block_lt_of_cell? W _ h)).trans h
theorem wrote_cases (M : Dv) (hn : M.n = 16) (I : Int) (s : List UInt8) :
    (M.wroteE I s = 0 ∧ ∃ i : Nat, i < 16 ∧ I = (i : Int) ∧ M.wrote I s = M.write i s) ∨ ((M.wroteE I s = 2 ∨ M.wroteE I s = 30) ∧ M.wrote I s = M) := by
  unfold Dv.wroteE Dv.wrote
  cases hd : M.down
  · cases hc : M.canWrite I s
    · exact .inr ⟨.inl (by simp), by simp⟩
    · refine .inl ⟨by simp, I.toNat, ?_, ?_, by simp⟩
      · unfold Dv.canWrite at hc
        rw [hn] at hc
        simp at hc
        omega
      · unfold Dv.canWrite at hc
        simp at hc
        omega
  · have hc : M.canWrite I s = false := by unfold Dv.canWrite; simp [hd]
    exact .inr ⟨.inr (by simp), by simp [hc]⟩
theorem backed_cases (M : Dv) (hn : M.n = 16) (I K : Int) :
    (M.backE I K = 0 ∧ ∃ i k : Nat, i < 16 ∧ I = (i : Int) ∧ K = (k : Int) ∧ k ≤ (M.row i).length ∧ M.backed I K = M.settle i k) ∨ ((M.backE I K = 2 ∨ M.backE I K = 30) ∧ M.backed I K = M) := by
  unfold Dv.backE Dv.backed
  cases hd : M.down
  · cases hc : M.canBack I K
    · exact .inr ⟨.inl (by simp), by simp⟩
    · unfold Dv.canBack at hc
      rw [hn] at hc
      simp at hc
      refine .inl ⟨by simp, I.toNat, K.toNat, by omega, by omega, by omega, by omega, by simp⟩
  · have hc : M.canBack I K = false := by unfold Dv.canBack; simp [hd]
    exact .inr ⟨.inr (by simp), by simp [hc]⟩
/-- The builtin's step in a region, by its run's equation. -/
theorem step_text {ops : Array Oper} {o : Oper} {a : Act} {w W' : World} {K : Act → World → Prop} {Q : Exit → Act → World → Prop} {E : Prop} {v1 v2 v' : Value}
    (hg : o.guard = none) (x y : Operand) (hop : o.op = Op.call { callee := Callee.builtin Builtin.append, args := #[x, y], argTypes := #[42, 42] }) (ht : o.type = 42)
    (hx : a.eval x = v1) (hy : a.eval y = v2) (hrun : (textAppend #[v1, v2]).run Try.prog w = .ok v' W') (hK : K (a.put o.dst v') W') :
    if Region.wanted o (yielded ops a.tmps) = true then Oper.wp Try.prog o a w K Q else E := by
  have hw : Region.wanted o (yielded ops a.tmps) = true := by simp [Region.wanted, hg]
  rw [if_pos hw]
  unfold textAppend at hrun
  unfold Oper.wp
  simp [execOp, hop, ht, resolve, invoke, builtin, hx, hy, hrun, Result.andThen]
  exact hK
end Go.Proofs.Ytoogedjeclcdbaa
