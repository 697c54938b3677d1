/- Layer 3 (dev): texts in a row; a fuse's writes. -/
import Derived.Test.YtoogedjeclcdbaaDev15
namespace Go.Proofs.Ytoogedjeclcdbaa
open Go.RowKit Go.Maps
set_option linter.unusedVariables false
theorem flush_down (b : Nat) (W : World) (h1 : W.cell? ⟨b, 1, none⟩ = some (.bool true)) :
    Calls Try.prog 13 #[devp b] W fun e w' => e = .returned (.int .i64 30) ∧ Below W.heap.size W w' := by
  refine (callsIn_wide (n := 8)).1 ?_
  refine callsIn_of_wp_marks Try.func13 rfl trivial ?_ rfl
  simp only [Try.ntmps13, List.size_toArray, List.length_cons, List.length_nil, Nat.reduceAdd, Nat.reduceSub, Array.replicate_succ, Array.replicate_zero, List.push_toArray, List.append_toArray, List.nil_append, List.cons_append]
  have h1a : (W.alloc (.cells #[devp b] 25)).cell? ⟨b, 1, none⟩ = some (.bool true) := by
    rw [World.cell?_alloc_lt _ _ _ (World.block_lt_of_cell? W _ h1)]; exact h1
  gi_wp2_with fail
  refine ⟨trivial, (callsIn_wide.2 (works_any b true _ h1a)).mono ?_⟩
  rintro e w1 ⟨rfl, rfl⟩
  gi_wp2_with fail
  refine ⟨_, results_tmp rfl _ _ _, ?_⟩
  exact ⟨rfl, (Below.refl _ _).alloc (Nat.le_refl _) _⟩
section
variable {K : Nat → Prop} {w W : World} {b : Nat} {M : Dv}
theorem held_flush_down (h : Held K w W b M) (hd : M.down = true) :
    Calls Try.prog 13 #[devp b] W fun e w' => e = .returned (.int .i64 30) ∧ Held K w w' b M := by
  have h' := h
  obtain ⟨h1, S, h3, h4⟩ := h'
  refine (flush_down b W (h3.down_cell hd)).mono ?_
  rintro e w' ⟨rfl, hb⟩
  exact ⟨rfl, h.below hb⟩
theorem held_read_down (h : Held K w W b M) (hd : M.down = true) (i : Int) :
    Calls Try.prog 14 #[devp b, .int .i64 i] W fun e w' => e = .returned (.tuple #[str [], .int .i64 30]) ∧ W = w' := by
  obtain ⟨h1, S, h3, h4⟩ := h
  exact read_down b _ W (h3.down_cell hd)
end
/-- The slice v is the texts l. -/
def Strings (w : World) (v : Value) (l : List (List UInt8)) : Prop :=
  ∃ A c, v = .slice A l.length c ∧ ∀ j s, l[j]? = some s → ∃ a : Addr, A = some a ∧ w.cell? (a.add j) = some (str s)
/-- Behind k writes of a fuse of n. -/
structure FuseI (n k : Nat) (M : Dv) : Prop where
  n8 : M.n = 8
  wr : M.wr = min k n
  down : M.down = decide (n ≤ k)
  left : k < n → M.left = n - k
theorem FuseI.start (n : Nat) : FuseI n 0 ((dev0 8).fuse n) := by
  refine ⟨rfl, by simp [Dv.fuse, dev0], ?_, fun _ => rfl⟩
  cases n <;> simp [Dv.fuse, dev0]
theorem FuseI.next {n k : Nat} {M : Dv} (h : FuseI n k M) (i : Nat) (hi : i < 8) (s : List UInt8) :
    FuseI n (k + 1) (M.wrote (i : Int) (secOf s)) ∧ M.wroteE (i : Int) (secOf s) = if k < n then 0 else 30 := by
  have hd := h.down
  by_cases hk : k < n
  · have hd : M.down = false := by rw [hd]; simpa using hk
    have hc : M.canWrite (i : Int) (secOf s) = true := by
      unfold Dv.canWrite
      rw [hd, h.n8, secOf_len]
      simp; omega
    unfold Dv.wrote Dv.wroteE
    rw [hc, hd, if_pos rfl, if_neg (by simp), if_pos rfl, if_pos hk]
    refine ⟨⟨h.n8, ?_, ?_, ?_⟩, rfl⟩
    · show M.wr + 1 = _
      rw [h.wr]; omega
    · show (M.down || M.left == 1) = _
      rw [hd, h.left hk, Bool.false_or]
      have : (n - k == 1) = decide (n - k = 1) := rfl
      rw [this]
      exact decide_eq_decide.2 (by omega)
    · intro hk1
      show M.left - 1 = _
      rw [h.left hk]; omega
  · have hd : M.down = true := by rw [hd]; simpa using hk
    have hc : M.canWrite (i : Int) (secOf s) = false := by
      unfold Dv.canWrite
      rw [hd]; simp
    unfold Dv.wrote Dv.wroteE
    rw [hc, hd, if_neg (by simp), if_pos rfl, if_neg hk]
    exact ⟨⟨h.n8, by rw [h.wr]; omega, by rw [hd]; simp; omega, fun hx => by omega⟩, rfl⟩
theorem back_zero {M : Dv} (hn : M.n = 8) (hd : M.down = false) : M.backE 0 0 = 0 := by
  unfold Dv.backE Dv.canBack
  simp [hd, hn]
theorem back_zero_down {M : Dv} (hd : M.down = true) (i k : Int) : M.backE i k = 30 := by
  unfold Dv.backE
  simp [hd]
end Go.Proofs.Ytoogedjeclcdbaa
