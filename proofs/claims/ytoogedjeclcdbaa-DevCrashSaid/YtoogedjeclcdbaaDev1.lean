/- Layer 3 (dev): what only reads a device, and what writes its head. -/
import Derived.Test.YtoogedjeclcdbaaDevAt
namespace Go.Proofs.Ytoogedjeclcdbaa
open Go.RowKit Go.Maps
set_option linter.unusedVariables false
/-- A device as a value. -/
abbrev devp (b : Nat) : Value := .pointer (some ⟨b, 0, none⟩)
def downErr (down : Bool) : Int := if down then 30 else 0
theorem works_any (b : Nat) (down : Bool) (W : World) (h1 : W.cell? ⟨b, 1, none⟩ = some (.bool down)) :
    Calls Try.prog 24 #[devp b] W fun e w' => e = .returned (.int .i64 (downErr down)) ∧ W = w' := by
  cases down
  all_goals
    go_enter Try.func24, Try.ntmps24
    go_wp2
    go_ret
    exact ⟨rfl, rfl⟩
theorem has_yes (b g c n i : Nat) (W : World) (hn : n ≤ 4096) (hi : i < n) (h2 : W.cell? ⟨b, 2, none⟩ = some (.slice (some ⟨g, 0, none⟩) n c)) :
    Calls Try.prog 25 #[devp b, .int .i64 (i : Int)] W fun e w' => e = .returned (.bool true) ∧ W = w' := by
  go_enter Try.func25, Try.ntmps25
  go_wp2
  go_ret
  exact ⟨rfl, rfl⟩
theorem has_no (b g c n : Nat) (i : Int) (W : World) (hn : n ≤ 4096) (hi : i < 0 ∨ (n : Int) ≤ i) (h2 : W.cell? ⟨b, 2, none⟩ = some (.slice (some ⟨g, 0, none⟩) n c)) :
    Calls Try.prog 25 #[devp b, .int .i64 i] W fun e w' => e = .returned (.bool false) ∧ W = w' := by
  rcases hi with hi | hi
  · go_enter Try.func25, Try.ntmps25
    go_wp2
    go_ret
    exact ⟨rfl, rfl⟩
  · have h0 : 0 ≤ i := by omega
    have hlt : decide (i < (n : Int)) = false := by simpa using hi
    go_enter Try.func25, Try.ntmps25
    go_wp2
    go_ret
    exact ⟨rfl, rfl⟩
theorem downFn_any (b : Nat) (down : Bool) (W : World) (h1 : W.cell? ⟨b, 1, none⟩ = some (.bool down)) :
    Calls Try.prog 20 #[devp b] W fun e w' => e = .returned (.bool down) ∧ W = w' := by
  go_enter Try.func20, Try.ntmps20
  go_wp2
  go_ret
  exact ⟨rfl, rfl⟩
theorem writes_any (b : Nat) (wr : Int) (W : World) (h4 : W.cell? ⟨b, 4, none⟩ = some (.int .u64 wr)) :
    Calls Try.prog 21 #[devp b] W fun e w' => e = .returned (.int .u64 wr) ∧ W = w' := by
  go_enter Try.func21, Try.ntmps21
  go_wp2
  go_ret
  exact ⟨rfl, rfl⟩
/-- A row's one field. -/
theorem row_field (A : Option Addr) (n cap : Nat) (W : World) : (Instr.field 62 (.agg #[.slice A n cap]) 0).run Try.prog W = .ok (.slice A n cap) W := by kernel_rfl
theorem row_build (A : Option Addr) (n cap : Nat) (W : World) : (Instr.build 62 #[(0, .slice A n cap)]).run Try.prog W = .ok (.agg #[.slice A n cap]) W := by kernel_rfl
/-- The row at key i, looked up. -/
theorem look_row {S : Nat → Prop} {W : World} {b g c m : Nat} {vals : Nat → Value} {M : Dv} (h : DevIn S W b g c m vals M) (i : Nat) (hi : i < M.n) :
    ∃ A cap, (Instr.lookup 54 (.map (some m)) (.int .i64 (i : Int)) false).run Try.prog W = .ok (.agg #[.slice A (M.row i).length cap]) W ∧
      ((M.row i = [] ∧ A = none ∧ cap = 0) ∨ (M.row i ≠ [] ∧ .slice A (M.row i).length cap = vals i)) := by
  have hr := h.ro.map.look Try.underlying3 Try.underlying54 (Try.zeroValue62 W) (by have := h.fine.n; omega) hi
  by_cases hrow : M.row i = []
  · rw [entry_none hrow] at hr
    exact ⟨none, 0, by rw [hr, hrow]; rfl, .inl ⟨hrow, rfl, rfl⟩⟩
  · rw [entry_some hrow] at hr
    obtain ⟨g', off, cap, hv, _⟩ := h.ro.at_ i hrow
    exact ⟨_, _, by rw [hr, hv]; rfl, .inr ⟨hrow, hv.symm⟩⟩
set_option maxRecDepth 100000 in
theorem cached_raw (b m i n cap : Nat) (A : Option Addr) (W : World) (h3 : W.cell? ⟨b, 3, none⟩ = some (.map (some m)))
    (hl : (Instr.lookup 54 (.map (some m)) (.int .i64 (i : Int)) false).run Try.prog W = .ok (.agg #[.slice A n cap]) W) :
    Calls Try.prog 19 #[devp b, .int .i64 (i : Int)] W fun e w' => e = .returned (.int .i64 (n : Int)) ∧ W = w' := by
  have hf := row_field A n cap
  go_enter Try.func19, Try.ntmps19
  go_wp2
  go_ret
  exact ⟨rfl, rfl⟩
theorem cached_any {S : Nat → Prop} {W : World} {b : Nat} {M : Dv} (h : DevAt S W b M) (i : Nat) (hi : i < M.n) :
    Calls Try.prog 19 #[devp b, .int .i64 (i : Int)] W fun e w' => e = .returned (.int .i64 ((M.row i).length : Int)) ∧ W = w' := by
  obtain ⟨g, c, m, vals, h⟩ := h
  obtain ⟨A, cap, hl, _⟩ := look_row h i hi
  exact cached_raw b m i _ cap A W h.head.c3 hl
end Go.Proofs.Ytoogedjeclcdbaa
