/- Layer 3 (dev): the scripts of the statements. -/
import Derived.Test.YtoogedjeclcdbaaDev14
namespace Go.Proofs.Ytoogedjeclcdbaa
open Go.RowKit Go.Maps
set_option linter.unusedVariables false
/-- A step. -/
structure St where
  op : Int
  at_ : Int
  num : Int
  s : List UInt8
  raw : Bool
deriving Inhabited
/-- What it writes. -/
def St.text (x : St) : List UInt8 := if x.raw then x.s else secOf x.s
def St.val (x : St) : Value := .agg #[.int .i64 x.op, .int .i64 x.at_, .int .i64 x.num, str x.s, .bool x.raw]
theorem text_any (x : St) (w : World) (hl : x.s.length ≤ 140737488351232) : Calls Try.prog 11 #[x.val] w fun e w' => e = .returned (str x.text) ∧ Below w.heap.size w w' := by
  obtain ⟨op, i, k, s, raw⟩ := x
  show Calls _ _ #[.agg #[.int .i64 op, .int .i64 i, .int .i64 k, str s, .bool raw]] _ _
  cases raw
  · go_enter Try.func11, Try.ntmps11
    go_wp2_with fail
    refine (sector_any s _ hl).mono ?_
    rintro e w2 ⟨rfl, hb⟩
    go_wp2_with fail
    go_ret
    refine ⟨by simp [St.text], ?_⟩
    exact ((Below.refl _ _).alloc (Nat.le_refl _) _).trans (hb.mono (by simp))
  · go_enter Try.func11, Try.ntmps11
    go_wp2_with fail
    go_ret
    exact ⟨rfl, (Below.refl _ _).alloc (Nat.le_refl _) _⟩
/-- The cell behind an element's first. -/
def behind (a : Addr) (k q : Nat) : Addr := ⟨(a.add k).block, (a.add k).off + q, none⟩
theorem behind_add (a : Addr) (k q : Nat) (hq : q ≠ 0) : a.add (k + q) = behind a k q := by
  unfold behind Addr.add
  rw [if_neg (by omega)]
  by_cases h : k = 0
  · subst h; simp
  · simp [h]; omega
/-- The slice v is the script l. -/
def Steps (w : World) (v : Value) (l : List St) : Prop :=
  ∃ A c, v = .slice A l.length c ∧ ∀ j x, l[j]? = some x → ∃ a : Addr, A = some a ∧ w.cell? (a.add (j * 5)) = some (.int .i64 x.op) ∧ w.cell? (behind a (j * 5) 1) = some (.int .i64 x.at_) ∧ w.cell? (behind a (j * 5) 2) = some (.int .i64 x.num) ∧ w.cell? (behind a (j * 5) 3) = some (str x.s) ∧ w.cell? (behind a (j * 5) 4) = some (.bool x.raw)
/-- What long counts. -/
def textSum (l : List St) (k : Nat) : Nat := ((l.take k).map fun x => x.s.length).sum
theorem textSum_succ (l : List St) (k : Nat) (h : k < l.length) : textSum l (k + 1) = textSum l k + l[k].s.length := by
  unfold textSum
  rw [List.take_add_one, List.getElem?_eq_getElem h]
  simp only [Option.toList_some, List.map_append, List.sum_append, List.map_cons, List.map_nil, List.sum_cons, List.sum_nil, Nat.add_zero]
theorem textSum_le (l : List St) (hs : ∀ x ∈ l, x.s.length ≤ 140737488351232) (k : Nat) (h : k ≤ l.length) : textSum l k ≤ k * 140737488351232 := by
  induction k with
  | zero => simp [textSum]
  | succ k ih =>
    rw [textSum_succ l k h]
    have := ih (by omega); have := hs l[k] (List.getElem_mem _); omega
def longFlag (l : List St) : Bool := decide (150 < l.length) || decide (8192 < textSum l (min l.length 300))
set_option maxRecDepth 100000 in
theorem long_any (v : Value) (l : List St) (w : World) (h : Steps w v l) (hs : ∀ x ∈ l, x.s.length ≤ 140737488351232) (hn : l.length ≤ maxLen) :
    Calls Try.prog 6 #[v] w fun e w' => e = .returned (.bool (longFlag l)) ∧ w = w' := by
  obtain ⟨A, c, rfl, hc⟩ := h
  have H := Lib.hid hc
  have HS := Lib.hid hs
  clear hc hs
  go_enter Try.func6, Try.ntmps6
  go_wp2
  go_loopw [3, 4] (fun n i wr => ∃ k : Nat, k ≤ l.length ∧ k ≤ 300 ∧ n = .int .i64 (textSum l k : Int) ∧ i = .int .i64 k ∧ w = wr) (fun n i _ => l.length - (intOf i).toNat)
  case atStart => exact ⟨0, Nat.zero_le _, by omega, rfl, rfl, rfl⟩
  case round =>
    obtain ⟨k, hk, hk3, rfl, rfl, rfl⟩ := hrel
    by_cases hlt : k < l.length ∧ k < 300
    · obtain ⟨a, rfl, -, -, -, hx, -⟩ := H.out k l[k] (List.getElem?_eq_getElem hlt.1)
      unfold behind at hx
      have h1 := textSum_succ l k hlt.1
      have h2 := textSum_le l HS.out (k + 1) (by omega)
      go_wp2
      go_roundw
      case rel => exact ⟨k + 1, by omega, by omega, by rw [h1]; simp, by simp, trivial⟩
      case measure => simp [intOf]; omega
    · have hd : longFlag l = (decide ((150 : Int) < l.length) || decide ((8192 : Int) < (textSum l k : Nat))) := by
        have : k = min l.length 300 := by omega
        unfold longFlag
        subst this
        congr 1
        · exact decide_eq_decide.2 (by omega)
        · exact decide_eq_decide.2 (by omega)
      by_cases hl : k = l.length
      · subst hl
        go_wp2
        · go_ret
          first | exact ⟨rfl, rfl⟩ | exact ⟨congrArg (fun b => Ending.returned (.bool b)) hd.symm, rfl⟩
        · go_ret
          first | exact ⟨rfl, rfl⟩ | exact ⟨congrArg (fun b => Ending.returned (.bool b)) hd.symm, rfl⟩
      · obtain rfl : k = 300 := by omega
        go_wp2
        · go_ret
          first | exact ⟨rfl, rfl⟩ | exact ⟨congrArg (fun b => Ending.returned (.bool b)) hd.symm, rfl⟩
end Go.Proofs.Ytoogedjeclcdbaa
