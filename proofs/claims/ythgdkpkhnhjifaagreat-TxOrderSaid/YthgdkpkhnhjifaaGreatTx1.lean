/- Layer 8 (tx): a transaction in memory; what is refused. -/
import Derived.Test.YthgdkpkhnhjifaaGreatTxSys
import Derived.Test.YthgdkpkhnhjifaaGreatTxM
import Derived.BigRegion
namespace Go.Proofs.YthgdkpkhnhjifaaGreat
open Go.RowKit Go.Maps
set_option linter.unusedVariables false
set_option linter.unusedSimpArgs false
set_option maxRecDepth 10000
/-- A write, as the map has it. -/
def putX (i : Nat) (d : List UInt8) : Value := .agg #[.int .i64 (i : Int), str d]
def txE (L : PutL) (i : Nat) : Option Value := (look L i).map (putX i)
theorem txE_isSome (L : PutL) (i : Nat) : (txE L i).isSome = (look L i).isSome := by unfold txE; cases look L i <;> rfl
theorem txE_ins (L : PutL) (i : Nat) (d : List UInt8) : txE (ins L i d) = upd (txE L) i (some (putX i d)) := by
  funext j
  unfold txE
  rw [look_ins]
  unfold upd
  by_cases e : j = i
  · subst e; simp
  · rw [if_neg e, if_neg e]
/-- A transaction at tb, on the device at b and the journal at jb; its map is m, of n sectors; it has written L. -/
structure TxIn (W : World) (tb b jb m n : Nat) (L : PutL) : Prop where
  c0 : W.cell? ⟨tb, 0, none⟩ = some (devp b)
  c1 : W.cell? ⟨tb, 1, none⟩ = some (devp jb)
  c2 : W.cell? ⟨tb, 2, none⟩ = some (.map (some m))
  c3 : W.cell? ⟨tb, 3, none⟩ = some (.bool false)
  f2 : W.frozen? ⟨tb, 2, none⟩ = false
  f3 : W.frozen? ⟨tb, 3, none⟩ = false
  map : IMap Tryz.prog 3 W m n (txE L)
  asc : asc L
  ok : PutsOk n L
  small : n ≤ 4096
  ne : tb ≠ m
theorem TxIn.kept {W W' : World} {tb b jb m n : Nat} {L : PutL} (h : TxIn W tb b jb m n L) (h1 : W'.heap[tb]? = W.heap[tb]?) (h2 : W'.heap[m]? = W.heap[m]?) : TxIn W' tb b jb m n L :=
  { h with
    c0 := (cell_same 0 h1).trans h.c0
    c1 := (cell_same 1 h1).trans h.c1
    c2 := (cell_same 2 h1).trans h.c2
    c3 := (cell_same 3 h1).trans h.c3
    f2 := (World.frozen?_of_block (a := ⟨tb, 2, none⟩) h1).trans h.f2
    f3 := (World.frozen?_of_block (a := ⟨tb, 3, none⟩) h1).trans h.f3
    map := h.map.kept h2 }
theorem TxIn.lt {W : World} {tb b jb m n : Nat} {L : PutL} (h : TxIn W tb b jb m n L) : tb < W.heap.size ∧ m < W.heap.size := ⟨World.block_lt_of_cell? W _ h.c0, h.map.lt⟩
theorem TxIn.below {W W' : World} {tb b jb m n : Nat} {L : PutL} (h : TxIn W tb b jb m n L) (hb : Below W.heap.size W W') : TxIn W' tb b jb m n L :=
  h.kept (hb.block tb h.lt.1) (hb.block m h.lt.2)
theorem TxIn.len_le {W : World} {tb b jb m n : Nat} {L : PutL} (h : TxIn W tb b jb m n L) : L.length ≤ n := by
  have := nodup_bound n (L.map (·.1)) (asc_nodup h.asc) (fun x hx => by obtain ⟨p, hp, rfl⟩ := List.mem_map.1 hx; exact (h.ok p hp).1)
  simpa using this
def txR (tb b jb n : Nat) (L : PutL) : Res where
  at_ S W := ∃ m, TxIn W tb b jb m n L ∧ ∀ k, S k ↔ k = tb ∨ k = m
  lt S W h k hk := by
    obtain ⟨m, h1, h2⟩ := h
    rcases (h2 k).1 hk with rfl | rfl
    · exact h1.lt.1
    · exact h1.lt.2
  kept S W W' h hs hb := by
    obtain ⟨m, h1, h2⟩ := h
    exact ⟨m, h1.kept (hb tb ((h2 tb).2 (.inl rfl))) (hb m ((h2 m).2 (.inr rfl))), h2⟩
/-- One that is done. -/
def doneR (tb : Nat) : Res := memR (fun k => k = tb) (fun W => W.cell? ⟨tb, 3, none⟩ = some (.bool true)) fun W W' h hb => (cell_same 3 (hb tb rfl)).trans h
/-! What is refused. -/
theorem over_nil (W : World) : Calls Tryz.prog 41 #[.pointer none] W fun e w' => e = .returned (.int .i64 1) ∧ W = w' := by
  go_enter Tryz.func41, Tryz.ntmps41
  go_wp2
  go_ret
  exact ⟨rfl, rfl⟩
theorem over_any (tb : Nat) (d : Bool) (W : World) (h : W.cell? ⟨tb, 3, none⟩ = some (.bool d)) : Calls Tryz.prog 41 #[devp tb] W fun e w' => e = .returned (.int .i64 (if d then 80 else 0)) ∧ W = w' := by
  cases d
  all_goals
    go_enter Tryz.func41, Tryz.ntmps41
    go_wp2
    go_ret
    exact ⟨rfl, rfl⟩
theorem refusal_nil (i v : Value) (W : World) : Calls Tryz.prog 46 #[.pointer none, i, v] W fun e w' => e = .returned (.int .i64 1) ∧ W = w' := by
  go_enter Tryz.func46, Tryz.ntmps46
  go_wp2_with fail
  refine (over_nil W).mono ?_
  rintro e w1 ⟨rfl, rfl⟩
  go_wp2_with fail
  go_ret
  exact ⟨rfl, rfl⟩
theorem refusal_done (tb : Nat) (i v : Value) (W : World) (h : W.cell? ⟨tb, 3, none⟩ = some (.bool true)) : Calls Tryz.prog 46 #[devp tb, i, v] W fun e w' => e = .returned (.int .i64 80) ∧ W = w' := by
  go_enter Tryz.func46, Tryz.ntmps46
  go_wp2_with fail
  refine (over_any tb true W h).mono ?_
  rintro e w1 ⟨rfl, rfl⟩
  go_wp2_with fail
  go_ret
  exact ⟨rfl, rfl⟩
section
variable (tb b N : Nat) (W : World) (h3 : W.cell? ⟨tb, 3, none⟩ = some (.bool false)) (h0 : W.cell? ⟨tb, 0, none⟩ = some (devp b))
  (hlen : Calls Tryz.prog 51 #[devp b] W fun e w' => e = .returned (.int .i64 (N : Int)) ∧ W = w')
include h3 h0 hlen
theorem refusal_out (i : Int) (v : Value) (hi : i < 0 ∨ (N : Int) ≤ i) : Calls Tryz.prog 46 #[devp tb, .int .i64 i, v] W fun e w' => e = .returned (.int .i64 2) ∧ W = w' := by
  have HL := Lib.hid hlen
  clear hlen
  by_cases h : i < 0
  · have hd : decide (i < 0) = true := decide_eq_true h
    go_enter Tryz.func46, Tryz.ntmps46
    go_wp2_with fail
    refine (over_any tb false W h3).mono ?_
    rintro e w1 ⟨rfl, rfl⟩
    go_wp2_with fail
    go_ret
    exact ⟨rfl, rfl⟩
  · have hd : decide (i < 0) = false := decide_eq_false h
    have hd2 : decide ((N : Int) ≤ i) = true := decide_eq_true (by omega)
    clear hi
    go_enter Tryz.func46, Tryz.ntmps46
    go_wp2_with fail
    refine (over_any tb false W h3).mono ?_
    rintro e w1 ⟨rfl, rfl⟩
    go_wp2_with fail
    refine HL.out.mono ?_
    rintro e w1 ⟨rfl, rfl⟩
    go_wp2_with fail
    go_ret
    exact ⟨rfl, rfl⟩
theorem refusal_read (i : Nat) (hi : i < N) : Calls Tryz.prog 46 #[devp tb, .int .i64 (i : Int), .func (.func 56) #[] #[]] W fun e w' => e = .returned (.int .i64 0) ∧ W = w' := by
  have HL := Lib.hid hlen
  clear hlen
  have hd : decide ((i : Int) < 0) = false := decide_eq_false (by omega)
  have hd2 : decide ((N : Int) ≤ (i : Int)) = false := decide_eq_false (by omega)
  have hm : Calls Tryz.prog 56 #[] W fun e w' => e = .returned (.bool true) ∧ W = w' := by
    go_enter Tryz.func56, Tryz.ntmps56
    go_wp2
    go_ret
    exact ⟨rfl, rfl⟩
  have HM := Lib.hid hm
  clear hm
  go_enter Tryz.func46, Tryz.ntmps46
  go_wp2_with fail
  refine (over_any tb false W h3).mono ?_
  rintro e w1 ⟨rfl, rfl⟩
  go_wp2_with fail
  refine HL.out.mono ?_
  rintro e w1 ⟨rfl, rfl⟩
  go_wp2_with fail
  refine HM.out.mono ?_
  rintro e w1 ⟨rfl, rfl⟩
  go_wp2_with fail
  go_ret
  exact ⟨rfl, rfl⟩
theorem refusal_write (i p : Nat) (s : List UInt8) (r : Bool) (hi : i < N) (hp : W.cell? ⟨p, 0, none⟩ = some (str s)) (hr : ((s.length : Int) == 64) = r) :
    Calls Tryz.prog 46 #[devp tb, .int .i64 (i : Int), .func (.func 47) #[] #[.pointer (some ⟨p, 0, none⟩)]] W fun e w' => e = .returned (.int .i64 (if r then 0 else 2)) ∧ W = w' := by
  have HL := Lib.hid hlen
  clear hlen
  have hd : decide ((i : Int) < 0) = false := decide_eq_false (by omega)
  have hd2 : decide ((N : Int) ≤ (i : Int)) = false := decide_eq_false (by omega)
  have hm : Calls Tryz.prog 47 #[.pointer (some ⟨p, 0, none⟩)] W fun e w' => e = .returned (.bool r) ∧ W = w' := by
    go_enter Tryz.func47, Tryz.ntmps47
    go_wp2
    go_ret
    exact ⟨rfl, rfl⟩
  have HM := Lib.hid hm
  clear hm
  cases r
  all_goals
    go_enter Tryz.func46, Tryz.ntmps46
    go_wp2_with fail
    refine (over_any tb false W h3).mono ?_
    rintro e w1 ⟨rfl, rfl⟩
    go_wp2_with fail
    refine HL.out.mono ?_
    rintro e w1 ⟨rfl, rfl⟩
    go_wp2_with fail
    refine HM.out.mono ?_
    rintro e w1 ⟨rfl, rfl⟩
    go_wp2_with fail
    go_ret
    exact ⟨rfl, rfl⟩
theorem refusal_patch (i p q : Nat) (f : Int) (s : List UInt8) (r : Bool) (hi : i < N) (hp : W.cell? ⟨p, 0, none⟩ = some (.int .i64 f)) (hq : W.cell? ⟨q, 0, none⟩ = some (str s)) (hs : s.length ≤ 140737488351232) (hr : (decide (0 ≤ f) && decide (f ≤ 64 - (s.length : Int))) = r) :
    Calls Tryz.prog 46 #[devp tb, .int .i64 (i : Int), .func (.func 59) #[] #[.pointer (some ⟨p, 0, none⟩), .pointer (some ⟨q, 0, none⟩)]] W fun e w' => e = .returned (.int .i64 (if r then 0 else 2)) ∧ W = w' := by
  have HL := Lib.hid hlen
  clear hlen
  have hd : decide ((i : Int) < 0) = false := decide_eq_false (by omega)
  have hd2 : decide ((N : Int) ≤ (i : Int)) = false := decide_eq_false (by omega)
  have hm : Calls Tryz.prog 59 #[.pointer (some ⟨p, 0, none⟩), .pointer (some ⟨q, 0, none⟩)] W fun e w' => e = .returned (.bool r) ∧ W = w' := by
    by_cases h1 : 0 ≤ f
    · have e1 : decide (0 ≤ f) = true := decide_eq_true h1
      rw [e1, Bool.true_and] at hr
      go_enter Tryz.func59, Tryz.ntmps59
      go_wp2
      go_ret
      exact ⟨rfl, rfl⟩
    · have e1 : decide (0 ≤ f) = false := decide_eq_false h1
      rw [e1, Bool.false_and] at hr
      subst hr
      go_enter Tryz.func59, Tryz.ntmps59
      go_wp2
      go_ret
      exact ⟨rfl, rfl⟩
  have HM := Lib.hid hm
  clear hm
  cases r
  all_goals
    go_enter Tryz.func46, Tryz.ntmps46
    go_wp2_with fail
    refine (over_any tb false W h3).mono ?_
    rintro e w1 ⟨rfl, rfl⟩
    go_wp2_with fail
    refine HL.out.mono ?_
    rintro e w1 ⟨rfl, rfl⟩
    go_wp2_with fail
    refine HM.out.mono ?_
    rintro e w1 ⟨rfl, rfl⟩
    go_wp2_with fail
    go_ret
    exact ⟨rfl, rfl⟩
end
/-! Begin, and the end. -/
theorem begin_nil (v : Value) (W : World) : Calls Tryz.prog 10 #[.pointer none, v] W fun e w' => e = .returned (.tuple #[.pointer none, .int .i64 1]) ∧ W = w' := by
  go_enter Tryz.func10, Tryz.ntmps10
  go_wp2_with fail
  go_ret2
  exact ⟨rfl, rfl⟩
theorem begin_any (b jb n : Nat) (hn : n ≤ 4096) (W : World) : Calls Tryz.prog 10 #[devp b, devp jb] W fun e w' => e = .returned (.tuple #[devp (W.heap.size + 1), .int .i64 0]) ∧ Below W.heap.size W w' ∧ TxIn w' (W.heap.size + 1) b jb W.heap.size n [] := by
  have hmm := @run_makeMap Tryz.prog
  go_enter Tryz.func10, Tryz.ntmps10
  go_wp2_with fail
  go_ret2
  have hnew := heap_alloc_new (W.alloc (.map #[] 0)) (.cells #[devp b, devp jb, .map (some W.heap.size), .bool false] 76)
  have hs1 : (W.alloc (.map #[] 0)).heap.size = W.heap.size + 1 := by simp
  rw [hs1] at hnew
  refine ⟨by simp [devp], ((Below.refl _ W).alloc (Nat.le_refl _) _).alloc (by simp) _, ?_⟩
  refine ⟨cell_of_row _ _ 0 _ _ _ hnew, cell_of_row _ _ 1 _ _ _ hnew, cell_of_row _ _ 2 _ _ _ hnew, cell_of_row _ _ 3 _ _ _ hnew, frozen_of_row _ _ 2 _ _ hnew, frozen_of_row _ _ 3 _ _ hnew, ?_, asc_nil, fun p hp => by simp at hp, hn, by omega⟩
  have h1 := (IMap.made W Tryz.prog 3 n).congr (g := txE []) fun i _ => rfl
  exact h1.kept (Below.heap_alloc _ _ _ (by simp))
theorem finish_any (tb : Nat) (W : World) (v2 v3 : Value) (h2 : W.cell? ⟨tb, 2, none⟩ = some v2) (h3 : W.cell? ⟨tb, 3, none⟩ = some v3) (f2 : W.frozen? ⟨tb, 2, none⟩ = false) (f3 : W.frozen? ⟨tb, 3, none⟩ = false) :
    Calls Tryz.prog 42 #[devp tb] W fun e w' => e = .returned (.tuple #[]) ∧ w' = (W.setCell ⟨tb, 2, none⟩ (.map none)).setCell ⟨tb, 3, none⟩ (.bool true) := by
  go_enter Tryz.func42, Tryz.ntmps42
  go_wp2_with fail
  go_end0
  exact ⟨rfl, rfl⟩
end Go.Proofs.YthgdkpkhnhjifaaGreat
