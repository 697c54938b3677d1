/- Layer 8 (tx): Patch; all methods of a transaction that is done, and of none. -/
import Derived.Test.YthgdkpkhnhjifaaGreatTx5
namespace Go.Proofs.YthgdkpkhnhjifaaGreat
open Go.RowKit Go.Maps Go.Sort
set_option linter.unusedVariables false
set_option linter.unusedSimpArgs false
set_option maxRecDepth 10000
section
variable {W : World} {tb b jb m F n rec : Nat} {M : Dv} {L : PutL}
/-- The bytes s, laid over l from f on. -/
def over (l : List UInt8) (f : Nat) (s : List UInt8) : List UInt8 := l.take f ++ s ++ l.drop (f + s.length)
theorem over_length {l : List UInt8} (hl : l.length = 64) {f : Nat} {s : List UInt8} (h : f + s.length ≤ 64) : (over l f s).length = 64 := by
  unfold over
  rw [List.length_append, List.length_append, List.length_take, List.length_drop]
  omega
theorem txPatch_bad (h : TxOn W tb b jb m M L F n rec) (i f : Int) (s : List UInt8) (hs : s.length ≤ 140737488351232) (hbad : i < 0 ∨ (M.n : Int) ≤ i ∨ f < 0 ∨ 64 - (s.length : Int) < f) :
    Calls Tryz.prog 35 #[devp tb, .int .i64 i, .int .i64 f, str s] W fun e w' => e = .returned (.int .i64 2) ∧ Below W.heap.size W w' := by
  have hB := ((Below.refl W.heap.size W).alloc (Nat.le_refl _) (.cells #[.int .i64 f] 3)).alloc (by simp) (.cells #[str s] 9)
  have hr : Calls Tryz.prog 46 #[devp tb, .int .i64 i, .func (.func 59) #[] #[.pointer (some ⟨W.heap.size, 0, none⟩), .pointer (some ⟨W.heap.size + 1, 0, none⟩)]] ((W.alloc (.cells #[.int .i64 f] 3)).alloc (.cells #[str s] 9)) fun e w' => e = .returned (.int .i64 2) ∧ ((W.alloc (.cells #[.int .i64 f] 3)).alloc (.cells #[str s] 9)) = w' := by
    have h' := h.below hB
    by_cases hi : i < 0 ∨ (M.n : Int) ≤ i
    · exact refusal_out tb b M.n _ h'.tx.c3 h'.tx.c0 h'.len i _ hi
    · obtain ⟨k, rfl⟩ : ∃ k : Nat, i = (k : Int) := ⟨i.toNat, by omega⟩
      have e1 := up1 (o := .cells #[str s] 9) (cell_new_l W (.int .i64 f) 3)
      have e2 := cell_new_l (W.alloc (.cells #[.int .i64 f] 3)) (str s) 9
      rw [World.size_alloc] at e2
      exact refusal_patch tb b M.n _ h'.tx.c3 h'.tx.c0 h'.len k W.heap.size (W.heap.size + 1) f s false (by omega) e1 e2 hs (by
        rw [Bool.and_eq_false_iff, decide_eq_false_iff_not, decide_eq_false_iff_not]
        omega)
  have HR := Lib.hid hr
  have HB := Lib.hid hB
  clear hr hB h hbad
  go_enter Tryz.func35, Tryz.ntmps35
  go_wp2_with fail
  refine HR.out.mono ?_
  rintro e w1 ⟨rfl, rfl⟩
  go_wp2_with fail
  go_ret
  exact ⟨rfl, HB.out⟩
set_option maxHeartbeats 1000000 in
theorem txPatch_any (h : TxOn W tb b jb m M L F n rec) (i : Nat) (hi : i < M.n) (f : Nat) (s : List UInt8) (hf : f + s.length ≤ 64) (h64 : ((look L i).getD (M.cur i)).length = 64) (Q : Value → World → Prop)
    (hw : ∀ V, Below W.heap.size W V → Calls Tryz.prog 24 #[devp tb, .int .i64 (i : Int), str (over ((look L i).getD (M.cur i)) f s)] V fun e w' => ∃ r, e = .returned r ∧ Q r w' ∧ Only (fun k => k = m) V w') :
    Calls Tryz.prog 35 #[devp tb, .int .i64 (i : Int), .int .i64 (f : Int), str s] W fun e w' => ∃ r, e = .returned r ∧ Q r w' := by
  obtain ⟨X, hX⟩ : ∃ X, X = (W.alloc (.cells #[.int .i64 (f : Int)] 3)).alloc (.cells #[str s] 9) := ⟨_, rfl⟩
  have hB : Below W.heap.size W X := by rw [hX]; exact ((Below.refl W.heap.size W).alloc (Nat.le_refl _) _).alloc (by simp) _
  have hsX : X.heap.size = W.heap.size + 2 := by rw [hX]; simp
  have e1 : X.cell? ⟨W.heap.size, 0, none⟩ = some (.int .i64 (f : Int)) := by rw [hX]; exact up1 (cell_new_l W (.int .i64 (f : Int)) 3)
  have e2 : X.cell? ⟨W.heap.size + 1, 0, none⟩ = some (str s) := by
    rw [hX]
    have := cell_new_l (W.alloc (.cells #[.int .i64 (f : Int)] 3)) (str s) 9
    rwa [World.size_alloc] at this
  have h' := h.below hB
  have HR := Lib.hid (refusal_patch tb b M.n X h'.tx.c3 h'.tx.c0 h'.len i W.heap.size (W.heap.size + 1) f s true hi e1 e2 (by omega) (by
    rw [Bool.and_eq_true, decide_eq_true_eq, decide_eq_true_eq]; omega))
  have HRd := Lib.hid (txRead_any h' i hi)
  have hml := h.tx.lt.2
  have HW := Lib.hid hw
  have HB := Lib.hid hB
  generalize (look L i).getD (M.cur i) = now at *
  have b1 : (f : Int) ≤ (now.length : Int) := by omega
  have b2 : (f : Int) + (s.length : Int) ≤ (now.length : Int) := by omega
  have b3 : (0 : Int) ≤ (f : Int) + (s.length : Int) := by omega
  have b4 : IntKind.i64.wrap ((f : Int) + (s.length : Int)) = (f : Int) + (s.length : Int) := IntWalk.i64_in _ (by omega)
  have b5 : ((f : Int) + (s.length : Int)).toNat = f + s.length := by omega
  have b6 : ¬ 9223372036854775807 < min f now.length + s.length := by omega
  have b7 : ¬ 9223372036854775807 < min f now.length + s.length + (now.length - (f + s.length)) := by omega
  have b8 : ¬ 9223372036854775807 < min f now.length + (s.length + (now.length - (f + s.length))) := by omega
  unfold over at HW
  rw [List.append_assoc] at HW
  clear h h' hw hB h64
  go_enter Tryz.func35, Tryz.ntmps35
  go_wp2_with fail
  rw [← hX]
  clear hX
  refine HR.out.mono ?_
  rintro e w1 ⟨rfl, rfl⟩
  go_wp2_with fail
  refine HRd.out.mono ?_
  rintro e Y ⟨rfl, hb⟩
  have d1 := (hb.cell (p := ⟨W.heap.size, 0, none⟩) (by show W.heap.size < _; omega)).trans e1
  have d2 := (hb.cell (p := ⟨W.heap.size + 1, 0, none⟩) (by show W.heap.size + 1 < _; omega)).trans e2
  have HBY := Lib.hid (HB.out.trans (hb.mono (by omega)))
  have hsY := hb.size
  clear hb e1 e2
  go_wp2_with fail
  go_region_held3 (fun W' => W'.cell? ⟨W.heap.size, 0, none⟩ = some (.int .i64 (f : Int)) ∧ W'.cell? ⟨W.heap.size + 1, 0, none⟩ = some (str s))
    (exact ⟨d1, d2⟩)
    (first | (go_at_call 24; ((with_reducible refine (HW.out _ (HBY.out.drew)).mono ?_); rintro e w4 ⟨r, rfl, hq, ho⟩; have HQ := Lib.hid hq; have d1 := (cell_same 0 (ho.block W.heap.size (by show W.heap.size < Y.heap.size; omega) (by omega))).trans d1; have d2 := (cell_same 0 (ho.block (W.heap.size + 1) (by show W.heap.size + 1 < Y.heap.size; omega) (by omega))).trans d2; clear hq ho)))
  go_wp2_with fail
  go_ret
  exact ⟨_, rfl, HQ.out⟩
end
/-! What a transaction that is done answers. -/
section
variable (tb : Nat) (W : World) (h : W.cell? ⟨tb, 3, none⟩ = some (.bool true))
include h
theorem doneRead (i : Int) : Calls Tryz.prog 33 #[devp tb, .int .i64 i] W fun e w' => e = .returned (.tuple #[str [], .int .i64 80]) ∧ Below W.heap.size W w' := by
  go_enter Tryz.func33, Tryz.ntmps33
  go_wp2_with fail
  refine (refusal_done tb _ _ W h).mono ?_
  rintro e w1 ⟨rfl, rfl⟩
  go_wp2_with fail
  go_ret2
  exact ⟨rfl, Below.refl _ _⟩
theorem doneWrite (i : Int) (s : List UInt8) : Calls Tryz.prog 24 #[devp tb, .int .i64 i, str s] W fun e w' => e = .returned (.int .i64 80) ∧ Below W.heap.size W w' := by
  have hu := up1 (o := .cells #[str s] 9) h
  go_enter Tryz.func24, Tryz.ntmps24
  go_wp2_with fail
  refine (refusal_done tb _ _ _ hu).mono ?_
  rintro e w1 ⟨rfl, rfl⟩
  go_wp2_with fail
  go_ret
  exact ⟨rfl, (Below.refl _ W).alloc (Nat.le_refl _) _⟩
theorem donePatch (i f : Int) (s : List UInt8) : Calls Tryz.prog 35 #[devp tb, .int .i64 i, .int .i64 f, str s] W fun e w' => e = .returned (.int .i64 80) ∧ Below W.heap.size W w' := by
  have hu := up1 (o := .cells #[str s] 9) (up1 (o := .cells #[.int .i64 f] 3) h)
  go_enter Tryz.func35, Tryz.ntmps35
  go_wp2_with fail
  refine (refusal_done tb _ _ _ hu).mono ?_
  rintro e w1 ⟨rfl, rfl⟩
  go_wp2_with fail
  go_ret
  exact ⟨rfl, ((Below.refl _ W).alloc (Nat.le_refl _) _).alloc (by simp) _⟩
theorem doneTouched : Calls Tryz.prog 32 #[devp tb] W fun e w' => e = .returned (.slice none 0 0) ∧ Below W.heap.size W w' := by
  go_enter Tryz.func32, Tryz.ntmps32
  go_wp2_with fail
  refine (over_any tb true W h).mono ?_
  rintro e w1 ⟨rfl, rfl⟩
  go_wp2_with fail
  go_ret
  exact ⟨rfl, Below.refl _ _⟩
theorem doneRoom : Calls Tryz.prog 30 #[devp tb] W fun e w' => e = .returned (.int .i64 0) ∧ Below W.heap.size W w' := by
  go_enter Tryz.func30, Tryz.ntmps30
  go_wp2_with fail
  refine (over_any tb true W h).mono ?_
  rintro e w1 ⟨rfl, rfl⟩
  go_wp2_with fail
  go_ret
  exact ⟨rfl, Below.refl _ _⟩
theorem doneCommit : Calls Tryz.prog 18 #[devp tb] W fun e w' => e = .returned (.tuple #[.int .u64 0, .int .i64 80]) ∧ Below W.heap.size W w' := by
  go_enter Tryz.func18, Tryz.ntmps18
  go_wp2_with fail
  refine (over_any tb true W h).mono ?_
  rintro e w1 ⟨rfl, rfl⟩
  go_wp2_with fail
  go_ret2
  exact ⟨rfl, Below.refl _ _⟩
theorem doneAbort : Calls Tryz.prog 17 #[devp tb] W fun e w' => e = .returned (.int .i64 80) ∧ Below W.heap.size W w' := by
  go_enter Tryz.func17, Tryz.ntmps17
  go_wp2_with fail
  refine (over_any tb true W h).mono ?_
  rintro e w1 ⟨rfl, rfl⟩
  go_wp2_with fail
  go_ret
  exact ⟨rfl, Below.refl _ _⟩
end
/-! What none answers. -/
section
variable (W : World)
theorem nilRead (i : Int) : Calls Tryz.prog 33 #[.pointer none, .int .i64 i] W fun e w' => e = .returned (.tuple #[str [], .int .i64 1]) ∧ Below W.heap.size W w' := by
  go_enter Tryz.func33, Tryz.ntmps33
  go_wp2_with fail
  refine (refusal_nil _ _ W).mono ?_
  rintro e w1 ⟨rfl, rfl⟩
  go_wp2_with fail
  go_ret2
  exact ⟨rfl, Below.refl _ _⟩
theorem nilWrite (i : Int) (s : List UInt8) : Calls Tryz.prog 24 #[.pointer none, .int .i64 i, str s] W fun e w' => e = .returned (.int .i64 1) ∧ Below W.heap.size W w' := by
  go_enter Tryz.func24, Tryz.ntmps24
  go_wp2_with fail
  refine (refusal_nil _ _ _).mono ?_
  rintro e w1 ⟨rfl, rfl⟩
  go_wp2_with fail
  go_ret
  exact ⟨rfl, (Below.refl _ W).alloc (Nat.le_refl _) _⟩
theorem nilPatch (i f : Int) (s : List UInt8) : Calls Tryz.prog 35 #[.pointer none, .int .i64 i, .int .i64 f, str s] W fun e w' => e = .returned (.int .i64 1) ∧ Below W.heap.size W w' := by
  go_enter Tryz.func35, Tryz.ntmps35
  go_wp2_with fail
  refine (refusal_nil _ _ _).mono ?_
  rintro e w1 ⟨rfl, rfl⟩
  go_wp2_with fail
  go_ret
  exact ⟨rfl, ((Below.refl _ W).alloc (Nat.le_refl _) _).alloc (by simp) _⟩
theorem nilTouched : Calls Tryz.prog 32 #[.pointer none] W fun e w' => e = .returned (.slice none 0 0) ∧ Below W.heap.size W w' := by
  go_enter Tryz.func32, Tryz.ntmps32
  go_wp2_with fail
  refine (over_nil W).mono ?_
  rintro e w1 ⟨rfl, rfl⟩
  go_wp2_with fail
  go_ret
  exact ⟨rfl, Below.refl _ _⟩
theorem nilRoom : Calls Tryz.prog 30 #[.pointer none] W fun e w' => e = .returned (.int .i64 0) ∧ Below W.heap.size W w' := by
  go_enter Tryz.func30, Tryz.ntmps30
  go_wp2_with fail
  refine (over_nil W).mono ?_
  rintro e w1 ⟨rfl, rfl⟩
  go_wp2_with fail
  go_ret
  exact ⟨rfl, Below.refl _ _⟩
theorem nilCommit : Calls Tryz.prog 18 #[.pointer none] W fun e w' => e = .returned (.tuple #[.int .u64 0, .int .i64 1]) ∧ Below W.heap.size W w' := by
  go_enter Tryz.func18, Tryz.ntmps18
  go_wp2_with fail
  refine (over_nil W).mono ?_
  rintro e w1 ⟨rfl, rfl⟩
  go_wp2_with fail
  go_ret2
  exact ⟨rfl, Below.refl _ _⟩
theorem nilAbort : Calls Tryz.prog 17 #[.pointer none] W fun e w' => e = .returned (.int .i64 1) ∧ Below W.heap.size W w' := by
  go_enter Tryz.func17, Tryz.ntmps17
  go_wp2_with fail
  refine (over_nil W).mono ?_
  rintro e w1 ⟨rfl, rfl⟩
  go_wp2_with fail
  go_ret
  exact ⟨rfl, Below.refl _ _⟩
end
end Go.Proofs.YthgdkpkhnhjifaaGreat
