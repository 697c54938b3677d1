/- Layer 10 (dirs): the slots of a text, one by one. -/
import Derived.Test.YtmidoghjacmdcaaDirs15
import Derived.Test.YtmidoghjacmdcaaOctet6
import Derived.Test.YtmidoghjacmdcaaBaseScope
import Derived.Test.YtmidoghjacmdcaaBaseIter
namespace Go.Proofs.Ytmidoghjacmdcaa
open Go.RowKit Go.Shelf
set_option linter.unusedVariables false
set_option linter.unusedSimpArgs false
set_option maxRecDepth 10000
attribute [local go_sem] Oper.semAt_some
/-- A slot's number. -/
abbrev SlIx (s : List UInt8) := Fin (slots s).length
/-- The numbers below k. -/
def SlRow (s : List UInt8) (k : Nat) (xs : List (SlIx s)) : Prop := xs.map Fin.val = List.range' 0 k
theorem SlRow.nil (s : List UInt8) : SlRow s 0 [] := rfl
theorem SlRow.length {s : List UInt8} {k : Nat} {xs : List (SlIx s)} (h : SlRow s k xs) : xs.length = k := by
  have := congrArg List.length h
  simpa using this
theorem SlRow.snoc {s : List UInt8} {k : Nat} {xs : List (SlIx s)} (h : SlRow s k xs) (x : SlIx s) (hx : x.val = k) : SlRow s (k + 1) (xs ++ [x]) := by
  unfold SlRow at *
  rw [List.map_append, h, List.range'_concat]
  simp [hx]
theorem SlRow.unsnoc {s : List UInt8} {k : Nat} {xs : List (SlIx s)} {x : SlIx s} (h : SlRow s k (xs ++ [x])) : ∃ j, k = j + 1 ∧ SlRow s j xs ∧ x.val = j := by
  have hl := h.length
  simp only [List.length_append, List.length_singleton] at hl
  refine ⟨xs.length, hl.symm, ?_⟩
  subst hl
  unfold SlRow at *
  rw [List.map_append, List.range'_concat] at h
  have := List.append_inj h (by simp)
  exact ⟨this.1, by simpa using this.2⟩
/-- What cells from block n on hold stays. -/
def KeepHi (n : Nat) (W W' : World) : Prop := ∀ b o v, n ≤ b → W.cell? ⟨b, o, none⟩ = some v → W'.cell? ⟨b, o, none⟩ = some v
theorem KeepHi.refl (n : Nat) (W : World) : KeepHi n W W := fun _ _ _ _ h => h
theorem KeepHi.trans {n : Nat} {X Y Z : World} (h : KeepHi n X Y) (k : KeepHi n Y Z) : KeepHi n X Z := fun b o v hb e => k b o v hb (h b o v hb e)
theorem KeepHi.putObj {n l : Nat} {W : World} {o : Obj} (o' : Obj) (hl : W.heap[l]? = some o) (ho : o.isCells = false) : KeepHi n W (W.putObj l o') := fun b q v _ h =>
  cell_kept h (grownBy_putObj' W l o') (fun r e => by cases e; exact ⟨_, hl, ho⟩)
theorem KeepHi.below {n : Nat} {W W' : World} (h : Below W.heap.size W W') : KeepHi n W W' := fun b o v _ e => (h.cell (p := ⟨b, o, none⟩) (World.block_lt_of_cell? W _ e)).trans e
theorem KeepHi.setCell {n : Nat} (W : World) (p : Addr) (v : Value) (h : p.block < n) : KeepHi n W (W.setCell p v) := fun b o u hb e => by
  rw [World.cell?_setCell_other _ _ _ _ (by rintro rfl; simp at h; omega)]; exact e
theorem KeepHi.drew (n : Nat) (W : World) : KeepHi n W W.drew := fun _ _ _ _ h => h
theorem keeps_below {W W' : World} (h : Below W.heap.size W W') : KeepsOthers W W' := KeepsOthers.of_grownBy (grown_of_below h none) (fun j o e => by cases e)
theorem slots_any (s : List UInt8) (w : World) :
    Calls Try.prog 44 #[str s] w fun e w' => e = .returned (.func (.func 54) #[] #[.pointer (some ⟨w.heap.size, 0, none⟩)]) ∧ w' = w.alloc (.cells #[str s] 9) := by
  go_enter Try.func44, Try.ntmps44
  go_wp2_with fail
  go_ret
  exact ⟨rfl, rfl⟩
theorem own_texts {W : World} {base : Nat} {e : TypeId} {v : Value} {ps : List (List UInt8)} (h : W.ownsRow base e 1 v ps.length (ps.map str)) :
    ∃ A c, v = .slice A ps.length c ∧ ∀ j p, ps[j]? = some p → ∃ g, A = some ⟨g, 0, none⟩ ∧ base ≤ g ∧ W.cell? ⟨g, j, none⟩ = some (str p) := by
  obtain ⟨A, c, hv, hc⟩ := row_of_own h
  rw [List.length_map] at hv
  refine ⟨A, c, hv, fun j p hj => ?_⟩
  obtain ⟨g, hA, hcell⟩ := hc j (str p) (by simp [hj])
  refine ⟨g, hA, ?_, hcell⟩
  rcases h.2 with ⟨rfl, h0⟩ | ⟨g', cap, cur, hv', hb, _⟩
  · injection hv with e1 e2 e3
    rw [← e1] at hA; cases hA
  · rw [hv'] at hv
    injection hv with e1 e2 e3
    rw [← e1] at hA
    injection hA with e4
    injection e4 with e5
    omega
theorem partsL_len (n : Nat) : ∀ (f : Nat) (l : List UInt8), (partsL n f l).length ≤ f
  | 0, l => by simp [partsL]
  | f + 1, l => by
    unfold partsL
    split
    · simp
    · have := partsL_len n f (l.drop n)
      simp; omega
set_option maxRecDepth 100000 in
set_option maxHeartbeats 2000000 in
theorem slots_in (s : List UInt8) (hs : s.length ≤ 8192) (y Bs n₀ : Nat) (J Jx : List (SlIx s) → World → Prop)
    (W : World) (hJ : AbidesFrom W.heap.size J) (hn0 : n₀ ≤ W.heap.size)
    (hY : ∀ pre (x : SlIx s) W, J pre W → pre.length < (slots s).length → YieldAt Fence.wide 1 Try.prog y #[.int .i64 (x.val : Int), str (slots s)[x.val]] W fun e W' =>
      (e = .returned (.bool true) ∧ J (pre ++ [x]) W' ∧ KeepHi n₀ W W') ∨ (e = .returned (.bool false) ∧ Jx (pre ++ [x]) W'))
    (hcs : W.cell? ⟨Bs, 0, none⟩ = some (str s)) (h0 : J [] W) :
    CallsIn Fence.wide 2 Try.prog 54 #[.func (.yield y) #[] #[], .pointer (some ⟨Bs, 0, none⟩)] W fun e W' => (∃ v, e = .returned v) ∧
      ((∃ ys, SlRow s (slots s).length ys ∧ J ys W') ∨ (∃ pre, (∃ k, k ≤ (slots s).length ∧ SlRow s k pre) ∧ Jx pre W')) := by
  have HSp := Lib.hid fun V => split_ok s 32 V hs (by decide) (by decide)
  have HJ := Lib.hid hJ
  clear hJ
  refine callsIn_of_wp Try.func54 rfl trivial ?_ rfl
  simp only [Try.ntmps54, List.size_toArray, List.length_cons, List.length_nil, Nat.reduceAdd, Nat.reduceSub, Array.replicate_succ, Array.replicate_zero, List.push_toArray, List.append_toArray, List.nil_append, List.cons_append]
  gi_wp2_with fail
  refine ⟨trivial, (callsIn_wide.2 (HSp.out _)).mono ?_⟩
  rintro e w1 ⟨v, rfl, hown, hb1⟩
  have h1 : J [] w1 := HJ.out [] W w1 none h0 (grown_of_below hb1 none) (fun r e => by cases e)
  have hown : w1.ownsRow W.heap.size 9 1 v (slots s).length ((slots s).map str) := hown
  obtain ⟨A, c, rfl, hc⟩ := own_texts hown
  have Hc := Lib.hid hc
  clear hc hown HSp HJ h0 hcs
  gi_wp2_with fail
  gi_loopw [14] (fun i wr => ∃ (k : Nat) (pre : List (SlIx s)), k ≤ (slots s).length ∧ i = .int .i64 (k : Int) ∧ SlRow s k pre ∧ J pre wr ∧ KeepHi n₀ w1 wr)
    (fun i _ => (slots s).length - (Go.RowKit.intOf i).toNat)
  case atStart => exact ⟨0, [], Nat.zero_le _, rfl, SlRow.nil _, h1, KeepHi.refl _ _⟩
  case round =>
    obtain ⟨k, pre, hk, rfl, hrow, hJs, hnx⟩ := hrel
    have Hrow := Lib.hid hrow
    have Hnx := Lib.hid hnx
    clear hrow hnx
    by_cases hlt : k < (slots s).length
    · obtain ⟨fn, tmps, assign, body, hy, hR⟩ := hY pre ⟨k, hlt⟩ wr hJs (by rw [Hrow.out.length]; omega)
      obtain ⟨g, rfl, hg, hcell⟩ := Hc.out k _ (List.getElem?_eq_getElem hlt)
      have hcx := Hnx.out g k _ (by omega) hcell
      dsimp only at hy
      have hltz : (k : Int) < ((slots s).length : Int) := by omega
      have h81 : (slots s).length ≤ 8192 := partsL_len 32 8192 s
      generalize (slots s)[k] = p at *
      clear hcell
      gi_wp2_with fail
      refine hR.mono ?_
      rintro e W3 (⟨rfl, hJ3, hk3⟩ | ⟨rfl, hJx3⟩)
      · gi_wp2_with fail
        go_roundw
        case rel => exact ⟨k + 1, pre ++ [⟨k, hlt⟩], by omega, by go_num, Hrow.out.snoc _ rfl, hJ3, Hnx.out.trans hk3⟩
        case measure => simp [Go.RowKit.intOf]; omega
      · gi_wp2_with fail
        refine bodyPost_ret (results_none rfl _ _ _) rfl ?_
        exact ⟨⟨_, rfl⟩, .inr ⟨_, ⟨k + 1, by omega, Hrow.out.snoc ⟨k, hlt⟩ rfl⟩, hJx3⟩⟩
    · have hkn : k = (slots s).length := by omega
      have hltz : ¬ (k : Int) < ((slots s).length : Int) := by omega
      have Hkn := Lib.hid hkn
      clear hkn
      gi_wp2_with fail
      go_end0
      exact ⟨⟨_, rfl⟩, .inl ⟨pre, by have := Hrow.out; rwa [Hkn.out] at this, hJs⟩⟩
end Go.Proofs.Ytmidoghjacmdcaa
