/- Layer 6 (bits): the bits from a on, one by one. -/
import Derived.Test.YthdkbhoeonnkmaaBits1
namespace Go.Proofs.Ythdkbhoeonnkmaa
open Go.RowKit Go.Shelf
set_option linter.unusedVariables false
set_option linter.unusedSimpArgs false
set_option maxRecDepth 10000
attribute [local go_sem] Oper.semAt_some
/-- A bit's number. -/
abbrev BitIx (l : List UInt8) := Fin (8 * l.length)
/-- The numbers from a on, k of them. -/
def BitRow (l : List UInt8) (a k : Nat) (xs : List (BitIx l)) : Prop := xs.map Fin.val = List.range' a k
theorem BitRow.nil (l : List UInt8) (a : Nat) : BitRow l a 0 [] := rfl
theorem BitRow.length {l : List UInt8} {a k : Nat} {xs : List (BitIx l)} (h : BitRow l a k xs) : xs.length = k := by
  have := congrArg List.length h
  simpa using this
theorem BitRow.snoc {l : List UInt8} {a k : Nat} {xs : List (BitIx l)} (h : BitRow l a k xs) (x : BitIx l) (hx : x.val = a + k) : BitRow l a (k + 1) (xs ++ [x]) := by
  unfold BitRow at *
  rw [List.map_append, h, List.range'_concat]
  simp [hx]
theorem BitRow.unsnoc {l : List UInt8} {a k : Nat} {xs : List (BitIx l)} {x : BitIx l} (h : BitRow l a k (xs ++ [x])) : ∃ j, k = j + 1 ∧ BitRow l a j xs ∧ x.val = a + j := by
  have hl := h.length
  simp only [List.length_append, List.length_singleton] at hl
  refine ⟨xs.length, hl.symm, ?_⟩
  subst hl
  unfold BitRow at *
  rw [List.map_append, List.range'_concat] at h
  have := List.append_inj h (by simp)
  exact ⟨this.1, by simpa using this.2⟩
/-- What the first cell of block B holds stays. -/
def KeepC (B : Nat) (W W' : World) : Prop := ∀ v, W.cell? ⟨B, 0, none⟩ = some v → W'.cell? ⟨B, 0, none⟩ = some v
theorem KeepC.refl (B : Nat) (W : World) : KeepC B W W := fun _ h => h
theorem KeepC.trans {B : Nat} {X Y Z : World} (h : KeepC B X Y) (k : KeepC B Y Z) : KeepC B X Z := fun v e => k v (h v e)
theorem KeepC.putObj {B l : Nat} {W : World} {o : Obj} (o' : Obj) (hl : W.heap[l]? = some o) (ho : o.isCells = false) : KeepC B W (W.putObj l o') := fun v h =>
  cell_kept h (grownBy_putObj' W l o') (fun r e => by cases e; exact ⟨_, hl, ho⟩)
theorem KeepC.setCell {B : Nat} (W : World) (p : Addr) (v : Value) (h : p.block ≠ B) : KeepC B W (W.setCell p v) := fun u e => by
  rw [World.cell?_setCell_other _ _ _ _ (by rintro rfl; exact h rfl)]; exact e
theorem KeepC.drew (B : Nat) (W : World) : KeepC B W W.drew := fun _ h => h
set_option maxRecDepth 100000 in
set_option maxHeartbeats 2000000 in
theorem bits_in (l : List UInt8) (hl : l.length ≤ 1048576) (a : Nat) (ha : a ≤ 8 * l.length) (y Ba Bs : Nat) (J Jx : List (BitIx l) → World → Prop)
    (hY : ∀ pre (x : BitIx l) W, J pre W → pre.length < 8 * l.length → YieldAt Fence.wide 1 Try.prog y #[.int .i64 (x.val : Int), .bool (bitL l x.val)] W fun e W' =>
      (e = .returned (.bool true) ∧ J (pre ++ [x]) W' ∧ KeepC Bs W W') ∨ (e = .returned (.bool false) ∧ Jx (pre ++ [x]) W'))
    (W : World) (hca : W.cell? ⟨Ba, 0, none⟩ = some (.int .i64 (a : Int))) (hcs : W.cell? ⟨Bs, 0, none⟩ = some (str l)) (h0 : J [] W) :
    CallsIn Fence.wide 2 Try.prog 27 #[.func (.yield y) #[] #[], .pointer (some ⟨Ba, 0, none⟩), .pointer (some ⟨Bs, 0, none⟩)] W fun e W' => (∃ v, e = .returned v) ∧
      ((∃ ys, BitRow l a (8 * l.length - a) ys ∧ J ys W') ∨ (∃ pre, (∃ k, a + k ≤ 8 * l.length ∧ BitRow l a k pre) ∧ Jx pre W')) := by
  refine callsIn_of_wp Try.func27 rfl trivial ?_ rfl
  simp only [Try.ntmps27, List.size_toArray, List.length_cons, List.length_nil, Nat.reduceAdd, Nat.reduceSub, Array.replicate_succ, Array.replicate_zero, List.push_toArray, List.append_toArray, List.nil_append, List.cons_append]
  gi_wp2_with fail
  gi_loopw [4] (fun i wr => ∃ (k : Nat) (pre : List (BitIx l)), a + k ≤ 8 * l.length ∧ i = .int .i64 ((a + k : Nat) : Int) ∧ BitRow l a k pre ∧ J pre wr ∧ KeepC Bs W wr)
    (fun i _ => 8 * l.length - (intOf i).toNat)
  case atStart => exact ⟨0, [], ha, rfl, BitRow.nil _ _, h0, KeepC.refl _ _⟩
  case round =>
    obtain ⟨k, pre, hk, rfl, hrow, hJs, hnx⟩ := hrel
    have hcx : wr.cell? ⟨Bs, 0, none⟩ = some (str l) := hnx _ hcs
    have Hrow := Lib.hid hrow
    clear hrow
    generalize hj : a + k = j at *
    gi_wp2_with fail
    refine ⟨trivial, (callsIn_wide.2 (size_any l _ hl)).mono ?_⟩
    rintro e w1 ⟨rfl, rfl⟩
    by_cases hlt : j < 8 * l.length
    · obtain ⟨fn, tmps, assign, body, hy, hR⟩ := hY pre ⟨j, hlt⟩ w1 hJs (by rw [Hrow.out.length]; omega)
      dsimp only at hy
      gi_wp2_with fail
      refine ⟨trivial, (callsIn_wide.2 (isSet_any l j _ hl hlt)).mono ?_⟩
      rintro e w2 ⟨rfl, rfl⟩
      gi_wp2_with fail
      refine hR.mono ?_
      rintro e W3 (⟨rfl, hJ3, hk3⟩ | ⟨rfl, hJx3⟩)
      · gi_wp2_with fail
        go_roundw
        case rel => exact ⟨k + 1, pre ++ [⟨j, hlt⟩], by omega, by rw [← Nat.add_assoc, hj]; go_num, Hrow.out.snoc _ hj.symm, hJ3, hnx.trans hk3⟩
        case measure => simp [intOf]; omega
      · gi_wp2_with fail
        refine bodyPost_ret (results_none rfl _ _ _) rfl ?_
        exact ⟨⟨_, rfl⟩, .inr ⟨_, ⟨k + 1, by omega, Hrow.out.snoc ⟨j, hlt⟩ hj.symm⟩, hJx3⟩⟩
    · gi_wp2_with fail
      go_end0
      exact ⟨⟨_, rfl⟩, .inl ⟨pre, by have := Hrow.out; rwa [show k = 8 * l.length - a by omega] at this, hJs⟩⟩
end Go.Proofs.Ythdkbhoeonnkmaa
