/- Layer 10 (dirs): place, and the first free slot. -/
import Derived.Test.YtmidoghjacmdcaaDirs13
import Derived.Test.YtmidoghjacmdcaaDirs10
namespace Go.Proofs.Ytmidoghjacmdcaa
open Go.RowKit Go.Lib
set_option linter.unusedVariables false
set_option linter.unusedSimpArgs false
set_option maxRecDepth 10000
/-- Has an entry that name? -/
def hasN (n : List UInt8) (x : En) : Bool := !n.isEmpty && x.n == n
theorem look_has (l : List En) (n : List UInt8) : l.findIdx? (hasN n) = look l n := by
  unfold look
  split
  · rename_i h
    subst h
    exact findIdx_miss fun j y _ => rfl
  · rename_i h
    congr 1
    funext x
    unfold hasN
    have : n.isEmpty = false := by simp [h]
    rw [this]; rfl
set_option maxHeartbeats 1000000 in
theorem hasN_any (x : En) (n : List UInt8) (b : Nat) (V : World) (hc : V.cell? ⟨b, 0, none⟩ = some (str n)) :
    Calls Try.prog 48 #[x.v, .pointer (some ⟨b, 0, none⟩)] V fun e w' => e = .returned (.bool (hasN n x)) ∧ Below V.heap.size V w' := by
  obtain ⟨m, i⟩ := x
  have hc2 : (V.alloc (.cells #[str m, .int .u32 (i : Int)] 34)).cell? ⟨b, 0, none⟩ = some (str n) := Lib.cell?_alloc_some _ hc
  clear hc
  by_cases h0 : n = []
  · subst h0
    go_enter Try.func48, Try.ntmps48
    go_wp2_with fail
    go_ret
    exact ⟨rfl, (Below.refl _ _).alloc (Nat.le_refl _) _⟩
  · have h1 : n.isEmpty = false := by simp [h0]
    have HE := Lib.hid (show hasN n ⟨m, i⟩ = (m == n) by unfold hasN; rw [h1]; rfl)
    go_enter Try.func48, Try.ntmps48
    go_wp2_with fail
    go_ret
    exact ⟨by rw [HE.out]; rfl, (Below.refl _ _).alloc (Nat.le_refl _) _⟩
set_option maxHeartbeats 2000000 in
theorem place_any (g : Nat) (l : List En) (n : List UInt8) (w : World) (h : EntAt w g l) :
    Calls Try.prog 29 #[.pointer (some ⟨g, 0, none⟩), str n] w fun e w' => e = .returned (.int .i64 (optI (look l n))) ∧ Below w.heap.size w w' := by
  have hE : EntAt (w.alloc (.cells #[str n] 9)) g l := h.after ((Below.refl _ _).alloc (Nat.le_refl _) _)
  have hcell : (w.alloc (.cells #[str n] 9)).cell? ⟨w.heap.size, 0, none⟩ = some (str n) := cell_new_l w (str n) 9
  have hI := indexFunc_ent 48 #[.pointer (some ⟨w.heap.size, 0, none⟩)] (enters_of Try.func48 (by kernel_rfl) rfl) (hasN n) g l _ hE
    (fun V x hb _ => hasN_any x n w.heap.size V ((hb.cell (p := ⟨w.heap.size, 0, none⟩) (by simp)).trans hcell))
  rw [look_has] at hI
  have HI := Lib.hid hI
  clear hI hE hcell h
  go_enter Try.func29, Try.ntmps29
  go_wp2_with fail
  refine HI.out.mono ?_
  rintro e w1 ⟨rfl, hb⟩
  go_wp2_with fail
  go_ret
  exact ⟨rfl, ((Below.refl _ _).alloc (Nat.le_refl _) _).trans (hb.mono (by simp))⟩
set_option maxHeartbeats 2000000 in
theorem gap_any (g : Nat) (l : List En) (w : World) (h : EntAt w g l) :
    Calls Try.prog 30 #[.slice (some ⟨g, 0, none⟩) 72 72, .agg #[.string ⟨#[]⟩, .int .u32 0]] w fun e w' => e = .returned (.int .i64 (optI (gap l))) ∧ Below w.heap.size w w' := by
  have hl := h.2
  have HB0 := Lib.hid ((Below.refl w.heap.size w).alloc (Nat.le_refl _) (.cells #[str [], .int .u32 0] 34))
  have HE := Lib.hid (h.after HB0.out)
  have HV := Lib.hid (two_cells w (str []) (.int .u32 0) 34)
  clear h
  go_enter Try.func30, Try.ntmps30
  go_wp2_with fail
  generalize w.alloc (.cells #[str [], .int .u32 0] 34) = W0 at *
  go_loopw [5, 8] (fun _ i wr => ∃ k : Nat, k ≤ 72 ∧ i = .int .i64 k ∧ (∀ (j : Nat) (y : En), j < k → l[j]? = some y → y ≠ En.free) ∧ Below W0.heap.size W0 wr) (fun _ i _ => 72 - (Go.RowKit.intOf i).toNat)
  case atStart => exact ⟨0, Nat.zero_le _, rfl, fun j y h => absurd h (Nat.not_lt_zero _), Below.refl _ _⟩
  case round =>
    obtain ⟨k, hk, rfl, hno, hb⟩ := hrel
    have Hno := Lib.hid hno
    have HB := Lib.hid hb
    clear hno hb
    by_cases hlt : k < 72
    · have hltz : (k : Int) < 72 := by omega
      obtain ⟨x, hx⟩ : ∃ x, l[k]? = some x := ⟨l[k]'(by omega), List.getElem?_eq_getElem (by omega)⟩
      obtain ⟨x0, x1⟩ := (HE.out.below HB.out HE.out.lt).cells hx
      obtain ⟨v0, v1⟩ := pair_kept HV.out HB.out
      have Hx := Lib.hid hx
      clear hx
      by_cases hq : x = En.free
      · have heq : ∀ W, (Op.equalIn 10000 34 (.agg #[.string ⟨#[]⟩, .int .u32 0]) x.v).run Try.prog W = .ok true W := fun W => by
          have := eq_ent En.free x W
          rw [show decide (En.free = x) = true by simp [hq]] at this
          exact this
        have HF := Lib.hid (show gap l = some k from gap_hit (hq ▸ Hx.out) Hno.out)
        have heq2 : ∀ W, (Op.equalIn 10000 34 (.agg #[.string ⟨#[]⟩, .int .u32 0]) (.agg #[.string ⟨#[]⟩, .int .u32 0])).run Try.prog W = .ok true W := fun W => by
          have := eq_ent En.free En.free W
          rw [show decide (En.free = En.free) = true by simp] at this
          exact this
        clear hq
        go_wp2_with fail
        go_quiet (fail)
        go_wp2_with fail
        go_ret
        exact ⟨by rw [HF.out]; rfl, HB0.out.trans ((below_drewN HB.out _).mono HB0.out.size)⟩
      · have heq : ∀ W, (Op.equalIn 10000 34 (.agg #[.string ⟨#[]⟩, .int .u32 0]) x.v).run Try.prog W = .ok false W := fun W => by
          have := eq_ent En.free x W
          rw [show decide (En.free = x) = false by simp; exact fun e => hq e.symm] at this
          exact this
        have Hq := Lib.hid hq
        clear hq
        go_wp2_with fail
        go_quiet (fail)
        go_wp2_with fail
        go_roundw
        case rel =>
          refine ⟨k + 1, by omega, by go_num, fun j z hj hz => ?_, below_drewN HB.out _⟩
          rcases Nat.lt_or_ge j k with h | h
          · exact Hno.out j z h hz
          · obtain rfl : j = k := by omega
            obtain rfl := Option.some.inj (hz.symm.trans Hx.out)
            exact Hq.out
        case measure => simp [Go.RowKit.intOf]; omega
    · have hltz : ¬ (k : Int) < 72 := by omega
      have HF := Lib.hid (show gap l = none from gap_miss fun y hy => by
        obtain ⟨j, hj⟩ := List.getElem?_of_mem hy
        have := (List.getElem?_eq_some_iff.1 hj).1
        exact Hno.out j y (by omega) hj)
      go_wp2_with fail
      go_ret
      exact ⟨by rw [HF.out]; rfl, HB0.out.trans (HB.out.mono HB0.out.size)⟩
end Go.Proofs.Ytmidoghjacmdcaa
