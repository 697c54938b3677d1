/- Layer 3 (dev): what is refused; Back. -/
import Derived.Test.YtoogedjeclcdbaaDev6
namespace Go.Proofs.Ytoogedjeclcdbaa
open Go.RowKit Go.Maps
set_option linter.unusedVariables false
theorem DevAt.down_cell {S : Nat → Prop} {W : World} {b : Nat} {M : Dv} (h : DevAt S W b M) {d : Bool} (hd : M.down = d) : W.cell? ⟨b, 1, none⟩ = some (.bool d) := by
  obtain ⟨g, c, m, vals, h⟩ := h
  rw [← hd]
  exact h.head.c1
theorem write_down (b : Nat) (i s : Value) (W : World) (h1 : W.cell? ⟨b, 1, none⟩ = some (.bool true)) :
    Calls Try.prog 10 #[devp b, i, s] W fun e w' => e = .returned (.int .i64 30) ∧ W = w' := by
  go_enter Try.func10, Try.ntmps10
  go_wp2_with fail
  refine (works_any _ _ _ h1).mono ?_
  rintro e w1 ⟨rfl, rfl⟩
  go_wp2_with fail
  go_ret
  exact ⟨rfl, rfl⟩
theorem read_down (b : Nat) (i : Value) (W : World) (h1 : W.cell? ⟨b, 1, none⟩ = some (.bool true)) :
    Calls Try.prog 14 #[devp b, i] W fun e w' => e = .returned (.tuple #[str [], .int .i64 30]) ∧ W = w' := by
  go_enter Try.func14, Try.ntmps14
  go_wp2_with fail
  refine (works_any _ _ _ h1).mono ?_
  rintro e w1 ⟨rfl, rfl⟩
  go_wp2_with fail
  go_ret2
  exact ⟨rfl, rfl⟩
theorem back_down (b : Nat) (i k : Value) (W : World) (h1 : W.cell? ⟨b, 1, none⟩ = some (.bool true)) :
    Calls Try.prog 12 #[devp b, i, k] W fun e w' => e = .returned (.int .i64 30) ∧ W = w' := by
  go_enter Try.func12, Try.ntmps12
  go_wp2_with fail
  refine (works_any _ _ _ h1).mono ?_
  rintro e w1 ⟨rfl, rfl⟩
  go_wp2_with fail
  go_ret
  exact ⟨rfl, rfl⟩
theorem write_out (b g c n : Nat) (i : Int) (s : Value) (W : World) (hn : n ≤ 4096) (hi : i < 0 ∨ (n : Int) ≤ i) (h1 : W.cell? ⟨b, 1, none⟩ = some (.bool false)) (h2 : W.cell? ⟨b, 2, none⟩ = some (.slice (some ⟨g, 0, none⟩) n c)) :
    Calls Try.prog 10 #[devp b, .int .i64 i, s] W fun e w' => e = .returned (.int .i64 2) ∧ W = w' := by
  have hc := has_no b g c n i W hn hi h2
  have HC := Lib.hid hc
  clear hc hi
  go_enter Try.func10, Try.ntmps10
  go_wp2_with fail
  refine (works_any _ _ _ h1).mono ?_
  rintro e w1 ⟨rfl, rfl⟩
  go_wp2_with fail
  refine HC.out.mono ?_
  rintro e w1 ⟨rfl, rfl⟩
  go_wp2_with fail
  go_ret
  exact ⟨rfl, rfl⟩
theorem write_size (b g c n i : Nat) (s : List UInt8) (W : World) (hn : n ≤ 4096) (hi : i < n) (hs : s.length ≠ 64) (h1 : W.cell? ⟨b, 1, none⟩ = some (.bool false)) (h2 : W.cell? ⟨b, 2, none⟩ = some (.slice (some ⟨g, 0, none⟩) n c)) :
    Calls Try.prog 10 #[devp b, .int .i64 (i : Int), str s] W fun e w' => e = .returned (.int .i64 2) ∧ W = w' := by
  have hs1 : (((s.length : Nat) : Int) != 64) = true := by simp; omega
  go_enter Try.func10, Try.ntmps10
  go_wp2_with fail
  refine (works_any _ _ _ h1).mono ?_
  rintro e w1 ⟨rfl, rfl⟩
  go_wp2_with fail
  refine (has_yes _ _ _ _ _ _ hn hi h2).mono ?_
  rintro e w1 ⟨rfl, rfl⟩
  go_wp2_with fail
  go_ret
  exact ⟨rfl, rfl⟩
theorem back_out (b g c n : Nat) (i : Int) (k : Value) (W : World) (hn : n ≤ 4096) (hi : i < 0 ∨ (n : Int) ≤ i) (h1 : W.cell? ⟨b, 1, none⟩ = some (.bool false)) (h2 : W.cell? ⟨b, 2, none⟩ = some (.slice (some ⟨g, 0, none⟩) n c)) :
    Calls Try.prog 12 #[devp b, .int .i64 i, k] W fun e w' => e = .returned (.int .i64 2) ∧ W = w' := by
  have hc := has_no b g c n i W hn hi h2
  have HC := Lib.hid hc
  clear hc hi
  go_enter Try.func12, Try.ntmps12
  go_wp2_with fail
  refine (works_any _ _ _ h1).mono ?_
  rintro e w1 ⟨rfl, rfl⟩
  go_wp2_with fail
  refine HC.out.mono ?_
  rintro e w1 ⟨rfl, rfl⟩
  go_wp2_with fail
  go_ret
  exact ⟨rfl, rfl⟩
theorem back_neg (b g c n i : Nat) (k : Int) (W : World) (hn : n ≤ 4096) (hi : i < n) (hk : k < 0) (h1 : W.cell? ⟨b, 1, none⟩ = some (.bool false)) (h2 : W.cell? ⟨b, 2, none⟩ = some (.slice (some ⟨g, 0, none⟩) n c)) :
    Calls Try.prog 12 #[devp b, .int .i64 (i : Int), .int .i64 k] W fun e w' => e = .returned (.int .i64 2) ∧ W = w' := by
  go_enter Try.func12, Try.ntmps12
  go_wp2_with fail
  refine (works_any _ _ _ h1).mono ?_
  rintro e w1 ⟨rfl, rfl⟩
  go_wp2_with fail
  refine (has_yes _ _ _ _ _ _ hn hi h2).mono ?_
  rintro e w1 ⟨rfl, rfl⟩
  go_wp2_with fail
  go_ret
  exact ⟨rfl, rfl⟩
theorem back_far (b g c n i l : Nat) (k : Int) (W : World) (hn : n ≤ 4096) (hi : i < n) (hk : 0 ≤ k) (hkl : (l : Int) < k) (h1 : W.cell? ⟨b, 1, none⟩ = some (.bool false)) (h2 : W.cell? ⟨b, 2, none⟩ = some (.slice (some ⟨g, 0, none⟩) n c))
    (hc : Calls Try.prog 19 #[devp b, .int .i64 (i : Int)] W fun e w' => e = .returned (.int .i64 (l : Int)) ∧ W = w') :
    Calls Try.prog 12 #[devp b, .int .i64 (i : Int), .int .i64 k] W fun e w' => e = .returned (.int .i64 2) ∧ W = w' := by
  have HC := Lib.hid hc
  clear hc
  go_enter Try.func12, Try.ntmps12
  go_wp2_with fail
  refine (works_any _ _ _ h1).mono ?_
  rintro e w1 ⟨rfl, rfl⟩
  go_wp2_with fail
  refine (has_yes _ _ _ _ _ _ hn hi h2).mono ?_
  rintro e w1 ⟨rfl, rfl⟩
  go_wp2_with fail
  refine HC.out.mono ?_
  rintro e w1 ⟨rfl, rfl⟩
  go_wp2_with fail
  go_ret
  exact ⟨rfl, rfl⟩
theorem back_yes (b g c n i l k : Nat) (W : World) (hn : n ≤ 4096) (hi : i < n) (hkl : k ≤ l) (h1 : W.cell? ⟨b, 1, none⟩ = some (.bool false)) (h2 : W.cell? ⟨b, 2, none⟩ = some (.slice (some ⟨g, 0, none⟩) n c))
    (hc : Calls Try.prog 19 #[devp b, .int .i64 (i : Int)] W fun e w' => e = .returned (.int .i64 (l : Int)) ∧ W = w') (R : World → Prop)
    (hs : Calls Try.prog 27 #[devp b, .int .i64 (i : Int), .int .i64 (k : Int)] W fun e w' => e = .returned (.tuple #[]) ∧ R w') :
    Calls Try.prog 12 #[devp b, .int .i64 (i : Int), .int .i64 (k : Int)] W fun e w' => e = .returned (.int .i64 0) ∧ R w' := by
  have HC := Lib.hid hc
  have HS := Lib.hid hs
  clear hc hs
  have hlt : decide (l < k) = false := by simpa using hkl
  go_enter Try.func12, Try.ntmps12
  go_wp2_with fail
  refine (works_any _ _ _ h1).mono ?_
  rintro e w1 ⟨rfl, rfl⟩
  go_wp2_with fail
  refine (has_yes _ _ _ _ _ _ hn hi h2).mono ?_
  rintro e w1 ⟨rfl, rfl⟩
  go_wp2_with fail
  refine HC.out.mono ?_
  rintro e w1 ⟨rfl, rfl⟩
  go_wp2_with fail
  refine HS.out.mono ?_
  rintro e w1 ⟨rfl, hR⟩
  go_wp2_with fail
  go_ret
  exact ⟨rfl, hR⟩
/-- What Write answers, and what the device is behind it. -/
def Dv.canWrite (M : Dv) (i : Int) (s : List UInt8) : Bool := !M.down && decide (0 ≤ i) && decide (i < (M.n : Int)) && (s.length == 64)
def Dv.wrote (M : Dv) (i : Int) (s : List UInt8) : Dv := if M.canWrite i s then M.write i.toNat s else M
def Dv.wroteE (M : Dv) (i : Int) (s : List UInt8) : Int := if M.down then 30 else if M.canWrite i s then 0 else 2
theorem Step.refl {S : Nat → Prop} {W : World} {b : Nat} {M : Dv} (h : DevAt S W b M) : Step S W b M W := .of h (Only.refl _ _)
theorem write_all {S : Nat → Prop} {W : World} {b : Nat} {M : Dv} (h : DevAt S W b M) (hw : M.wr < 1099511627776) (i : Int) (s : List UInt8) :
    Calls Try.prog 10 #[devp b, .int .i64 i, str s] W fun e w' => e = .returned (.int .i64 (M.wroteE i s)) ∧ Step S W b (M.wrote i s) w' := by
  have h' := h
  obtain ⟨g, c, m, vals, hI⟩ := h'
  cases hd : M.down
  · have h1 := h.down_cell hd
    by_cases hi : i < 0 ∨ (M.n : Int) ≤ i
    · refine (write_out b g c M.n i (str s) W hI.fine.n hi h1 hI.head.c2).mono ?_
      rintro e w' ⟨rfl, rfl⟩
      have hc : M.canWrite i s = false := by
        unfold Dv.canWrite
        rcases hi with hi | hi
        · rw [decide_eq_false (by omega : ¬ 0 ≤ i)]; simp
        · rw [decide_eq_false (by omega : ¬ i < (M.n : Int))]; simp
      refine ⟨by unfold Dv.wroteE; rw [hd, hc]; rfl, ?_⟩
      unfold Dv.wrote; rw [hc]; exact Step.refl h
    · obtain ⟨j, rfl⟩ : ∃ j : Nat, i = (j : Int) := ⟨i.toNat, by omega⟩
      by_cases hs : s.length = 64
      · have hc : M.canWrite (j : Int) s = true := by
          unfold Dv.canWrite
          rw [hd, decide_eq_true (by omega : (0 : Int) ≤ (j : Int)), decide_eq_true (by omega : (j : Int) < (M.n : Int)), hs]; rfl
        refine (write_any h hd hw j (by omega) s hs).mono ?_
        rintro e w' ⟨rfl, hS⟩
        refine ⟨by unfold Dv.wroteE; rw [hd, hc]; rfl, ?_⟩
        unfold Dv.wrote; rw [hc, if_pos rfl, Int.toNat_natCast]; exact hS
      · have hc : M.canWrite (j : Int) s = false := by
          unfold Dv.canWrite
          rw [(by simpa using hs : (s.length == 64) = false)]; simp
        refine (write_size b g c M.n j s W hI.fine.n (by omega) hs h1 hI.head.c2).mono ?_
        rintro e w' ⟨rfl, rfl⟩
        refine ⟨by unfold Dv.wroteE; rw [hd, hc]; rfl, ?_⟩
        unfold Dv.wrote; rw [hc]; exact Step.refl h
  · refine (write_down b _ _ W (h.down_cell hd)).mono ?_
    rintro e w' ⟨rfl, rfl⟩
    refine ⟨by unfold Dv.wroteE; rw [hd]; rfl, ?_⟩
    have hc : M.canWrite i s = false := by unfold Dv.canWrite; rw [hd]; rfl
    unfold Dv.wrote; rw [hc]; exact Step.refl h
/-- What Back answers, and what the device is behind it. -/
def Dv.canBack (M : Dv) (i k : Int) : Bool := !M.down && decide (0 ≤ i) && decide (i < (M.n : Int)) && decide (0 ≤ k) && decide (k ≤ ((M.row i.toNat).length : Int))
def Dv.backed (M : Dv) (i k : Int) : Dv := if M.canBack i k then M.settle i.toNat k.toNat else M
def Dv.backE (M : Dv) (i k : Int) : Int := if M.down then 30 else if M.canBack i k then 0 else 2
theorem back_all {S : Nat → Prop} {W : World} {b : Nat} {M : Dv} (h : DevAt S W b M) (hw : M.wr ≤ 1099511627776) (i k : Int) :
    Calls Try.prog 12 #[devp b, .int .i64 i, .int .i64 k] W fun e w' => e = .returned (.int .i64 (M.backE i k)) ∧ Step S W b (M.backed i k) w' := by
  have h' := h
  obtain ⟨g, c, m, vals, hI⟩ := h'
  cases hd : M.down
  · have h1 := h.down_cell hd
    have no : M.canBack i k = false → (2 : Int) = M.backE i k ∧ Step S W b (M.backed i k) W := fun hc =>
      ⟨by unfold Dv.backE; rw [hd, hc]; rfl, by unfold Dv.backed; rw [hc]; exact Step.refl h⟩
    by_cases hi : i < 0 ∨ (M.n : Int) ≤ i
    · refine (back_out b g c M.n i (.int .i64 k) W hI.fine.n hi h1 hI.head.c2).mono ?_
      rintro e w' ⟨rfl, rfl⟩
      have hc : M.canBack i k = false := by
        unfold Dv.canBack
        rcases hi with hi | hi
        · rw [decide_eq_false (by omega : ¬ 0 ≤ i)]; simp
        · rw [decide_eq_false (by omega : ¬ i < (M.n : Int))]; simp
      exact ⟨by rw [(no hc).1], (no hc).2⟩
    · obtain ⟨j, rfl⟩ : ∃ j : Nat, i = (j : Int) := ⟨i.toNat, by omega⟩
      by_cases hk0 : k < 0
      · refine (back_neg b g c M.n j k W hI.fine.n (by omega) hk0 h1 hI.head.c2).mono ?_
        rintro e w' ⟨rfl, rfl⟩
        have hc : M.canBack j k = false := by
          unfold Dv.canBack
          rw [decide_eq_false (by omega : ¬ 0 ≤ k)]; simp
        exact ⟨by rw [(no hc).1], (no hc).2⟩
      · have hca := cached_any h j (by omega)
        by_cases hkl : ((M.row j).length : Int) < k
        · refine (back_far b g c M.n j _ k W hI.fine.n (by omega) (by omega) hkl h1 hI.head.c2 hca).mono ?_
          rintro e w' ⟨rfl, rfl⟩
          have hc : M.canBack j k = false := by
            unfold Dv.canBack
            rw [Int.toNat_natCast, decide_eq_false (by omega : ¬ k ≤ ((M.row j).length : Int))]; simp
          exact ⟨by rw [(no hc).1], (no hc).2⟩
        · obtain ⟨q, rfl⟩ : ∃ q : Nat, k = (q : Int) := ⟨k.toNat, by omega⟩
          have hc : M.canBack j q = true := by
            unfold Dv.canBack
            rw [hd, decide_eq_true (by omega : (0 : Int) ≤ (j : Int)), decide_eq_true (by omega : (j : Int) < (M.n : Int)), Int.toNat_natCast, decide_eq_true (by omega : (0 : Int) ≤ (q : Int)), decide_eq_true (by omega : (q : Int) ≤ ((M.row j).length : Int))]; rfl
          refine (back_yes b g c M.n j _ q W hI.fine.n (by omega) (by omega) h1 hI.head.c2 hca _ (settle_any hI hw j (by omega) q (by omega))).mono ?_
          rintro e w' ⟨rfl, vals', hD, hO⟩
          refine ⟨by unfold Dv.backE; rw [hd, hc]; rfl, ?_⟩
          unfold Dv.backed; rw [hc, if_pos rfl, Int.toNat_natCast, Int.toNat_natCast]
          exact Step.of ⟨g, c, m, vals', hD⟩ hO
  · refine (back_down b _ _ W (h.down_cell hd)).mono ?_
    rintro e w' ⟨rfl, rfl⟩
    have hc : M.canBack i k = false := by unfold Dv.canBack; rw [hd]; rfl
    exact ⟨by unfold Dv.backE; rw [hd]; rfl, by unfold Dv.backed; rw [hc]; exact Step.refl h⟩
end Go.Proofs.Ytoogedjeclcdbaa
