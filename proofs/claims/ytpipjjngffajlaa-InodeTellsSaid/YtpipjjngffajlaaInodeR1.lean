/- Layer 7 (inode), the document's answers: which inodes may be. -/
import Derived.Test.YtpipjjngffajlaaInode7
namespace Go.Proofs.Ytpipjjngffajlaa
open Go.RowKit
set_option linter.unusedVariables false
set_option linter.unusedSimpArgs false
set_option maxRecDepth 10000
/-- What the document asks of the blocks up to i, and of the i-th against those up to k. -/
def pairOk (l : List Nat) (i k : Nat) : Prop := ∀ j, j < k → ∀ a b, l[i]? = some a → l[j]? = some b → a ≠ 0 → a ≠ b
def rowOk (z : Nat) (l : List Nat) (i : Nat) : Prop := pairOk l i i ∧ ∀ a, l[i]? = some a → a = 0 ∨ 64 * i < z
theorem once_pairs (l : List Nat) : once l ↔ ∀ i, i < l.length → pairOk l i i := by
  have key : ∀ k, k ≤ l.length → (once (l.take k) ↔ ∀ i, i < k → pairOk l i i) := by
    intro k
    induction k with
    | zero => intro _; simp [once_nil]
    | succ k ih =>
      intro hk
      have hlt : k < l.length := by omega
      rw [List.take_succ_eq_append_getElem hlt, once_snoc, ih (by omega)]
      constructor
      · rintro ⟨h1, h2⟩ i hi
        by_cases e : i < k
        · exact h1 i e
        · have : i = k := by omega
          subst this
          intro j hj a b ha hb hz hab
          subst hab
          have ha' : l[i] = a := by simpa [hlt] using ha
          rcases h2 with h2 | h2
          · exact hz (by rw [← ha', h2])
          · refine h2 ?_
            rw [ha']
            have hjl : j < l.length := by omega
            have hb' : l[j] = a := by simpa [hjl] using hb
            rw [← hb']
            exact List.mem_take_iff_getElem.2 ⟨j, by omega, rfl⟩
      · intro h
        refine ⟨fun i hi => h i (by omega), ?_⟩
        by_cases hz : l[k] = 0
        · exact .inl hz
        · refine .inr fun hm => ?_
          obtain ⟨j, hj, hjk⟩ := List.mem_take_iff_getElem.1 hm
          exact h k (by omega) j (by omega) l[k] l[k] (by simp [hlt]) (by rw [← hjk]; simp) hz rfl
  have := key l.length (Nat.le_refl _)
  rwa [List.take_length] at this
theorem rows_ok (z : Nat) (l : List Nat) : (∀ i, i < l.length → rowOk z l i) ↔ inside z l ∧ once l := by
  rw [once_pairs]
  constructor
  · intro h
    refine ⟨fun j b hj => ?_, fun i hi => (h i hi).1⟩
    exact (h j (List.getElem?_eq_some_iff.1 hj).1).2 b hj
  · rintro ⟨h1, h2⟩ i hi
    exact ⟨h2 i hi, fun a ha => h1 i a ha⟩
theorem row_mid {w W : World} {g : Nat} {o : Obj} (h : W.heap[g]? = some o) (hb : Below W.heap.size W w) : w.heap[g]? = some o := (hb.block g (row_lt' h)).trans h
theorem bl_len (x : Im) : x.bl.length = 5 := rfl
set_option maxHeartbeats 400000 in
theorem refMay_zero (x : Im) (h : x.k = 0) (w : World) :
    Calls Try.prog 18 #[x.v] w fun e w' => e = .returned (.bool (decide x.may)) ∧ Below w.heap.size w w' := by
  have heq := fun W => eq_nought x W
  have e : decide x.may = decide (x = Im.nought) := by simp only [may_zero h]
  rw [e]
  have hk : ((x.k : Int) == 0) = true := by rw [h]; rfl
  have Hh := Lib.hid h
  clear h e
  go_enter Try.func18, Try.ntmps18
  go_wp2
  go_ret
  exact ⟨rfl, (Below.refl _ _).alloc (Nat.le_refl _) _⟩
/-- The test ahead of the blocks. -/
def headBad (x : Im) : Bool := decide (2 < x.k) || decide (200 < x.n) || decide (2304 < x.z) || (decide (x.k = 2) && decide (x.z % 64 ≠ 0))
set_option maxHeartbeats 1000000 in
theorem refMay_bad (x : Im) (h0 : x.k ≠ 0) (h : headBad x = true) (hz : x.z < 4294967296) (w : World) :
    Calls Try.prog 18 #[x.v] w fun e w' => e = .returned (.bool false) ∧ Below w.heap.size w w' := by
  have hk : ((x.k : Int) == 0) = false := by simp; omega
  unfold headBad at h
  simp only [Bool.or_eq_true, Bool.and_eq_true, decide_eq_true_eq] at h
  by_cases c1 : 2 < x.k
  · have q1 : decide ((2 : Int) < (x.k : Int)) = true := by simp; omega
    have Hh := Lib.hid h0
    clear h h0
    go_enter Try.func18, Try.ntmps18
    go_wp2
    go_ret
    exact ⟨rfl, (Below.refl _ _).alloc (Nat.le_refl _) _⟩
  have q1 : decide ((2 : Int) < (x.k : Int)) = false := by simp; omega
  by_cases c2 : 200 < x.n
  · have q2 : decide ((200 : Int) < (x.n : Int)) = true := by simp; omega
    have Hh := Lib.hid h0
    clear h h0
    go_enter Try.func18, Try.ntmps18
    go_wp2
    go_ret
    exact ⟨rfl, (Below.refl _ _).alloc (Nat.le_refl _) _⟩
  have q2 : decide ((200 : Int) < (x.n : Int)) = false := by simp; omega
  by_cases c3 : 2304 < x.z
  · have q3 : decide ((2304 : Int) < (x.z : Int)) = true := by simp; omega
    have Hh := Lib.hid h0
    clear h h0
    go_enter Try.func18, Try.ntmps18
    go_wp2
    go_ret
    exact ⟨rfl, (Below.refl _ _).alloc (Nat.le_refl _) _⟩
  have q3 : decide ((2304 : Int) < (x.z : Int)) = false := by simp; omega
  have c4 : x.k = 2 ∧ x.z % 64 ≠ 0 := by omega
  have q4 : ((x.k : Int) == 2) = true := by simp; omega
  have q5 : ((x.z : Int) % 64 != 0) = true := by simp; omega
  have Hh := Lib.hid h0
  clear h h0 c4
  go_enter Try.func18, Try.ntmps18
  go_wp2
  go_ret
  exact ⟨rfl, (Below.refl _ _).alloc (Nat.le_refl _) _⟩
set_option maxHeartbeats 2000000 in
theorem refMay_rows (x : Im) (h1 : x.k ≠ 0) (h2 : ¬ 2 < x.k) (h3 : ¬ 200 < x.n) (h4 : ¬ 2304 < x.z) (b2 bm : Bool) (q4 : ((x.k : Int) == 2) = b2) (q5 : ((x.z : Int) % 64 != 0) = bm) (hbm : (b2 && bm) = false) (hf : x.fits) (w : World) (t : Bool) (ht : t = true ↔ ∀ i, i < x.bl.length → rowOk x.z x.bl i) :
    Calls Try.prog 18 #[x.v] w fun e w' => e = .returned (.bool t) ∧ Below w.heap.size w w' := by
  have hk : ((x.k : Int) == 0) = false := by simp; omega
  have q1 : decide ((2 : Int) < (x.k : Int)) = false := by simp; omega
  have q2 : decide ((200 : Int) < (x.n : Int)) = false := by simp; omega
  have q3 : decide ((2304 : Int) < (x.z : Int)) = false := by simp; omega
  have HB := Lib.hid fun W => blocks_any x W
  have Ht := Lib.hid ht
  have Hlt := Lib.hid (bl_lt hf)
  have hlen := bl_len x
  have hz := hf.2.2.1
  generalize x.bl = l at *
  clear ht h1
  go_enter Try.func18, Try.ntmps18
  have hor : b2 = false ∨ (b2 = true ∧ bm = false) := by cases b2 <;> cases bm <;> simp_all
  clear hbm
  rcases hor with rfl | ⟨rfl, rfl⟩
  all_goals
    go_wp2_with fail
    refine (HB.out _).mono ?_
    rintro e w1 ⟨v, rfl, hu, hb1⟩
    have hx : w1.heap[w.heap.size]? = some (.cells #[.int .u8 x.k, w16 x.n, .int .u32 x.z, w16 x.d0, w16 x.d1, w16 x.d2, w16 x.d3, w16 x.i] 26 (0, 0)) := (hb1.block w.heap.size (by simp)).trans (heap_alloc_new _ _)
    have hxz : w1.cell? ⟨w.heap.size, 2, none⟩ = some (.int .u32 x.z) := cell_of_row _ _ 2 _ _ (0, 0) hx
    have hltx := row_lt' hx
    have HB1 := Lib.hid (((Below.refl w.heap.size w).alloc (Nat.le_refl _) _).trans (hb1.mono (by simp)))
    clear hx hb1
    obtain ⟨A, c, rfl, hc⟩ := hu
    have Hc := Lib.hid hc
    clear hc
    rw [hlen]
    clear q1 q2 q3 q4 hk
    go_wp2_with fail
    go_loopw [4] (fun i wr => ∃ k : Nat, k ≤ 5 ∧ i = .int .i64 k ∧ (∀ j, j < k → rowOk x.z l j) ∧ Below w1.heap.size w1 wr) (fun i _ => 5 - (nOf i).toNat)
    case atStart => exact ⟨0, Nat.zero_le _, rfl, fun j hj => by omega, Below.refl _ _⟩
    case round =>
      obtain ⟨k, hk5, rfl, hrow, hb⟩ := hrel
      have Hrow := Lib.hid hrow
      clear hrow
      by_cases hk : k < 5
      · obtain ⟨b, hbe⟩ : ∃ b, l[k]? = some b := ⟨l[k], by simp [hlen, hk]⟩
        have Hbe := Lib.hid hbe
        obtain ⟨a, rfl, hcell⟩ := Hc.out k b hbe
        clear hbe
        go_wp2_with fail
        go_loopw [5] (fun i wi => ∃ m : Nat, m ≤ k ∧ i = .int .i64 m ∧ pairOk l k m ∧ Below w1.heap.size w1 wi) (fun i _ => k - (nOf i).toNat)
        case atStart => exact ⟨0, Nat.zero_le _, rfl, fun j hj => by omega, hb⟩
        case round =>
          obtain ⟨m, hmk, rfl, hpair, hbi⟩ := hrel
          have hx1 : wr.cell? (a.add k) = some (w16 b) := (hbi.cell (World.block_lt_of_cell? w1 _ hcell)).trans hcell
          have hxz2 : wr.cell? ⟨w.heap.size, 2, none⟩ = some (.int .u32 x.z) := (hbi.cell (p := ⟨w.heap.size, 2, none⟩) hltx).trans hxz
          have Hpair := Lib.hid hpair
          have hb16 : b < 65536 := Hlt.out b (List.mem_of_getElem? Hbe.out)
          clear hpair
          by_cases hmk2 : m < k
          · obtain ⟨b2, hbe2⟩ : ∃ b2, l[m]? = some b2 := ⟨l[m], by simp⟩
            obtain ⟨a', ha', hcell2⟩ := Hc.out m b2 hbe2
            obtain rfl : a = a' := by simpa using ha'
            have hx2 : wr.cell? (a.add m) = some (w16 b2) := (hbi.cell (World.block_lt_of_cell? w1 _ hcell2)).trans hcell2
            have Hbe2 := Lib.hid hbe2
            clear hbe2 hcell2 ha' hcell
            by_cases hz0 : b = 0
            · have g1 : ((b : Int) != 0) = false := by simp [hz0]
              have Hz0 := Lib.hid hz0
              clear hz0
              go_wp2_with fail
              go_quiet (fail)
              go_wp2
              go_roundw
              case rel =>
                refine ⟨m + 1, by omega, by go_num, ?_, below_drewN hbi _⟩
                intro j hj p q hp hq hpz
                rw [Hbe.out] at hp
                injection hp with hp
                exact absurd (hp.symm.trans Hz0.out) hpz
              case measure => simp [nOf]; omega
            · have g1 : ((b : Int) != 0) = true := by simpa using hz0
              have Hz0 := Lib.hid hz0
              clear hz0
              by_cases he : b = b2
              · have g2 : ((b : Int) == (b2 : Int)) = true := by simp [he]
                have He := Lib.hid he
                clear he
                go_wp2_with fail
                go_quiet (fail)
                go_wp2
                go_ret
                refine ⟨?_, below_drewN (HB1.out.trans (hbi.mono (by omega))) _⟩
                have : t = false := Bool.eq_false_iff.2 fun e => (Ht.out.1 e k (by omega)).1 m hmk2 b b2 Hbe.out Hbe2.out Hz0.out He.out
                rw [this]; rfl
              · have g2 : ((b : Int) == (b2 : Int)) = false := by simp; omega
                have He := Lib.hid he
                clear he
                go_wp2_with fail
                go_quiet (fail)
                go_wp2
                go_roundw
                case rel =>
                  refine ⟨m + 1, by omega, by go_num, ?_, below_drewN hbi _⟩
                  intro j hj p q hp hq hpz
                  by_cases hjm : j < m
                  · exact Hpair.out j hjm p q hp hq hpz
                  · have : j = m := by omega
                    subst this
                    rw [Hbe.out] at hp
                    rw [Hbe2.out] at hq
                    injection hp with hp
                    injection hq with hq
                    rw [← hp, ← hq]
                    exact He.out
                case measure => simp [nOf]; omega
          · have : m = k := by omega
            subst this
            clear hcell
            by_cases hz0 : b = 0
            · have g1 : ((b : Int) != 0) = false := by simp [hz0]
              have Hz0 := Lib.hid hz0
              clear hz0
              go_wp2
              go_roundw
              case rel =>
                refine ⟨m + 1, by omega, by go_num, ?_, hbi⟩
                intro j hj
                by_cases hjm : j < m
                · exact Hrow.out j hjm
                · have : j = m := by omega
                  subst this
                  refine ⟨Hpair.out, fun p hp => ?_⟩
                  rw [Hbe.out] at hp
                  injection hp with hp
                  exact .inl (hp.symm.trans Hz0.out)
              case measure => simp [nOf]; omega
            · have g1 : ((b : Int) != 0) = true := by simpa using hz0
              have Hz0 := Lib.hid hz0
              clear hz0
              by_cases he : 64 * m < x.z
              · have g2 : decide ((x.z : Int) ≤ 64 * (m : Int)) = false := by simp; omega
                have He := Lib.hid he
                clear he
                go_wp2
                go_roundw
                case rel =>
                  refine ⟨m + 1, by omega, by go_num, ?_, hbi⟩
                  intro j hj
                  by_cases hjm : j < m
                  · exact Hrow.out j hjm
                  · have : j = m := by omega
                    subst this
                    exact ⟨Hpair.out, fun p hp => .inr He.out⟩
                case measure => simp [nOf]; omega
              · have g2 : decide ((x.z : Int) ≤ 64 * (m : Int)) = true := by simp; omega
                have He := Lib.hid he
                clear he
                go_wp2
                go_ret
                refine ⟨?_, HB1.out.trans (hbi.mono (by omega))⟩
                have : t = false := Bool.eq_false_iff.2 fun e => by
                  rcases (Ht.out.1 e m (by omega)).2 b Hbe.out with h | h
                  · exact Hz0.out h
                  · exact He.out h
                rw [this]; rfl
      · have : k = 5 := by omega
        subst this
        go_wp2
        go_ret
        refine ⟨?_, HB1.out.trans (hb.mono (by omega))⟩
        have : t = true := Ht.out.2 fun i hi => Hrow.out i (by omega)
        rw [this]; rfl
end Go.Proofs.Ytpipjjngffajlaa
