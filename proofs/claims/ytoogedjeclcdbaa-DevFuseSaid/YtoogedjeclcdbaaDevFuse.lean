/- Layer 3 (dev): DevFuse, walked. -/
import Derived.Test.YtoogedjeclcdbaaDev16
namespace Go.Proofs.Ytoogedjeclcdbaa
open Go.RowKit Go.Maps
set_option linter.unusedVariables false
theorem backed_wr (M : Dv) (i k : Int) : (M.backed i k).wr = M.wr := by
  unfold Dv.backed
  split <;> rfl
theorem backed_n (M : Dv) (i k : Int) : (M.backed i k).n = M.n := by
  unfold Dv.backed
  split <;> rfl
theorem wrote_zero (M : Dv) (hn : M.n = 8) (hd : M.down = false) (s : List UInt8) : M.wroteE 0 (secOf s) = 0 := by
  unfold Dv.wroteE Dv.canWrite
  rw [hd, hn, secOf_len]
  rfl
set_option maxRecDepth 100000 in
set_option maxHeartbeats 4000000 in
theorem walk_DevFuse' (n : Nat) (hn : n < 256) (v : Value) (l : List (List UInt8)) (w : World) (hv : Strings w v l) (hs : ∀ x ∈ l, x.length ≤ 140737488351232) (hl : l.length ≤ maxLen) :
    Calls Try.prog 5 #[.int .u8 (n : Int), v] w fun e w' => e = .returned (.bool true) ∧ Below w.heap.size w w' := by
  obtain ⟨A, c, rfl, hc⟩ := hv
  have HC := Lib.hid hc
  have HS := Lib.hid hs
  clear hc hs
  go_enter Try.func5, Try.ntmps5
  by_cases h100 : 100 < l.length
  · go_wp2_with fail
    refine (alive_any _).mono ?_
    rintro e w1 ⟨rfl, hb⟩
    go_wp2_with fail
    go_ret
    exact ⟨rfl, hb⟩
  go_wp2_with fail
  refine (held_new 8 (by decide) (by decide) (Keeps.start w)).mono ?_
  rintro e w1 ⟨b, rfl, hH, _⟩
  have H1 := Lib.hid hH
  clear hH
  go_wp2_with fail
  refine (held_fuse H1.out n (by omega)).mono ?_
  rintro e w2 ⟨rfl, hH⟩
  have H2 := Lib.hid hH
  clear hH H1
  have F0 := Lib.hid (FuseI.start n)
  go_wp2_with fail
  have c := held_down H2.out
  have hx : decide (n ≤ 0) = ((n : Int) == 0) := by
    cases n with
    | zero => rfl
    | succ n => rw [decide_eq_false (by omega)]; symm; rw [beq_eq_false_iff_ne]; omega
  rw [F0.out.down, hx] at c
  clear hx
  refine c.mono ?_
  clear c
  rintro e w3 ⟨rfl, rfl⟩
  go_wp2_with fail
  go_loopw [7] (fun i wr => ∃ (k : Nat) (M : Dv), k ≤ l.length ∧ i = .int .i64 k ∧ Held (All w) w wr b M ∧ FuseI n k M) (fun i _ => l.length - (intOf i).toNat)
  case atStart => exact ⟨0, _, Nat.zero_le _, rfl, H2.out, F0.out⟩
  case round =>
    obtain ⟨k, M, hk, rfl, hH, hF⟩ := hrel
    have H3 := Lib.hid hH
    have HF := Lib.hid hF
    clear hH hF
    by_cases hlt : k < l.length
    · obtain ⟨a, rfl, hg⟩ := HC.out k l[k] (List.getElem?_eq_getElem hlt)
      have hcell : wr.cell? (a.add k) = some (str l[k]) := (H3.out.keeps.all.cell (p := a.add k) (World.block_lt_of_cell? w _ hg)).trans hg
      have hsl := HS.out l[k] (List.getElem_mem _)
      generalize l[k] = s at hcell hsl
      clear hg
      go_wp2_with fail
      refine (sector_any s _ hsl).mono ?_
      rintro e w4 ⟨rfl, hb⟩
      have H4 := Lib.hid (H3.out.below hb)
      clear hb H3
      have hmod0 : (k : Int) % 8 = ((k % 8 : Nat) : Int) := by omega
      have hmod := Lib.hid hmod0
      clear hmod0
      have hN := HF.out.next (k % 8) (by omega) s
      have HN := Lib.hid hN.1
      have hE0 := hN.2
      have hwr : M.wr < 1099511627776 := by have := HF.out.wr; omega
      clear hN
      by_cases hkn : k < n
      · rw [if_pos hkn] at hE0
        have hE := Lib.hid hE0
        clear hE0
        go_wp2_with fail
        have c := held_write H4.out hwr (((k % 8 : Nat)) : Int) (secOf s)
        rw [hE.out, ← hmod.out] at c
        refine c.mono ?_
        clear c hE hwr
        rintro e w5 ⟨rfl, hH⟩
        rw [hmod.out] at hH
        have H5 := Lib.hid hH
        clear hH H4
        go_wp2_with fail
        have c := held_down H5.out
        have hx : decide (n ≤ k + 1) = decide ((n : Int) ≤ (k : Int) + 1) := decide_eq_decide.2 (by omega)
        rw [HN.out.down, hx] at c
        refine c.mono ?_
        clear c hx
        rintro e w6 ⟨rfl, rfl⟩
        go_wp2_with fail
        go_roundw
        case rel => exact ⟨k + 1, _, by omega, by simp, H5.out, HN.out⟩
        case measure => simp [intOf]; omega
      · rw [if_neg hkn] at hE0
        have hE := Lib.hid hE0
        clear hE0
        go_wp2_with fail
        have c := held_write H4.out hwr (((k % 8 : Nat)) : Int) (secOf s)
        rw [hE.out, ← hmod.out] at c
        refine c.mono ?_
        clear c hE hwr
        rintro e w5 ⟨rfl, hH⟩
        rw [hmod.out] at hH
        have H5 := Lib.hid hH
        clear hH H4
        go_wp2_with fail
        have c := held_down H5.out
        have hx : decide (n ≤ k + 1) = decide ((n : Int) ≤ (k : Int) + 1) := decide_eq_decide.2 (by omega)
        rw [HN.out.down, hx] at c
        refine c.mono ?_
        clear c hx
        rintro e w6 ⟨rfl, rfl⟩
        go_wp2_with fail
        go_roundw
        case rel => exact ⟨k + 1, _, by omega, by simp, H5.out, HN.out⟩
        case measure => simp [intOf]; omega
    · obtain rfl : k = l.length := by omega
      have hd := HF.out.down
      have hwr : M.wr ≤ 1099511627776 := by have := HF.out.wr; omega
      have hw2 : (M.wr : Int) = min (l.length : Int) (n : Int) := by rw [HF.out.wr]; omega
      by_cases hn2 : n ≤ l.length
      · have hd : M.down = true := by rw [hd]; simpa using hn2
        have hI : (n : Int) ≤ (l.length : Int) := by omega
        have hmin : min (l.length : Int) (n : Int) = n := by omega
        rw [hmin] at hw2
        go_wp2_with fail
        refine (held_read_down H3.out hd 0).mono ?_
        rintro e w4 ⟨rfl, rfl⟩
        go_wp2_with fail
        refine (held_flush_down H3.out hd).mono ?_
        rintro e w5 ⟨rfl, hH⟩
        have H5 := Lib.hid hH
        clear hH H3
        go_wp2_with fail
        have c := held_back H5.out hwr 0 0
        rw [back_zero_down hd] at c
        refine c.mono ?_
        clear c
        rintro e w6 ⟨rfl, hH⟩
        have H6 := Lib.hid hH
        clear hH H5
        go_wp2_with fail
        have c := held_writes H6.out
        rw [backed_wr, hw2] at c
        refine c.mono ?_
        clear c
        rintro e w7 ⟨rfl, rfl⟩
        go_wp2_with fail
        refine (held_crash H6.out (by rw [backed_wr]; exact hwr) [] (by decide)).mono ?_
        rintro e w8 ⟨rfl, hH⟩
        have H8 := Lib.hid hH
        clear hH H6
        go_wp2_with fail
        have c := held_down H8.out
        rw [show ((M.backed 0 0).crash []).down = false from rfl] at c
        refine c.mono ?_
        clear c
        rintro e w9 ⟨rfl, rfl⟩
        go_wp2_with fail
        refine (sector_any [] _ (by decide)).mono ?_
        rintro e w10 ⟨rfl, hb⟩
        have H10 := Lib.hid (H8.out.below hb)
        clear hb H8
        go_wp2_with fail
        have hE := wrote_zero ((M.backed 0 0).crash []) ((backed_n M 0 0).trans HF.out.n8) rfl []
        have c := held_write H10.out (by show (M.backed 0 0).wr < _; rw [backed_wr]; have := HF.out.wr; omega) 0 (secOf [])
        rw [hE] at c
        refine c.mono ?_
        clear c hE
        rintro e w11 ⟨rfl, hH⟩
        have HB := Lib.hid hH.keeps.all
        clear hH H10
        go_wp2_with fail
        refine (alive_any _).mono ?_
        rintro e w12 ⟨rfl, hb⟩
        go_wp2_with fail
        go_ret
        exact ⟨rfl, HB.out.trans (hb.mono HB.out.size)⟩
      · have hd : M.down = false := by rw [hd]; simpa using hn2
        have hI : (l.length : Int) < (n : Int) := by omega
        have hmin : min (l.length : Int) (n : Int) = l.length := by omega
        rw [hmin] at hw2
        go_wp2_with fail
        refine (held_read H3.out hd hwr 0 (by rw [HF.out.n8]; decide)).mono ?_
        rintro e w4 ⟨rfl, hH⟩
        have H4 := Lib.hid hH
        clear hH H3
        go_wp2_with fail
        refine (held_flush H4.out hd hwr).mono ?_
        rintro e w5 ⟨rfl, hH⟩
        have H5 := Lib.hid hH
        clear hH H4
        go_wp2_with fail
        have c := held_back (M := M.flush) H5.out hwr 0 0
        rw [back_zero (M := M.flush) HF.out.n8 hd] at c
        refine c.mono ?_
        clear c
        rintro e w6 ⟨rfl, hH⟩
        have H6 := Lib.hid hH
        clear hH H5
        go_wp2_with fail
        have c := held_writes H6.out
        rw [backed_wr, show M.flush.wr = M.wr from rfl, hw2] at c
        refine c.mono ?_
        clear c
        rintro e w7 ⟨rfl, rfl⟩
        go_wp2_with fail
        refine (held_crash H6.out (by rw [backed_wr]; exact hwr) [] (by decide)).mono ?_
        rintro e w8 ⟨rfl, hH⟩
        have H8 := Lib.hid hH
        clear hH H6
        go_wp2_with fail
        have c := held_down H8.out
        rw [show ((M.flush.backed 0 0).crash []).down = false from rfl] at c
        refine c.mono ?_
        clear c
        rintro e w9 ⟨rfl, rfl⟩
        go_wp2_with fail
        refine (sector_any [] _ (by decide)).mono ?_
        rintro e w10 ⟨rfl, hb⟩
        have H10 := Lib.hid (H8.out.below hb)
        clear hb H8
        go_wp2_with fail
        have hE := wrote_zero ((M.flush.backed 0 0).crash []) ((backed_n M.flush 0 0).trans HF.out.n8) rfl []
        have c := held_write H10.out (by show (M.flush.backed 0 0).wr < _; rw [backed_wr]; have := HF.out.wr; show M.wr < _; omega) 0 (secOf [])
        rw [hE] at c
        refine c.mono ?_
        clear c hE
        rintro e w11 ⟨rfl, hH⟩
        have HB := Lib.hid hH.keeps.all
        clear hH H10
        go_wp2_with fail
        refine (alive_any _).mono ?_
        rintro e w12 ⟨rfl, hb⟩
        go_wp2_with fail
        go_ret
        exact ⟨rfl, HB.out.trans (hb.mono HB.out.size)⟩
theorem walk_DevFuse (W : World) (a0 : Int) (v : Value) (l : List (List UInt8)) (w0 : (Lit.int .u8 a0).wf = true) (hv : Strings W v l) (hs : ∀ x ∈ l, x.length ≤ 140737488351232) (hl : l.length ≤ maxLen) :
    Calls Try.prog 5 #[.int .u8 a0, v] W fun e w' => e = .returned (.bool true) ∧ Below W.heap.size W w' := by
  have h : 0 ≤ a0 ∧ a0 < 256 := by
    have := w0
    simp [Lit.wf, IntKind.min, IntKind.max, IntKind.signed, IntKind.bits] at this
    omega
  obtain ⟨n, rfl⟩ : ∃ n : Nat, a0 = (n : Int) := ⟨a0.toNat, by omega⟩
  exact walk_DevFuse' n (by omega) v l W hv hs hl
end Go.Proofs.Ytoogedjeclcdbaa
