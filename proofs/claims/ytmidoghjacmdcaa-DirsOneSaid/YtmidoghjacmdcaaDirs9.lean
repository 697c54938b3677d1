/- Layer 10 (dirs), the document's own answers: Add, Set, Del, Trim, Same. -/
import Derived.Test.YtmidoghjacmdcaaDirs8
namespace Go.Proofs.Ytmidoghjacmdcaa
open Go.RowKit Go.Lib
set_option linter.unusedVariables false
set_option linter.unusedSimpArgs false
set_option maxRecDepth 10000
set_option maxHeartbeats 1000000 in
theorem refPut_any (s p : List UInt8) (k : Nat) (w : World) (hs : s.length ≤ 2304) (hk : 32 * k + 32 ≤ s.length) (hp : p.length = 32) :
    Calls Try.prog 33 #[str s, .int .i64 (k : Int), str p] w fun e w' => e = .returned (str (chg s k p)) ∧ Below w.heap.size w w' := by
  obtain ⟨j, hj⟩ : ∃ j, j = 32 * k := ⟨_, rfl⟩
  have e1 : IntKind.i64.wrap ((k : Int) * 32) = (j : Int) := by rw [IntWalk.i64_in _ ⟨by omega, by omega⟩]; omega
  have e2 : IntKind.i64.wrap ((k : Int) + 1) = (k : Int) + 1 := IntWalk.i64_in _ ⟨by omega, by omega⟩
  have e3 : IntKind.i64.wrap (((k : Int) + 1) * 32) = ((j + 32 : Nat) : Int) := by rw [IntWalk.i64_in _ ⟨by omega, by omega⟩]; omega
  have HE := Lib.hid (show chg s k p = s.take j ++ p ++ s.drop (j + 32) by unfold chg; rw [hj])
  have b1 : j ≤ s.length := by omega
  have b2 : j + 32 ≤ s.length := by omega
  have b3 : (s.take j).length + p.length ≤ 2336 := by simp; omega
  clear hj hk
  go_enter Try.func33, Try.ntmps33
  go_wp2_with fail
  go_quiet (fail)
  go_wp2_with fail
  go_ret
  exact ⟨by rw [HE.out, List.append_assoc]; rfl, below_drewN (Below.refl _ _) _⟩
set_option maxRecDepth 100000 in
set_option maxHeartbeats 2000000 in
theorem refSet_any (s n : List UInt8) (i : Nat) (w : World) (hs : s.length ≤ maxLen) (hi : i < 4294967296) :
    Calls Try.prog 10 #[str s, str n, .int .u32 (i : Int)] w fun e w' => e = .returned (.tuple #[str (setT s ⟨n, i⟩), .int .i64 (setE s ⟨n, i⟩ : Nat)]) ∧ Below w.heap.size w w' := by
  have HC := Lib.hid fun W => refCheck_any s W hs
  have hF := fun W => refFind_any s n W hs
  by_cases h0 : chk s = 0
  · by_cases hi0 : i = 0
    · obtain ⟨h1, h2⟩ := set_arg (x := ⟨n, i⟩) h0 hi0
      have H1 := Lib.hid h1
      have H2 := Lib.hid h2
      rw [h0] at HC
      subst hi0
      clear h0 h1 h2 hF
      go_enter Try.func10, Try.ntmps10
      go_wp2_with fail
      refine (HC.out _).mono ?_
      rintro e w1 ⟨rfl, hb1⟩
      have HB1 := Lib.hid hb1
      clear hb1 HC
      go_wp2_with fail
      go_ret2
      exact ⟨by rw [H1.out, H2.out]; rfl, HB1.out⟩
    · have q1 : ((i : Int) == 0) = false := (ino_ne hi0).1
      cases hl : look (ents s) n with
      | none =>
        obtain ⟨h1, h2⟩ := set_none (x := ⟨n, i⟩) h0 hi0 hl
        have H1 := Lib.hid h1
        have H2 := Lib.hid h2
        have hfv : fndV (ents s) n = .tuple #[.int .u32 0, .int .i64 0, .bool false] := by unfold fndV; rw [fIno_none hl, fAt_none hl, fIs_none hl]; rfl
        rw [hfv] at hF
        have HF := Lib.hid hF
        rw [h0] at HC
        clear h0 h1 h2 hF hi0 hl hfv
        go_enter Try.func10, Try.ntmps10
        go_wp2_with fail
        refine (HC.out _).mono ?_
        rintro e w1 ⟨rfl, hb1⟩
        have HB1 := Lib.hid hb1
        clear hb1 HC
        go_wp2_with fail
        refine (HF.out _).mono ?_
        rintro e w2 ⟨rfl, hb2⟩
        have HB2 := Lib.hid (HB1.out.trans (hb2.mono HB1.out.size))
        clear hb2 HF
        go_wp2_with fail
        go_ret2
        exact ⟨by rw [H1.out, H2.out]; rfl, HB2.out⟩
      | some k =>
        obtain ⟨hne, x, hx, hxn, -⟩ := look_some hl
        obtain ⟨h1, h2⟩ := set_some (x := ⟨n, i⟩) h0 hi0 hl
        have hn27 : n.length ≤ 27 := by rw [← hxn]; exact (ents_ok s x (List.mem_of_getElem? hx)).len
        have hkl := look_lt hl
        obtain ⟨l1, l2, l3⟩ := ents_len h0
        have H1 := Lib.hid h1
        have H2 := Lib.hid h2
        have hfv : fndV (ents s) n = .tuple #[.int .u32 (x.i : Nat), .int .i64 (k : Nat), .bool true] := by unfold fndV; rw [fIno_some hl hx, fAt_some hl, fIs_some hl]
        rw [hfv] at hF
        have HF := Lib.hid hF
        have HSl := Lib.hid fun W => refSlot_any ⟨n, i⟩ W hi hn27
        have HP := Lib.hid fun W => refPut_any s (slotL ⟨n, i⟩) k W l2 (by omega) (slotL_length hn27)
        rw [h0] at HC
        clear h0 h1 h2 hF hi0 hl hfv hx hxn hne hn27 hkl l1 l2 l3
        go_enter Try.func10, Try.ntmps10
        go_wp2_with fail
        refine (HC.out _).mono ?_
        rintro e w1 ⟨rfl, hb1⟩
        have HB1 := Lib.hid hb1
        clear hb1 HC
        go_wp2_with fail
        refine (HF.out _).mono ?_
        rintro e w2 ⟨rfl, hb2⟩
        have HB2 := Lib.hid (HB1.out.trans (hb2.mono HB1.out.size))
        clear hb2 HF
        go_wp2_with fail
        refine (HSl.out _).mono ?_
        rintro e w3 ⟨rfl, hb3⟩
        have HB3 := Lib.hid (HB2.out.trans (hb3.mono HB2.out.size))
        clear hb3 HSl
        go_wp2_with fail
        refine (HP.out _).mono ?_
        rintro e w4 ⟨rfl, hb4⟩
        have HB4 := Lib.hid (HB3.out.trans (hb4.mono HB3.out.size))
        clear hb4 HP
        go_wp2_with fail
        go_ret2
        exact ⟨by rw [H1.out, H2.out]; rfl, HB4.out⟩
  · obtain ⟨h1, h2⟩ := set_bad (x := ⟨n, i⟩) h0
    have q := chk_ne h0
    have H1 := Lib.hid h1
    have H2 := Lib.hid h2
    clear h0 h1 h2 hF
    generalize chk s = z at *
    go_enter Try.func10, Try.ntmps10
    go_wp2_with fail
    refine (HC.out _).mono ?_
    rintro e w1 ⟨rfl, hb1⟩
    have HB1 := Lib.hid hb1
    clear hb1 HC
    go_wp2_with fail
    go_ret2
    exact ⟨by rw [H1.out, H2.out]; rfl, HB1.out⟩
set_option maxRecDepth 100000 in
set_option maxHeartbeats 2000000 in
theorem refDel_any (s n : List UInt8) (w : World) (hs : s.length ≤ maxLen) :
    Calls Try.prog 12 #[str s, str n] w fun e w' => e = .returned (.tuple #[str (delT s n), .int .u32 (delI s n : Nat), .int .i64 (delE s n : Nat)]) ∧ Below w.heap.size w w' := by
  have HC := Lib.hid fun W => refCheck_any s W hs
  have hF := fun W => refFind_any s n W hs
  by_cases h0 : chk s = 0
  · cases hl : look (ents s) n with
    | none =>
      obtain ⟨h1, h2, h3⟩ := del_none h0 hl
      have H1 := Lib.hid h1
      have H2 := Lib.hid h2
      have H3 := Lib.hid h3
      have hfv : fndV (ents s) n = .tuple #[.int .u32 0, .int .i64 0, .bool false] := by unfold fndV; rw [fIno_none hl, fAt_none hl, fIs_none hl]; rfl
      rw [hfv] at hF
      have HF := Lib.hid hF
      rw [h0] at HC
      clear h0 h1 h2 h3 hF hl hfv
      go_enter Try.func12, Try.ntmps12
      go_wp2_with fail
      refine (HC.out _).mono ?_
      rintro e w1 ⟨rfl, hb1⟩
      have HB1 := Lib.hid hb1
      clear hb1 HC
      go_wp2_with fail
      refine (HF.out _).mono ?_
      rintro e w2 ⟨rfl, hb2⟩
      have HB2 := Lib.hid (HB1.out.trans (hb2.mono HB1.out.size))
      clear hb2 HF
      go_wp2_with fail
      go_ret3
      exact ⟨by rw [H1.out, H2.out, H3.out]; rfl, HB2.out⟩
    | some k =>
      obtain ⟨hne, x, hx, hxn, -⟩ := look_some hl
      obtain ⟨h1, h2, h3⟩ := del_some h0 hl hx
      have hkl := look_lt hl
      obtain ⟨l1, l2, l3⟩ := ents_len h0
      have H1 := Lib.hid h1
      have H2 := Lib.hid h2
      have H3 := Lib.hid h3
      have hfv : fndV (ents s) n = .tuple #[.int .u32 (x.i : Nat), .int .i64 (k : Nat), .bool true] := by unfold fndV; rw [fIno_some hl hx, fAt_some hl, fIs_some hl]
      rw [hfv] at hF
      have HF := Lib.hid hF
      have HFr := Lib.hid free_any
      have HP := Lib.hid fun W => refPut_any s freeL k W l2 (by omega) freeL_length
      rw [h0] at HC
      clear h0 h1 h2 h3 hF hl hfv hx hxn hne hkl l1 l2 l3
      go_enter Try.func12, Try.ntmps12
      go_wp2_with fail
      refine (HC.out _).mono ?_
      rintro e w1 ⟨rfl, hb1⟩
      have HB1 := Lib.hid hb1
      clear hb1 HC
      go_wp2_with fail
      refine (HF.out _).mono ?_
      rintro e w2 ⟨rfl, hb2⟩
      have HB2 := Lib.hid (HB1.out.trans (hb2.mono HB1.out.size))
      clear hb2 HF
      go_wp2_with fail
      refine (HFr.out _).mono ?_
      rintro e w3 ⟨rfl, hb3⟩
      have HB3 := Lib.hid (HB2.out.trans (hb3.mono HB2.out.size))
      clear hb3 HFr
      generalize freeL = F at *
      go_wp2_with fail
      refine (HP.out _).mono ?_
      rintro e w4 ⟨rfl, hb4⟩
      have HB4 := Lib.hid (HB3.out.trans (hb4.mono HB3.out.size))
      clear hb4 HP
      go_wp2_with fail
      go_ret3
      exact ⟨by rw [H1.out, H2.out, H3.out]; rfl, HB4.out⟩
  · obtain ⟨h1, h2, h3⟩ := del_bad (n := n) h0
    have q := chk_ne h0
    have H1 := Lib.hid h1
    have H2 := Lib.hid h2
    have H3 := Lib.hid h3
    clear h0 h1 h2 h3 hF
    generalize chk s = z at *
    go_enter Try.func12, Try.ntmps12
    go_wp2_with fail
    refine (HC.out _).mono ?_
    rintro e w1 ⟨rfl, hb1⟩
    have HB1 := Lib.hid hb1
    clear hb1 HC
    go_wp2_with fail
    go_ret3
    exact ⟨by rw [H1.out, H2.out, H3.out]; rfl, HB1.out⟩
end Go.Proofs.Ytmidoghjacmdcaa
