/- Layer 10 (dirs): Find; change. -/
import Derived.Test.YtmidoghjacmdcaaDirs18
import Derived.Deep.RegionHeld3
namespace Go.Proofs.Ytmidoghjacmdcaa
open Go.RowKit Go.Lib
set_option linter.unusedVariables false
set_option linter.unusedSimpArgs false
set_option maxRecDepth 10000
theorem pad72_get {l : List En} {k : Nat} {x : En} (h : l[k]? = some x) : (pad72 l)[k]? = some x := by
  unfold pad72
  rw [List.getElem?_append_left (List.getElem?_eq_some_iff.1 h).1]
  exact h
theorem look_pad72 (l : List En) (n : List UInt8) : look (pad72 l) n = look l n := look_pad _
set_option maxHeartbeats 2000000 in
theorem find_any (s n : List UInt8) (w : World) (hs : s.length ≤ maxLen) :
    Calls Try.prog 15 #[str s, str n] w fun e w' => e = .returned (fndV (ents s) n) ∧ Below w.heap.size w w' := by
  have HR := Lib.hid fun W => read_any s W hs
  have hL := pad72_length (ents_le s)
  obtain ⟨hzr, hsz⟩ := zero_of_info entsInfo
  have Hsz := Lib.hid hsz
  clear hsz
  have hZ72 : (List.replicate 72 En.free).length = 72 := by simp
  generalize List.replicate 72 En.free = Z at *
  generalize chk s = z at *
  cases hl : look (ents s) n with
  | none =>
    have HF := Lib.hid (show fndV (ents s) n = .tuple #[.int .u32 0, .int .i64 0, .bool false] by
      unfold fndV; rw [fIno_none hl, fAt_none hl, fIs_none hl]; rfl)
    have HPl := Lib.hid fun g W (hW : EntAt W g (pad72 (ents s))) => by
      have := place_any g _ n W hW
      rw [look_pad72, hl] at this
      exact this
    clear hl
    generalize pad72 (ents s) = L at *
    go_enter Try.func15, Try.ntmps15
    go_wp2_with fail
    refine (HR.out _).mono ?_
    rintro e w1 ⟨rfl, hb1⟩
    have HB1 := Lib.hid hb1
    clear hb1 HR
    obtain ⟨w2, hst, ha, hb2, hsz2⟩ := arr_laid w1 Z L hZ72 hL
    have HB2 := Lib.hid (HB1.out.trans (hb2.mono HB1.out.size))
    have HPl2 := Lib.hid (HPl.out _ _ ha)
    clear ha hb2 hsz2 HPl
    go_wp2_with fail
    refine HPl2.out.mono ?_
    rintro e w3 ⟨rfl, hb3⟩
    have HB3 := Lib.hid (HB2.out.trans (hb3.mono HB2.out.size))
    clear hb3 HPl2
    dsimp only [optI]
    go_wp2_with fail
    go_ret3
    exact ⟨by rw [HF.out]; rfl, HB3.out⟩
  | some k =>
    obtain ⟨hne, x, hx, hxn, -⟩ := look_some hl
    have HF := Lib.hid (show fndV (ents s) n = .tuple #[.int .u32 (x.i : Nat), .int .i64 (k : Nat), .bool true] by
      unfold fndV; rw [fIno_some hl hx, fAt_some hl, fIs_some hl])
    have HPl := Lib.hid fun g W (hW : EntAt W g (pad72 (ents s))) => by
      have := place_any g _ n W hW
      rw [look_pad72, hl] at this
      exact this
    have Hx := Lib.hid (pad72_get hx)
    have hk := look_lt hl
    have h72 := ents_le s
    have hk72 : (k : Int) < 72 := by omega
    clear hl hx hxn hne
    generalize pad72 (ents s) = L at *
    go_enter Try.func15, Try.ntmps15
    go_wp2_with fail
    refine (HR.out _).mono ?_
    rintro e w1 ⟨rfl, hb1⟩
    have HB1 := Lib.hid hb1
    clear hb1 HR
    obtain ⟨w2, hst, ha, hb2, hsz2⟩ := arr_laid w1 Z L hZ72 hL
    have HB2 := Lib.hid (HB1.out.trans (hb2.mono HB1.out.size))
    have HPl2 := Lib.hid (HPl.out _ _ ha)
    have HA := Lib.hid ha
    clear ha hb2 hsz2 HPl
    go_wp2_with fail
    refine HPl2.out.mono ?_
    rintro e w3 ⟨rfl, hb3⟩
    have HB3 := Lib.hid (HB2.out.trans (hb3.mono HB2.out.size))
    obtain ⟨c0, c1⟩ := (HA.out.after hb3).cells Hx.out
    clear hb3 HPl2
    dsimp only [optI]
    go_wp2_with fail
    go_ret3
    exact ⟨by rw [HF.out]; rfl, HB3.out⟩
set_option maxRecDepth 100000 in
set_option maxHeartbeats 2000000 in
theorem change_in (s : List UInt8) (k : Nat) (x : En) (w : World) (hs : s.length ≤ 2304) (hk : 32 * k + 32 ≤ s.length) (hi : x.i < 4294967296) (hn : x.n.length ≤ 27) :
    Calls Try.prog 31 #[str s, .int .i64 (k : Int), x.v] w fun e w' => e = .returned (str (chg s k (slotL x))) ∧ Below w.heap.size w w' := by
  have HP := Lib.hid fun W => dput_any x W hi hn
  have hpl := slotL_length hn
  obtain ⟨j, hj⟩ : ∃ j, j = 32 * k := ⟨_, rfl⟩
  have e1 : IntKind.i64.wrap ((k : Int) * 32) = (j : Int) := by rw [IntWalk.i64_in _ ⟨by omega, by omega⟩]; omega
  have e2 : IntKind.i64.wrap ((j : Int) + 32) = (j : Int) + 32 := IntWalk.i64_in _ ⟨by omega, by omega⟩
  have HE := Lib.hid (show chg s k (slotL x) = s.take j ++ slotL x ++ s.drop (j + 32) by unfold chg; rw [hj])
  have b1 : j ≤ s.length := by omega
  have b2 : j + 32 ≤ s.length := by omega
  have b3 : (j : Int) ≤ (s.length : Int) := by omega
  have b4 : (j : Int) + 32 ≤ (s.length : Int) := by omega
  have b5 : ((j : Int) == (s.length : Int)) = false := by simp; omega
  have b6 : ((j : Int) + 32).toNat = j + 32 := by omega
  have b7 : (0 : Int) ≤ (j : Int) + 32 := by omega
  have t1 : (s.take j).length ≤ 2304 := by simp; omega
  have t2 : (s.drop (j + 32)).length ≤ 2304 := by simp; omega
  have e3 : (k : Int) * 32 = (j : Int) := by omega
  have q8 : ¬ 9223372036854775807 < j + 32 := by omega
  have q9 : ¬ 9223372036854775807 < s.length := by omega
  clear hj hk
  generalize slotL x = p at *
  go_enter Try.func31, Try.ntmps31
  go_wp2_with fail
  have HBd := Lib.hid ((Below.refl w.heap.size w).alloc (Nat.le_refl _) (.cells #[str x.n, .int .u32 (x.i : Int)] 34)).drew
  go_region_held3 (fun W => W.cell? ⟨w.heap.size, 0, none⟩ = some (str x.n) ∧ W.cell? ⟨w.heap.size, 1, none⟩ = some (.int .u32 (x.i : Int)))
    (first | exact two_cells _ _ _ _ | exact pair_kept (by assumption) hb4)
    (first | (go_at_call 37; ((with_reducible refine (HP.out _).mono ?_); rintro e w4 ⟨rfl, hb4⟩; have HBd := Lib.hid (HBd.out.trans (hb4.mono HBd.out.size)))))
  go_wp2_with fail
  go_ret
  exact ⟨by rw [HE.out, List.append_assoc]; rfl, HBd.out⟩
theorem chg_end {s p : List UInt8} {k : Nat} (hk : 32 * k = s.length) : chg (s ++ List.replicate 64 0) k p = s ++ (p ++ freeL) := by
  unfold chg
  rw [hk, List.take_left', List.append_assoc]
  · congr 2
    rw [List.drop_append, List.drop_of_length_le (by omega), show s.length + 32 - s.length = 32 by omega]
    rfl
  · rfl
set_option maxRecDepth 100000 in
set_option maxHeartbeats 2000000 in
theorem change_end (s : List UInt8) (k : Nat) (x : En) (w : World) (hs : s.length ≤ 2240) (hk : 32 * k = s.length) (hi : x.i < 4294967296) (hn : x.n.length ≤ 27) :
    Calls Try.prog 31 #[str s, .int .i64 (k : Int), x.v] w fun e w' => e = .returned (str (s ++ (slotL x ++ freeL))) ∧ Below w.heap.size w w' := by
  have HP := Lib.hid fun W => dput_any x W hi hn
  have hpl := slotL_length hn
  obtain ⟨j, hj⟩ : ∃ j, j = 32 * k := ⟨_, rfl⟩
  have e1 : IntKind.i64.wrap ((k : Int) * 32) = (j : Int) := by rw [IntWalk.i64_in _ ⟨by omega, by omega⟩]; omega
  have e2 : IntKind.i64.wrap ((j : Int) + 32) = (j : Int) + 32 := IntWalk.i64_in _ ⟨by omega, by omega⟩
  have e4 : IntKind.i64.wrap ((j : Int) + 64) = (j : Int) + 64 := IntWalk.i64_in _ ⟨by omega, by omega⟩
  have hpd : ∀ W, Calls Try.prog 36 #[str s, .int .i64 ((j : Int) + 64)] W fun e w' => e = .returned (.tuple #[str (s ++ List.replicate 64 0), .int .i64 0]) ∧ Below W.heap.size W w' := fun W => pad_ok s 64 ((j : Int) + 64) W (by omega) (by omega)
  have HPd := Lib.hid hpd
  have hce := chg_end (p := slotL x) hk
  have HE := Lib.hid (show s ++ (slotL x ++ freeL) = (s ++ List.replicate 64 0).take j ++ slotL x ++ (s ++ List.replicate 64 0).drop (j + 32) by rw [← hce]; unfold chg; rw [hj])
  have b5 : ((j : Int) == (s.length : Int)) = true := by simp; omega
  have hs2 : (s ++ List.replicate 64 0).length = j + 64 := by simp; omega
  have e3 : (k : Int) * 32 = (j : Int) := by omega
  have hj2 : j ≤ 2240 := by omega
  clear hj hk hpd hce
  generalize slotL x = p at *
  go_enter Try.func31, Try.ntmps31
  go_wp2_with fail
  have HB0 := Lib.hid ((Below.refl w.heap.size w).alloc (Nat.le_refl _) (.cells #[str x.n, .int .u32 (x.i : Int)] 34))
  have HV := Lib.hid (two_cells w (str x.n) (.int .u32 (x.i : Int)) 34)
  refine (HPd.out _).mono ?_
  rintro e w1 ⟨rfl, hb1⟩
  have HB1 := Lib.hid (HB0.out.trans (hb1.mono HB0.out.size))
  have HV1 := Lib.hid (pair_kept HV.out hb1)
  clear hb1 HV HB0 HPd
  generalize s ++ List.replicate 64 0 = u at *
  have b1 : j ≤ u.length := by omega
  have b2 : j + 32 ≤ u.length := by omega
  have b3 : (j : Int) ≤ (u.length : Int) := by omega
  have b4 : (j : Int) + 32 ≤ (u.length : Int) := by omega
  have b6 : ((j : Int) + 32).toNat = j + 32 := by omega
  have b7 : (0 : Int) ≤ (j : Int) + 32 := by omega
  have q8 : ¬ 9223372036854775807 < j + 32 := by omega
  have q9 : ¬ 9223372036854775807 < u.length := by omega
  have t1 : u.length ≤ 2304 := by omega
  clear hs2
  go_wp2_with fail
  have HBd := Lib.hid HB1.out.drew
  go_region_held3 (fun W => W.cell? ⟨w.heap.size, 0, none⟩ = some (str x.n) ∧ W.cell? ⟨w.heap.size, 1, none⟩ = some (.int .u32 (x.i : Int)))
    (first | exact HV1.out | exact pair_kept (by assumption) hb4)
    (first | (go_at_call 37; ((with_reducible refine (HP.out _).mono ?_); rintro e w4 ⟨rfl, hb4⟩; have HBd := Lib.hid (HBd.out.trans (hb4.mono HBd.out.size)))))
  go_wp2_with fail
  go_ret
  exact ⟨by rw [HE.out, List.append_assoc]; rfl, HBd.out⟩
end Go.Proofs.Ytmidoghjacmdcaa
