/- Layer 8 (tx): how much a statement plays; the chapter's examples. -/
import Derived.Test.YthgdkpkhnhjifaaGreatTxArgs
namespace Go.Proofs.YthgdkpkhnhjifaaGreat
open Go.RowKit Go.Maps
set_option linter.unusedVariables false
set_option linter.unusedSimpArgs false
set_option maxRecDepth 10000
set_option maxHeartbeats 1000000 in
theorem long8_any (v : Value) (l : List TSt) (w : World) (h : TSteps w v l) (hs : ∀ x ∈ l, fineT x) (hn : l.length ≤ maxLen) :
    Calls Tryz.prog 7 #[v] w fun e w' => (∃ r, e = .returned (.bool r) ∧ (r = false → l.length ≤ 120)) ∧ w = w' := by
  unfold maxLen at hn
  obtain ⟨A, c, rfl, hc⟩ := h
  have HC := Lib.hid hc
  have HS := Lib.hid hs
  clear hc hs
  go_enter Tryz.func7, Tryz.ntmps7
  go_wp2_with fail
  go_loopw [3, 4] (fun s i wr => ∃ k m : Nat, k ≤ l.length ∧ k ≤ 200 ∧ m ≤ 140737488351232 * k ∧ s = .int .i64 m ∧ i = .int .i64 k ∧ w = wr) (fun _ i _ => l.length - (intOf i).toNat)
  case atStart => exact ⟨0, 0, Nat.zero_le _, by omega, by omega, rfl, rfl, rfl⟩
  case round =>
    obtain ⟨k, m, hk, hk3, hm, rfl, rfl, rfl⟩ := hrel
    by_cases hlt : k < l.length ∧ k < 200
    · obtain ⟨a, rfl, x0, x1, x2, x3, x4⟩ := HC.out k _ (List.getElem?_eq_getElem hlt.1)
      have hfine := (HS.out l[k] (List.getElem_mem _)).1
      unfold behind at x3
      generalize l[k] = x at *
      have hI : (k : Int) < (l.length : Int) := by omega
      clear x0 x1 x2 x4
      go_wp2_with fail
      go_roundw
      case rel => exact ⟨k + 1, m + x.s.length, by omega, by omega, by omega, by simp, by simp, by trivial⟩
      case measure => simp [intOf]; omega
    · by_cases h120 : 120 < l.length
      · have d1 : decide ((120 : Int) < (l.length : Int)) = true := decide_eq_true (by omega)
        by_cases hkl : k = l.length
        · subst hkl
          go_wp2_with fail
          go_ret
          exact ⟨⟨_, rfl, fun h => by cases h⟩, rfl⟩
        · obtain rfl : k = 200 := by omega
          have hI : (200 : Int) < (l.length : Int) := by omega
          go_wp2_with fail
          go_ret
          exact ⟨⟨_, rfl, fun h => by cases h⟩, rfl⟩
      · obtain rfl : k = l.length := by omega
        have d1 : decide ((120 : Int) < (l.length : Int)) = false := decide_eq_false (by omega)
        have hle : l.length ≤ 120 := by omega
        go_wp2_with fail
        go_ret
        exact ⟨⟨_, rfl, fun _ => hle⟩, rfl⟩
/-- The example's texts. -/
def exZ : List UInt8 := fullT [120]
def exY : List UInt8 := over exZ 2 [97, 98]
theorem ex8_facts : wrE 32 10 [] 20 exZ = 0 ∧ wrL 32 10 [] 20 exZ = [(20, exZ)] ∧ ptE 32 10 (fun _ => List.replicate 64 0) [(20, exZ)] 20 2 [97, 98] = 0 ∧ ptL 32 10 (fun _ => List.replicate 64 0) [(20, exZ)] 20 2 [97, 98] = [(20, exY)] ∧ oursB [(20, exY)] = true ∧
    laid (fun _ => List.replicate 64 0) [(20, exY)] 20 = exY ∧ exY.length = 64 ∧ exY.take 5 = [120, 120, 97, 98, 120] ∧ rdE 32 20 = 0 ∧ rdS 32 (fun _ => List.replicate 64 0) [(20, exZ)] 20 = exZ ∧ fullT [] = List.replicate 64 0 ∧ capL 12 = 10 := by
  decide +kernel
set_option maxRecDepth 100000 in
set_option maxHeartbeats 2000000 in
theorem alive8_any (w : World) : Calls Tryz.prog 8 #[] w fun e w' => e = .returned (.bool true) ∧ Below w.heap.size w w' := by
  obtain ⟨f1, f2, f3, f4, f5, f6, f7, f8, f9, f10, f11, f12⟩ := ex8_facts
  have hz : exZ.length = 64 := fullT_length _
  have g1 := Lib.hid f1
  have g2 := Lib.hid f2
  have g3 := Lib.hid f3
  have g4 := Lib.hid f4
  have g5 := Lib.hid f5
  have g6 := Lib.hid f6
  have g9 := Lib.hid f9
  have g10 := Lib.hid f10
  have g11 := Lib.hid f11
  have g12 := Lib.hid f12
  clear f1 f2 f3 f4 f5 f6 f9 f10 f11 f12
  have HX := Lib.hid (fun V => full_any [120] V (by decide))
  have hE := fun V => full_any [] V (by decide)
  rw [g11.out] at hE
  have HE := Lib.hid hE
  have hxz : fullT [120] = exZ := rfl
  rw [hxz] at HX
  obtain ⟨Z, hZ⟩ : ∃ Z : List UInt8, Z = List.replicate 64 0 := ⟨_, rfl⟩
  rw [← hZ] at HE g11
  clear hE hxz
  go_enter Tryz.func8, Tryz.ntmps8
  go_wp2_with fail
  refine (sys_made (Sys.start w) 32 (by decide) (by decide)).mono ?_
  rintro e w1 ⟨b, jb, rfl, h1⟩
  have H1 := Lib.hid (show Sys w w1 [devR b (dev0 32), jourR jb b 4 12 0] from h1)
  clear h1
  go_wp2_with fail
  refine (sys_begin H1.out b jb 32 (by decide)).mono ?_
  rintro e w2 ⟨tb, rfl, h2⟩
  have h2' : TxSys w w2 [devR b (dev0 32), jourR jb b 4 12 0, txR tb b jb 32 []] 2 0 1 tb b jb 4 12 0 (dev0 32) [] := ⟨h2, rfl, rfl, rfl, by decide, by decide, by decide, rfl, Nat.zero_le _, by decide, by decide, WrOk.nil _ _⟩
  have H2 := Lib.hid h2'
  clear h2 h2' H1
  go_wp2_with fail
  refine (begin_nil _ _).mono ?_
  rintro e w3 ⟨rfl, rfl⟩
  go_wp2_with fail
  refine (HX.out _).mono ?_
  rintro e w3 ⟨rfl, hb⟩
  have H3 := Lib.hid (H2.out.below hb)
  clear hb H2
  have hwr := sys_txWrite H3.out 20 exZ (by omega)
  rw [g12.out, show (dev0 32).n = 32 from rfl, g1.out, g2.out] at hwr
  have HW := Lib.hid hwr
  clear hwr
  go_wp2_with fail
  refine HW.out.mono ?_
  rintro e w4 ⟨rfl, h4⟩
  have H4 := Lib.hid (show TxSys w w4 [devR b (dev0 32), jourR jb b 4 12 0, txR tb b jb 32 [(20, exZ)]] 2 0 1 tb b jb 4 12 0 (dev0 32) [(20, exZ)] from h4)
  clear h4 H3 HW
  have hcur : (dev0 32).cur = fun _ => List.replicate 64 0 := rfl
  have hrd := sys_txRead H4.out 20
  rw [hcur, show (dev0 32).n = 32 from rfl, g9.out, g10.out] at hrd
  have HR := Lib.hid hrd
  clear hrd
  go_wp2_with fail
  refine HR.out.mono ?_
  rintro e w5 ⟨rfl, hb⟩
  have H5 := Lib.hid (H4.out.below hb)
  clear hb H4 HR
  have hd0 := sys_read (i := 0) H5.out.sys rfl rfl (Nat.zero_le _) 20 (by decide : 20 < (dev0 32).n)
  rw [hcur, ← hZ] at hd0
  have HD := Lib.hid hd0
  clear hd0
  go_wp2_with fail
  refine HD.out.mono ?_
  rintro e w6 ⟨rfl, h6⟩
  have H6 := Lib.hid ({ H5.out with sys := h6 } : TxSys w w6 [devR b (dev0 32), jourR jb b 4 12 0, txR tb b jb 32 [(20, exZ)]] 2 0 1 tb b jb 4 12 0 (dev0 32) [(20, exZ)])
  clear h6 H5 HD
  have hpt := sys_txPatch H6.out 20 2 [97, 98] (by decide)
  rw [g12.out, hcur, show (dev0 32).n = 32 from rfl, g3.out, g4.out] at hpt
  have HP := Lib.hid hpt
  clear hpt
  go_wp2_with fail
  refine HP.out.mono ?_
  rintro e w7 ⟨rfl, h7⟩
  have H7 := Lib.hid (show TxSys w w7 [devR b (dev0 32), jourR jb b 4 12 0, txR tb b jb 32 [(20, exY)]] 2 0 1 tb b jb 4 12 0 (dev0 32) [(20, exY)] from h7)
  clear h7 H6 HP
  go_wp2_with fail
  refine (rest_commit H7.out (Rest.new 32) (by decide) (by decide) (by decide) (by decide) (by simp) g5.out).mono ?_
  rintro e w8 ⟨rfl, M2, h8, hR2, hn2, hwr2, hdur⟩
  have H8 := Lib.hid (show Sys w w8 [devR b M2, jourR jb b 4 12 0, doneR tb] from h8)
  have hy : M2.cur 20 = exY := by
    rw [hR2.cur, hdur 20 (by decide) (by decide)]
    exact g6.out
  have hd2 := sys_read (i := 0) H8.out rfl hR2.up (by have : (dev0 32).wr = 0 := rfl; omega) 20 (by rw [hn2]; decide)
  rw [hy] at hd2
  have HD := Lib.hid hd2
  clear hd2 h8 H7 hdur hR2 hy
  go_wp2_with fail
  refine HD.out.mono ?_
  rintro e w9 ⟨rfl, h9⟩
  have H9 := Lib.hid h9
  clear h9 H8 HD
  go_wp2_with fail
  refine (doneRead tb _ (H9.out.mem (i := 2) rfl) 20).mono ?_
  rintro e w10 ⟨rfl, hb⟩
  have H10 := Lib.hid (H9.out.below hb)
  clear hb H9
  go_wp2_with fail
  refine (HX.out _).mono ?_
  rintro e w11 ⟨rfl, hb⟩
  have H11 := Lib.hid (H10.out.below hb)
  clear hb H10
  go_wp2_with fail
  refine (HE.out _).mono ?_
  rintro e w12 ⟨rfl, hb⟩
  have H12 := Lib.hid (H11.out.below hb)
  clear hb H11
  go_wp2_with fail
  go_ret
  exact ⟨rfl, H12.out.all⟩
end Go.Proofs.YthgdkpkhnhjifaaGreat
