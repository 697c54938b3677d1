/- Layer 11 (image): what was written is committed; another transaction, and an image on it. -/
import Derived.Test.YtnfiapjdkjbdhaaGreatX16
namespace Go.Proofs.YtnfiapjdkjbdhaaGreat
open Go.RowKit Go.Maps Go.Lib
set_option linter.unusedVariables false
set_option linter.unusedSimpArgs false
set_option maxRecDepth 10000
/-- A device at rest: its journal begins at sector 1. -/
structure Rest11 (M : Dv) (g : Nat) : Prop where
  up : M.down = false
  left : M.left = 0
  calm : M.calm
  gen : (hd (M.dur 1)).gen = g
  pend : (hd (M.dur 1)).pend = false
theorem Rest11.cur {M : Dv} {g : Nat} (h : Rest11 M g) : M.cur = M.dur := funext fun i => calm_cur M h.calm i
theorem Rest11.sta {M : Dv} {g : Nat} (h : Rest11 M g) (N n : Nat) : StA N 1 n g M.dur M.dur := ⟨h.gen, h.pend, fun i _ => rfl⟩
theorem Rest11.head {M : Dv} {g : Nat} (h : Rest11 M g) : M.headOf 1 = ⟨g, false, (M.headOf 1).cnt⟩ := by
  rw [calm_head h.calm]
  exact sta_head (n := 4) (h.sta M.n 4)
theorem Rest11.new (G : Gm) (hG : Sm G) : Rest11 (fmtD G) 0 := by
  have hj := (Gm.made11 hG.ok).2.2
  have h1 : (fmtD G).dur 1 = List.replicate 64 0 := by
    have o2 := Sm.o2 G
    have o3 := hG.o3
    have o4 := hG.o4
    have h40 := hG.ok.2.2.1
    show (if 1 < G.all then fmtS G 1 else z64) = _
    rw [if_pos (by omega)]
    unfold fmtS
    rw [if_neg (by omega), if_neg (by omega), if_neg (by omega), if_neg (by omega)]
    rfl
  exact ⟨rfl, rfl, fun _ => rfl, by rw [h1, hd_zero], by rw [h1, hd_zero]⟩
theorem why11 {N n : Nat} {G : Gm} {L : PutL} (h : WrOk N (capL G.j) L) (ho : Ours G L) : whyL N 1 G.j (castL L) = 0 := by
  unfold whyL
  rw [if_neg, if_neg, if_neg]
  · rw [castL_length]; have := h.cap; omega
  · simp only [Bool.not_eq_true, List.any_eq_false]
    intro p hp
    obtain ⟨q, hq, rfl⟩ := List.mem_map.1 hp
    have := ho q hq
    simp [withinB]
    omega
  · simp only [Bool.not_eq_true, List.any_eq_false]
    intro p hp
    obtain ⟨q, hq, rfl⟩ := List.mem_map.1 hp
    have := h.ok q hq
    simp [wrongB]
    omega
section
variable {w W : World} {b jb tb mb rec g : Nat} {G : Gm} {M : Dv} {L : PutL} {qs : List Res} {im : List UInt8} {tab : Nat → Im}
theorem commit11 (h : ISys w W b jb tb mb rec G M L qs) (hR : Rest11 M g) (hw : M.wr + 16384 ≤ 1099511627776) (hg : g + 1 < 18446744073709551615) (hne : L ≠ []) :
    Calls Tryz.prog 21 #[devp tb] W fun e w' => e = .returned (.tuple #[.int .u64 ((g : Int) + 1), .int .i64 0]) ∧ ∃ M2, Sys w w' (devR b M2 :: jourR jb b 1 G.j rec :: doneR tb :: imgR mb tb G :: qs) ∧ Rest11 M2 (g + 1) ∧ M2.n = M.n ∧ M2.wr ≤ M.wr + 600 ∧ ∀ k, k < M.n → (k < 1 ∨ 1 + G.j ≤ k) → M2.cur k = vw M.cur L k := by
  have hwhy := why11 (n := 0) h.tx.ok h.ours
  have h60 := h.sm.j
  have h4k := (Gm.made11 h.sm.ok)
  have hFn : 1 + G.j ≤ M.n := by rw [h.N]; exact h4k.2.2.1
  have hT := tr_last hwhy h4k.2.2.2.1 hFn (by rw [h.N]; exact h4k.2.1)
  obtain ⟨h1, h2, -, h3, h4⟩ := commit_all (M := M) hT rfl hR.calm (by omega) (hR.sta M.n G.j)
  obtain ⟨d1, d2⟩ := h4 hR.up hR.left
  obtain ⟨c1, c2⟩ := h3 d1
  have hll := lastL_length L
  have hcap := h.tx.ok.cap
  have hc57 : capL G.j ≤ 60 := by unfold capL; omega
  refine (sys_txCommit h.tx.sys h.tx.ht h.tx.hi h.tx.hj h.tx.ti h.tx.tj h.tx.ij hne h.tx.h4 h.tx.h256 hFn hw hwhy hR.head (by omega)).mono ?_
  rintro e w' ⟨rfl, hs⟩
  rw [d1]
  have hR2 : Rest11 (M.runD (commitP 1 (g + 1) (lastL L))) (g + 1) := ⟨d1, d2, c1, c2.gen, c2.pend⟩
  refine ⟨rfl, _, hs, hR2, h1, by omega, fun k hk ho => ?_⟩
  rw [hR2.cur, c2.out k ⟨hk, by omega⟩, laid_lastL, laid_look h.asc, hR.cur]
  rfl
/-- The next transaction, and its image. -/
theorem begun11 {w W : World} {b jb tb0 mb0 rec : Nat} {G : Gm} {M : Dv} {qs : List Res} (h : Sys w W (devR b M :: jourR jb b 1 G.j rec :: doneR tb0 :: imgR mb0 tb0 G :: qs)) (hG : Sm G) (hN : M.n = G.all) :
    Calls Tryz.prog 22 #[devp b, devp jb] W fun e w' => ∃ tb, e = .returned (.tuple #[devp tb, .int .i64 0]) ∧ Sys w w' (devR b M :: jourR jb b 1 G.j rec :: txR tb b jb M.n [] :: qs) := by
  refine (sys_begin h b jb M.n (by rw [hN]; exact (Gm.made11 hG.ok).2.1)).mono ?_
  rintro e w' ⟨tb, rfl, hs⟩
  refine ⟨tb, rfl, ?_⟩
  have h1 : Sys w w' (devR b M :: jourR jb b 1 G.j rec :: txR tb b jb M.n [] :: doneR tb0 :: imgR mb0 tb0 G :: qs) := Sys.front11 (A := [devR b M, jourR jb b 1 G.j rec]) (B := doneR tb0 :: imgR mb0 tb0 G :: qs) hs
  exact Sys.unfront11 (A := [devR b M, jourR jb b 1 G.j rec, txR tb b jb M.n []]) (Sys.unfront11 (A := [devR b M, jourR jb b 1 G.j rec, txR tb b jb M.n []]) h1)
theorem newed11 {w W : World} {b jb tb rec : Nat} {G : Gm} {M : Dv} {qs : List Res} (h : Sys w W (devR b M :: jourR jb b 1 G.j rec :: txR tb b jb M.n [] :: qs)) (hG : Sm G) (hN : M.n = G.all) (hup : M.down = false) (hw : M.wr ≤ 1099511627776) :
    Calls Tryz.prog 23 #[devp tb, gv G] W fun e w' => ∃ mb, e = .returned (.tuple #[devp mb, .int .i64 0]) ∧ ISys w w' b jb tb mb rec G M [] qs := by
  obtain ⟨h8, h4k, hj1, h4, h256⟩ := Gm.made11 hG.ok
  refine (new11_any tb G hG.ok W).mono ?_
  rintro e w' ⟨mb, rfl, hi, hml, hb⟩
  have h1 : Sys w w' (devR b M :: jourR jb b 1 G.j rec :: txR tb b jb M.n [] :: imgR mb tb G :: qs) := Sys.front11 (A := [devR b M, jourR jb b 1 G.j rec, txR tb b jb M.n []]) (B := qs) (h.addMem hb (p := fun W => ImgAt W mb tb G) (own := fun k => k = mb) hi fun k hk => by rw [hk]; exact ⟨hml, (Array.getElem?_eq_some_iff.1 hi).1⟩)
  exact ⟨mb, rfl, ⟨h1, rfl, rfl, rfl, by decide, by decide, by decide, hup, hw, h4, h256, WrOk.nil _ _⟩, hG, hN, ours_nil G⟩
/-- What a disk is, as the next transaction sees it. -/
theorem Disk11.next {G : Gm} {v v' : Nat → List UInt8} {im : List UInt8} {tab : Nat → Im} (hG : Sm G) (h : Disk11 G v im tab) (hl : ∀ k, k < G.all → (v' k).length = 64) (he : ∀ k, k < G.all → (k < 1 ∨ 1 + G.j ≤ k) → v' k = v k) :
    Disk11 G v' im tab ∧ ∀ j, Rg G j → ∀ q, datV G v' (tab j) q = datV G v (tab j) q := by
  have hoff := off_lt hG
  have o2 := Sm.o2 G
  have hB : ∀ c, Bg G c → v' (secB G c) = v (secB G c) := fun c hc => he _ (secB_all hc) (.inr (by have := @secB_off G c; omega))
  have hi : ∀ j, Rg G j → (tab j).i ≠ 0 → v' (secB G (tab j).i) = v (secB G (tab j).i) := fun j hj h0 => hB _ ((h.own.ino j hj).own (ind_own h0))
  refine ⟨⟨h.own.congr hl (he _ (by omega) (.inr (by omega))) hi, fun j hj hne => ?_, by rw [he _ (by omega) (.inr (by omega))]; exact h.im⟩, fun j hj q => ?_⟩
  · have := sI_lt hG hj
    rw [← h.tab j hj hne]
    unfold inB
    rw [he _ (by omega) (.inr (by omega))]
  · unfold datV
    rw [pgV_congr (hi j hj)]
    split
    · rfl
    · rename_i h0
      exact hB _ ((h.own.ino j hj).own (pg_own h0))
end
end Go.Proofs.YtnfiapjdkjbdhaaGreat
