/- Layer 11 (image): inodes 2 to 4 of a formatted disk are taken, and become files. -/
import Derived.Test.YtnfiapjdkjbdhaaGreatImg30
namespace Go.Proofs.YtnfiapjdkjbdhaaGreat
open Go.RowKit Go.Maps Go.Lib
set_option linter.unusedVariables false
set_option linter.unusedSimpArgs false
set_option maxRecDepth 10000
theorem bits2_bit : ∀ c, c < 31 → 2 ≤ c → Bits.bitL bits2 c = false := by decide
theorem cap11 {G : Gm} (hG : Sm G) : 30 ≤ capL G.j := by
  have h40 := hG.ok.2.2.1
  unfold capL
  omega
/-- Inodes from k on are still to be taken. -/
def OwS (w W : World) (b jb tb mb : Nat) (G : Gm) (k : Nat) : Prop :=
  ∃ L im tab, ISys w W b jb tb mb 0 G (fmtD G) L [] ∧ Disk11 G (vw (fmtD G).cur L) im tab ∧ (∀ j, (tab j).bl = [0, 0, 0, 0, 0]) ∧ (∀ c, k ≤ c → c ≤ G.i → Bits.bitL im c = false) ∧ L.length ≤ 2 * (k - 2) ∧ im.length = 64
/-- One is taken. -/
def OwT (w W : World) (b jb tb mb : Nat) (G : Gm) (k : Nat) : Prop :=
  ∃ L im tab, ISys w W b jb tb mb 0 G (fmtD G) L [] ∧ Disk11 G (vw (fmtD G).cur L) im tab ∧ (∀ j, (tab j).bl = [0, 0, 0, 0, 0]) ∧ (∀ c, k + 1 ≤ c → c ≤ G.i → Bits.bitL im c = false) ∧ L.length ≤ 2 * (k - 2) + 1 ∧ im.length = 64
section
variable {w W : World} {b jb tb mb k : Nat} {G : Gm}
theorem OwS.below (h : OwS w W b jb tb mb G k) {W' : World} (hb : Below W.heap.size W W') : OwS w W' b jb tb mb G k := by
  obtain ⟨L, im, tab, h1, h2⟩ := h
  exact ⟨L, im, tab, h1.below hb, h2⟩
theorem OwT.below (h : OwT w W b jb tb mb G k) {W' : World} (hb : Below W.heap.size W W') : OwT w W' b jb tb mb G k := by
  obtain ⟨L, im, tab, h1, h2⟩ := h
  exact ⟨L, im, tab, h1.below hb, h2⟩
theorem own_start (h : ISys w W b jb tb mb 0 G (fmtD G) [] []) : OwS w W b jb tb mb G 2 := by
  have hd := fmt_disk G h.sm
  have h30 := h.sm.i
  exact ⟨[], bits2, fmtTab, h, hd, fmtTab_bl, fun c h1 h2 => bits2_bit c (by omega) h1, by simp, by decide⟩
theorem own_take (h : OwS w W b jb tb mb G k) (hk2 : 2 ≤ k) (hk4 : k ≤ 4) (hk : k ≤ G.i) :
    Calls Tryz.prog 11 #[devp mb, .int .u32 (k : Int)] W fun e w' => e = .returned (.int .i64 0) ∧ OwT w w' b jb tb mb G k := by
  obtain ⟨L, im, tab, h1, hd, hbl, hf, hl, hil⟩ := h
  have hcap := cap11 h1.sm
  have ht := take11_any h1 k ⟨by omega, hk⟩ false (by rw [hd.im]; exact hf k (Nat.le_refl _) hk)
  have he1 := wE_zero (cap := capL G.j) (L := L) (G.off 2) (by omega)
  have hv1 := vw_wL (f := (fmtD G).cur) (s := Bits.setL (vw (fmtD G).cur L (G.off 2)) k true) he1
  have hl1 := wL_len (cap := capL G.j) h1.asc (G.off 2) (Bits.setL (vw (fmtD G).cur L (G.off 2)) k true)
  have hd1 := hd.take h1.sm k
  refine ht.mono ?_
  rintro e w' ⟨rfl, hs⟩
  rw [if_neg (by decide)] at hs
  rw [if_neg (by decide), he1]
  refine ⟨rfl, _, Bits.setL im k true, tab, hs, by rw [hv1]; exact hd1, hbl, fun c h1' h2' => ?_, by omega, by unfold Bits.setL; rw [List.length_set]; exact hil⟩
  rw [Bits.setL_bit _ _ _ _ (by omega), if_neg (by omega)]
  exact hf c (by omega) h2'
theorem own_put (h : OwT w W b jb tb mb G k) (hk2 : 2 ≤ k) (hk4 : k ≤ 4) (hk : k ≤ G.i) :
    Calls Tryz.prog 12 #[devp mb, .int .u32 (k : Int), fileI.v] W fun e w' => e = .returned (.int .i64 0) ∧ OwS w w' b jb tb mb G (k + 1) := by
  obtain ⟨L, im, tab, h1, hd, hbl, hf, hl, hil⟩ := h
  have hcap := cap11 h1.sm
  have hr : Rg G k := ⟨by omega, hk⟩
  have hs := setInode_ok h1 k hr fileI fileI_fits fileI_may
  have he2 := wE_zero (cap := capL G.j) (L := L) (sI G k) (by omega)
  have hv2 := vw_wL (f := (fmtD G).cur) (s := over (vw (fmtD G).cur L (sI G k)) (pI k) fileI.putL) he2
  have hl2 := wL_len (cap := capL G.j) h1.asc (sI G k) (over (vw (fmtD G).cur L (sI G k)) (pI k) fileI.putL)
  have hd2 := hd.file h1.sm hr (hbl k) (y := fileI) rfl fileI_fits fileI_may
  refine hs.mono ?_
  rintro e w' ⟨rfl, hs'⟩
  rw [he2]
  refine ⟨rfl, _, im, upd tab k fileI, hs', by rw [hv2]; exact hd2, fun j => ?_, hf, by omega, hil⟩
  by_cases e : j = k
  · subst e; rw [upd_same]; rfl
  · rw [upd_other _ _ e]; exact hbl j
end
end Go.Proofs.YtnfiapjdkjbdhaaGreat
