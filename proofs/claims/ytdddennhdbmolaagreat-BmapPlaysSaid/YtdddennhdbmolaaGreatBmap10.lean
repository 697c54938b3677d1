/- Layer 9 (bmap): an indirect block read, written and cut in a transaction; what is asked of all, as mathematics. -/
import Derived.Test.YtdddennhdbmolaaGreatM18
import Derived.Test.YtdddennhdbmolaaGreatBmap9
namespace Go.Proofs.YtdddennhdbmolaaGreat
open Go.RowKit Go.Maps Go.Lib
set_option linter.unusedVariables false
set_option linter.unusedSimpArgs false
set_option maxRecDepth 10000
/-- What an indirect block lists. -/
def lisL (G : Gm) (f : Nat → List UInt8) (L : PutL) (k : Nat) : List Nat := if k = 0 then List.replicate 32 0 else numsL ((look L (secB G k)).getD (f (secB G k)))
theorem secB_lt {G : Gm} {k : Nat} (h1 : 1 ≤ k) (h2 : k ≤ G.b) : secB G k < G.all := by
  unfold secB Gm.all
  rw [G.off_succ 5]
  show G.off 5 + (k - 1) < G.off 5 + G.b
  omega
theorem numsL_lt (s : List UInt8) : ∀ x ∈ numsL s, x < 65536 := by
  intro x hx
  obtain ⟨j, -, rfl⟩ := List.mem_map.1 hx
  exact num2_lt s j
theorem lisL_lt (G : Gm) (f : Nat → List UInt8) (L : PutL) (k : Nat) : ∀ x ∈ lisL G f L k, x < 65536 := by
  intro x hx
  unfold lisL at hx
  split at hx
  · rw [List.eq_of_mem_replicate hx]; decide
  · exact numsL_lt _ x hx
section
variable {w W : World} {rs : List Res} {t i j tb b jb F n rec : Nat} {M : Dv} {L : PutL} {G : Gm}
theorem TxSys.val (h : TxSys w W rs t i j tb b jb F n rec M L) (hN : M.n = G.all) {k : Nat} (h1 : 1 ≤ k) (h2 : k ≤ G.b) : ((look L (secB G k)).getD (M.cur (secB G k))).length = 64 := by
  obtain ⟨m, hT, -⟩ := h.on
  obtain ⟨S, hS⟩ := hT.dev
  exact val_length h.ok.ok (g := M.cur) (hS.fine.cur (by rw [hN]; exact secB_lt h1 h2))
theorem TxSys.lis (h : TxSys w W rs t i j tb b jb F n rec M L) (hN : M.n = G.all) {k : Nat} (h2 : k ≤ G.b) : (lisL G M.cur L k).length = 32 := by
  unfold lisL
  split
  · rfl
  · rw [numsL_length, h.val hN (by omega) h2]
theorem read_tx (h : TxSys w W rs t i j tb b jb F n rec M L) (hG : G.ok) (hN : M.n = G.all) (k : Nat) (hk : k ≤ G.b) :
    Calls Tryz.prog 27 #[devp tb, gv G, w16 k] W fun e w' => e = .returned (.tuple #[lisV (lisL G M.cur L k), .int .i64 0]) ∧ Below W.heap.size W w' := by
  unfold lisL
  by_cases h0 : k = 0
  · subst h0
    rw [if_pos rfl]
    exact bread_zero _ _ _ _ _
  · rw [if_neg h0]
    refine bread_ok _ G hG k (by omega) hk _ (h.val hN (by omega) hk) W fun V hV => ?_
    have hsec := secB_lt (G := G) (k := k) (by omega) hk
    have hr := sys_txRead (h.below hV) ((secB G k : Nat) : Int)
    have hE : rdE M.n ((secB G k : Nat) : Int) = 0 := by unfold rdE; rw [if_neg (by omega)]
    have hS : rdS M.n M.cur L ((secB G k : Nat) : Int) = (look L (secB G k)).getD (M.cur (secB G k)) := by unfold rdS; rw [if_neg (by omega), Int.toNat_natCast]
    rw [hE, hS] at hr
    exact hr
theorem write_tx (h : TxSys w W rs t i j tb b jb F n rec M L) (hG : G.ok) (k : Nat) (h1 : 1 ≤ k) (h2 : k ≤ G.b) (l : List Nat) (hl : l.length = 32) (hlt : ∀ x ∈ l, x < 65536) :
    Calls Tryz.prog 28 #[devp tb, gv G, w16 k, lisV l] W fun e w' => e = .returned (.int .i64 (wrE M.n (capL n) L (secB G k : Nat) (tellL l))) ∧
      TxSys w w' (rs.set t (txR tb b jb M.n (wrL M.n (capL n) L (secB G k : Nat) (tellL l)))) t i j tb b jb F n rec M (wrL M.n (capL n) L (secB G k : Nat) (tellL l)) :=
  bwrite_any _ G hG k h1 h2 l hl hlt _ _ W fun V hV => sys_txWrite (h.below hV) _ _ (by rw [tellL_length l (by omega)]; omega)
theorem shorten_tx (h : TxSys w W rs t i j tb b jb F n rec M L) (hG : G.ok) (k : Nat) (h1 : 1 ≤ k) (h2 : k ≤ G.b) (l : List Nat) (hl : l.length = 32) (hlt : ∀ x ∈ l, x < 65536) (q : Nat) (hq : q ≤ 32) (p : Int) (hp : p = (q : Int) + 4) (he : keepL l q ≠ l) :
    Calls Tryz.prog 30 #[devp tb, gv G, w16 k, lisV l, .int .i64 p] W fun e w' => e = .returned (.int .i64 (wrE M.n (capL n) L (secB G k : Nat) (tellL (keepL l q)))) ∧
      TxSys w w' (rs.set t (txR tb b jb M.n (wrL M.n (capL n) L (secB G k : Nat) (tellL (keepL l q))))) t i j tb b jb F n rec M (wrL M.n (capL n) L (secB G k : Nat) (tellL (keepL l q))) :=
  shorten_write _ G hG k h1 h2 l hl hlt q hq p hp he _ _ W fun V hV => sys_txWrite (h.below hV) _ _ (by rw [tellL_length _ (by rw [keepL_length hl hq]; omega)]; omega)
end
/-- Each block that is passed, and each that the inode has, is 0 or one of the geometry's. -/
def fitB (G : Gm) (x : Im) (c : Nat) : Prop := c ≤ G.b ∧ x.d0 ≤ G.b ∧ x.d1 ≤ G.b ∧ x.d2 ≤ G.b ∧ x.d3 ≤ G.b ∧ x.i ≤ G.b
instance (G : Gm) (x : Im) (c : Nat) : Decidable (fitB G x c) := by unfold fitB; infer_instance
theorem oddB_ok {G : Gm} (hG : G.ok) (n : Nat) : oddB G.i G.b G.j n = decide (G.b < n) := by
  unfold oddB
  have hm := gm_mayI hG
  rw [Bool.eq_iff_iff, decide_eq_true_iff, decide_eq_true_iff]
  constructor
  · rintro ⟨-, h | h⟩
    · exact absurd hm h
    · omega
  · intro h
    exact ⟨by omega, .inr (by omega)⟩
theorem askB_one {G : Gm} (hG : G.ok) (x : Im) (m : Bool) (c : Nat) : askB G.i G.b G.j x m [c] = (decide (fitB G x c) && m) := by
  unfold askB
  rw [decide_eq_true (gm_mayI hG), Bool.true_and]
  congr 1
  rw [Bool.eq_iff_iff]
  simp only [Bool.not_eq_true', List.any_eq_false, decide_eq_true_iff, oddB_ok hG, Im.bl, fitB, List.singleton_append, List.mem_cons, List.not_mem_nil, or_false, Nat.not_lt, forall_eq_or_imp, forall_eq]
  exact decide_eq_true_iff.symm
theorem askB_none {G : Gm} (hG : G.ok) (x : Im) (m : Bool) : askB G.i G.b G.j x m [] = (decide (fitB G x 0) && m) := by
  unfold askB
  rw [decide_eq_true (gm_mayI hG), Bool.true_and]
  congr 1
  rw [Bool.eq_iff_iff]
  simp only [Bool.not_eq_true', List.any_eq_false, decide_eq_true_iff, oddB_ok hG, Im.bl, fitB, List.nil_append, List.mem_cons, List.not_mem_nil, or_false, Nat.not_lt, forall_eq_or_imp, forall_eq, Nat.zero_le, true_and]
theorem askB_bad {i b j : Int} (h : ¬ mayI i b j) (x : Im) (m : Bool) (pl : List Nat) : askB i b j x m pl = false := by
  unfold askB
  rw [decide_eq_false h]; rfl
/-- A page that may be. -/
def pageP (p : Int) : Prop := 0 ≤ p ∧ p < 36
instance (p : Int) : Decidable (pageP p) := by unfold pageP; infer_instance
end Go.Proofs.YtdddennhdbmolaaGreat
