/- Layer 9 (bmap): the chapter's example, as the statements ask it. -/
import Derived.Test.YtdddennhdbmolaaGreatBmapL3
import Derived.Test.YtdddennhdbmolaaGreatBaseInoEq
import Derived.Deep.CutRange
import Derived.Deep.RegionWith
namespace Go.Proofs.YtdddennhdbmolaaGreat
open Go.RowKit Go.Maps Go.Lib
set_option linter.unusedVariables false
set_option linter.unusedSimpArgs false
set_option maxRecDepth 10000
theorem two_fit (c : Nat) (hc : c ≤ 16) : fitB smallG twoI c := by
  simp [fitB, twoI, smallG]; omega
theorem two_lis (f : Nat → List UInt8) (L : PutL) : lisL smallG f L twoI.i = List.replicate 32 0 := rfl
theorem two_get (f : Nat → List UInt8) (L : PutL) : gtE smallG twoI 1 = 0 ∧ gtV smallG f L twoI 1 = 9 := by
  have h : fitB smallG twoI 0 ∧ pageP 1 := ⟨two_fit 0 (by omega), by unfold pageP; omega⟩
  exact ⟨by unfold gtE; rw [if_pos h], by unfold gtV; rw [if_pos h]; rfl⟩
theorem two_set (N cap : Nat) (f : Nat → List UInt8) (L : PutL) : stE N cap smallG f L twoI 4 3 = 3 ∧ stL N cap smallG f L twoI 4 3 = L ∧ stX twoI 4 3 3 = Im.nought := by
  have h : fitB smallG twoI 3 ∧ pageP 4 := ⟨two_fit 3 (by omega), by unfold pageP; omega⟩
  refine ⟨by unfold stE; rw [if_pos h]; rfl, by unfold stL; rw [if_neg]; rintro ⟨-, -, -, h1⟩; exact h1 rfl, by unfold stX; rw [if_neg (by decide)]⟩
def twoK : Im := ⟨1, 0, 128, 7, 0, 0, 0, 0⟩
theorem two_cut (N cap : Nat) (f : Nat → List UInt8) (L : PutL) : ctE N cap smallG f L twoI 1 = 0 ∧ ctL N cap smallG f L twoI 1 = L ∧ ctX twoI 1 0 = twoK ∧ ctF smallG f L twoI 1 0 = [9] := by
  have h : fitB smallG twoI 0 ∧ cutP 1 := ⟨two_fit 0 (by omega), by unfold cutP; omega⟩
  refine ⟨by unfold ctE; rw [if_pos h]; rfl, by unfold ctL; rw [if_neg]; rintro ⟨-, -, h1, -⟩; omega, rfl, ?_⟩
  unfold ctF
  rw [if_pos rfl, two_lis]
  decide
section
variable {w W : World} {rs : List Res}
/-- An inode stored cell by cell. -/
theorem al_store (h : Sys w W rs) {i p : Nat} {x : Im} (hi : rs[i]? = some (inoR p x)) (y : Im) : Sys w ((((((((W.setCell ⟨p, 0, none⟩ (.int .u8 y.k)).setCell ⟨p, 1, none⟩ (w16 y.n)).setCell ⟨p, 2, none⟩ (.int .u32 y.z)).setCell ⟨p, 3, none⟩ (w16 y.d0)).setCell ⟨p, 4, none⟩ (w16 y.d1)).setCell ⟨p, 5, none⟩ (w16 y.d2)).setCell ⟨p, 6, none⟩ (w16 y.d3)).setCell ⟨p, 7, none⟩ (w16 y.i)) (rs.set i (inoR p y)) :=
  h.turn1 hi (only_set p _ _ (only_set p _ _ (only_set p _ _ (only_set p _ _ (only_set p _ _ (only_set p _ _ (only_set p _ _ (only_set p _ _ (Only.refl _ _) 0 (.int .u8 y.k)) 1 (w16 y.n)) 2 (.int .u32 y.z)) 3 (w16 y.d0)) 4 (w16 y.d1)) 5 (w16 y.d2)) 6 (w16 y.d3)) 7 (w16 y.i)) (hQ := fun W W' h hb => ino_kept h (hb _ rfl)) (set_ino8 (h.mem hi) y)
theorem u16s_apart {p : Nat} {v : Value} (hx : InoAt W p Im.nought) (hu : U16s W v [9]) (V : World) (ho : Only (fun k => k = p) W V) : U16s V v [9] := by
  obtain ⟨A, c, rfl, hc⟩ := hu
  refine ⟨A, c, rfl, fun j n hj => ?_⟩
  obtain ⟨a, ha, hcell⟩ := hc j n hj
  refine ⟨a, ha, ?_⟩
  have hn : n = 9 := by
    match j, hj with
    | 0, hj => cases hj; rfl
  subst hn
  have hlt := World.block_lt_of_cell? W _ hcell
  have hne : (a.add j).block ≠ p := fun e => by
    unfold World.cell? at hcell
    rw [e, hx] at hcell
    simp only at hcell
    split at hcell
    · cases hcell
    · generalize (a.add j).off = q at hcell
      match q, hcell with
      | 0, hcell => cases hcell
      | 1, hcell => cases hcell
      | 2, hcell => cases hcell
      | 3, hcell => cases hcell
      | 4, hcell => cases hcell
      | 5, hcell => cases hcell
      | 6, hcell => cases hcell
      | 7, hcell => cases hcell
      | q + 8, hcell => simp at hcell
  exact (World.cell?_of_block (ho.block _ hlt hne)).trans hcell
end
set_option maxHeartbeats 2000000 in
set_option maxRecDepth 50000 in
theorem alive9_any (w : World) : Calls Tryz.prog 9 #[] w fun e w' => e = .returned (.bool true) ∧ Below w.heap.size w w' := by
  have HS := Lib.hid fun V => small_any V
  have H2 := Lib.hid fun V => two9_any V
  have e63 : (dev0 63).n = 63 := rfl
  go_enter Tryz.func9, Tryz.ntmps9
  go_wp2_with fail
  refine (HS.out _).mono ?_
  rintro e w1 ⟨rfl, hb⟩
  have h1 := ((Sys.start w).below hb).geo 8 16 40
  have g1 := geo_cells (show GeoAt (w1.alloc (.cells #[.int .i64 8, .int .i64 16, .int .i64 40] 23)) w1.heap.size 8 16 40 from geo_new w1 8 16 40)
  have H1 := Lib.hid (sys_made9 h1 smallG smallG_ok)
  obtain ⟨g, hg⟩ : ∃ g, g = w1.heap.size := ⟨_, rfl⟩
  clear hb h1
  go_wp2_with fail
  refine H1.out.mono ?_
  rintro e w3 ⟨b, jb, tb, rfl, h3⟩
  rw [← hg] at h3 ⊢
  clear hg g1 H1 w1
  have h3 : Sys w w3 [geoR g 8 16 40, devR b (dev0 63), jourR jb b 1 40 0, txR tb b jb 63 []] := h3
  have h3' : TxSys w w3 [geoR g 8 16 40, devR b (dev0 63), jourR jb b 1 40 0, txR tb b jb 63 []] 3 1 2 tb b jb 1 40 0 (dev0 63) [] := ⟨h3, rfl, rfl, rfl, by decide, by decide, by decide, rfl, Nat.zero_le _, by decide, by decide, WrOk.nil _ _⟩
  have kg : ∀ V qs, TxSys w V (geoR g 8 16 40 :: devR b (dev0 63) :: jourR jb b 1 40 0 :: txR tb b jb 63 [] :: qs) 3 1 2 tb b jb 1 40 0 (dev0 63) [] → Calls Tryz.prog 16 #[devp tb, smallV, twoI.v, .int .i64 1] V fun e w' => e = .returned (.tuple #[.int .u16 9, .int .i64 0]) ∧ TxSys w w' (geoR g 8 16 40 :: devR b (dev0 63) :: jourR jb b 1 40 0 :: txR tb b jb 63 [] :: qs) 3 1 2 tb b jb 1 40 0 (dev0 63) [] := fun V qs h => by
    have := bget_tx h smallG_ok rfl twoI two_fits 1
    rw [(two_get (dev0 63).cur []).1, (two_get (dev0 63).cur []).2] at this
    exact this.mono fun e w' hx => ⟨hx.1, h.below hx.2⟩
  have k2 : ∀ V qs, TxSys w V (geoR g 8 16 40 :: devR b (dev0 63) :: jourR jb b 1 40 0 :: txR tb b jb 63 [] :: qs) 3 1 2 tb b jb 1 40 0 (dev0 63) [] → Calls Tryz.prog 23 #[] V fun e w' => e = .returned twoI.v ∧ TxSys w w' (geoR g 8 16 40 :: devR b (dev0 63) :: jourR jb b 1 40 0 :: txR tb b jb 63 [] :: qs) 3 1 2 tb b jb 1 40 0 (dev0 63) [] := fun V qs h => (two9_any V).mono fun e w' hx => ⟨hx.1, h.below hx.2⟩
  have ks : ∀ V qs, TxSys w V (geoR g 8 16 40 :: devR b (dev0 63) :: jourR jb b 1 40 0 :: txR tb b jb 63 [] :: qs) 3 1 2 tb b jb 1 40 0 (dev0 63) [] → Calls Tryz.prog 10 #[devp tb, smallV, twoI.v, .int .i64 4, .int .u16 3] V fun e w' => e = .returned (.tuple #[Im.nought.v, .int .i64 3]) ∧ TxSys w w' (geoR g 8 16 40 :: devR b (dev0 63) :: jourR jb b 1 40 0 :: txR tb b jb 63 [] :: qs) 3 1 2 tb b jb 1 40 0 (dev0 63) [] := fun V qs h => by
    have := bset_tx h smallG_ok rfl twoI two_fits 4 3 (by decide)
    obtain ⟨q1, q2, q3⟩ := two_set (dev0 63).n (capL 40) (dev0 63).cur []
    rw [q1, q2, q3] at this
    exact this
  have kc : ∀ V qs, TxSys w V (geoR g 8 16 40 :: devR b (dev0 63) :: jourR jb b 1 40 0 :: txR tb b jb 63 [] :: qs) 3 1 2 tb b jb 1 40 0 (dev0 63) [] → Calls Tryz.prog 13 #[devp tb, smallV, twoI.v, .int .i64 1] V fun e w' => ∃ v, e = .returned (.tuple #[twoK.v, v, .int .i64 0]) ∧ U16s w' v [9] ∧ TxSys w w' (geoR g 8 16 40 :: devR b (dev0 63) :: jourR jb b 1 40 0 :: txR tb b jb 63 [] :: qs) 3 1 2 tb b jb 1 40 0 (dev0 63) [] := fun V qs h => by
    have := bcut_txk h smallG_ok rfl twoI two_fits 1
    obtain ⟨q1, q2, q3, q4⟩ := two_cut (dev0 63).n (capL 40) (dev0 63).cur []
    rw [q1, q2, q3, q4] at this
    refine this.mono fun e w' hx => ?_
    obtain ⟨v, h1, h2, -, -, h3⟩ := hx
    exact ⟨v, h1, h2, h3⟩
  have kn : ∀ V qs, TxSys w V (geoR g 8 16 40 :: devR b (dev0 63) :: jourR jb b 1 40 0 :: txR tb b jb 63 [] :: qs) 3 1 2 tb b jb 1 40 0 (dev0 63) [] → Calls Tryz.prog 16 #[.pointer none, smallV, twoI.v, .int .i64 1] V fun e w' => e = .returned (.tuple #[.int .u16 0, .int .i64 1]) ∧ TxSys w w' (geoR g 8 16 40 :: devR b (dev0 63) :: jourR jb b 1 40 0 :: txR tb b jb 63 [] :: qs) 3 1 2 tb b jb 1 40 0 (dev0 63) [] := fun V qs h => (get_no none 8 16 40 twoI 1 1 (by decide) V fun V' => bref_nil _ _ _ _ _ _ _).mono fun e w' hx => ⟨hx.1, h.below hx.2⟩
  have ka : ∀ V, TxSys w V (geoR g 8 16 40 :: devR b (dev0 63) :: jourR jb b 1 40 0 :: txR tb b jb 63 [] :: []) 3 1 2 tb b jb 1 40 0 (dev0 63) [] → TxSys w (V.alloc (.cells #[.int .u8 0, .int .u16 0, .int .u32 0, .int .u16 0, .int .u16 0, .int .u16 0, .int .u16 0, .int .u16 0] 28)) (geoR g 8 16 40 :: devR b (dev0 63) :: jourR jb b 1 40 0 :: txR tb b jb 63 [] :: [inoR V.heap.size Im.nought]) 3 1 2 tb b jb 1 40 0 (dev0 63) [] := fun V h => { h with sys := h.sys.ino Im.nought, ht := rfl, hi := rfl, hj := rfl }
  have kk : ∀ V qs, TxSys w V (geoR g 8 16 40 :: devR b (dev0 63) :: jourR jb b 1 40 0 :: txR tb b jb 63 [] :: qs) 3 1 2 tb b jb 1 40 0 (dev0 63) [] → V.cell? ⟨g, 0, none⟩ = some (.int .i64 8) ∧ V.cell? ⟨g, 1, none⟩ = some (.int .i64 16) ∧ V.cell? ⟨g, 2, none⟩ = some (.int .i64 40) := fun V qs h => geo_cells (h.sys.mem (i := 0) rfl)
  have kd : ∀ V qs, TxSys w V (geoR g 8 16 40 :: devR b (dev0 63) :: jourR jb b 1 40 0 :: txR tb b jb 63 [] :: qs) 3 1 2 tb b jb 1 40 0 (dev0 63) [] → V.drew.cell? ⟨g, 0, none⟩ = some (.int .i64 8) ∧ V.drew.cell? ⟨g, 1, none⟩ = some (.int .i64 16) ∧ V.drew.cell? ⟨g, 2, none⟩ = some (.int .i64 40) := fun V qs h => kk _ _ (h.below ((Below.refl _ _).drew))
  have kl : ∀ V qs o, TxSys w V (geoR g 8 16 40 :: devR b (dev0 63) :: jourR jb b 1 40 0 :: txR tb b jb 63 [] :: qs) 3 1 2 tb b jb 1 40 0 (dev0 63) [] → (V.alloc o).cell? ⟨g, 0, none⟩ = some (.int .i64 8) ∧ (V.alloc o).cell? ⟨g, 1, none⟩ = some (.int .i64 16) ∧ (V.alloc o).cell? ⟨g, 2, none⟩ = some (.int .i64 40) := fun V qs o h => kk _ _ (h.below ((Below.refl _ _).alloc (Nat.le_refl _) o))
  have km : ∀ V qs o, TxSys w V (geoR g 8 16 40 :: devR b (dev0 63) :: jourR jb b 1 40 0 :: txR tb b jb 63 [] :: qs) 3 1 2 tb b jb 1 40 0 (dev0 63) [] → (V.alloc o).drew.cell? ⟨g, 0, none⟩ = some (.int .i64 8) ∧ (V.alloc o).drew.cell? ⟨g, 1, none⟩ = some (.int .i64 16) ∧ (V.alloc o).drew.cell? ⟨g, 2, none⟩ = some (.int .i64 40) := fun V qs o h => kk _ _ (h.below (((Below.refl _ _).alloc (Nat.le_refl _) o).drew))
  have kt : ∀ V (p : Nat) (x y : Im), TxSys w V (geoR g 8 16 40 :: devR b (dev0 63) :: jourR jb b 1 40 0 :: txR tb b jb 63 [] :: [inoR p x]) 3 1 2 tb b jb 1 40 0 (dev0 63) [] → ((((((((V.setCell ⟨p, 0, none⟩ (.int .u8 y.k)).setCell ⟨p, 1, none⟩ (w16 y.n)).setCell ⟨p, 2, none⟩ (.int .u32 y.z)).setCell ⟨p, 3, none⟩ (w16 y.d0)).setCell ⟨p, 4, none⟩ (w16 y.d1)).setCell ⟨p, 5, none⟩ (w16 y.d2)).setCell ⟨p, 6, none⟩ (w16 y.d3)).setCell ⟨p, 7, none⟩ (w16 y.i)).cell? ⟨g, 0, none⟩ = some (.int .i64 8) ∧ ((((((((V.setCell ⟨p, 0, none⟩ (.int .u8 y.k)).setCell ⟨p, 1, none⟩ (w16 y.n)).setCell ⟨p, 2, none⟩ (.int .u32 y.z)).setCell ⟨p, 3, none⟩ (w16 y.d0)).setCell ⟨p, 4, none⟩ (w16 y.d1)).setCell ⟨p, 5, none⟩ (w16 y.d2)).setCell ⟨p, 6, none⟩ (w16 y.d3)).setCell ⟨p, 7, none⟩ (w16 y.i)).cell? ⟨g, 1, none⟩ = some (.int .i64 16) ∧ ((((((((V.setCell ⟨p, 0, none⟩ (.int .u8 y.k)).setCell ⟨p, 1, none⟩ (w16 y.n)).setCell ⟨p, 2, none⟩ (.int .u32 y.z)).setCell ⟨p, 3, none⟩ (w16 y.d0)).setCell ⟨p, 4, none⟩ (w16 y.d1)).setCell ⟨p, 5, none⟩ (w16 y.d2)).setCell ⟨p, 6, none⟩ (w16 y.d3)).setCell ⟨p, 7, none⟩ (w16 y.i)).cell? ⟨g, 2, none⟩ = some (.int .i64 40) := fun V p x y h => geo_cells ((al_store h.sys (i := 4) rfl y).mem (i := 0) rfl)
  have ky : ∀ V (p : Nat) (x : Im), TxSys w V (geoR g 8 16 40 :: devR b (dev0 63) :: jourR jb b 1 40 0 :: txR tb b jb 63 [] :: [inoR p x]) 3 1 2 tb b jb 1 40 0 (dev0 63) [] → InoAt V p x := fun V p x h => h.sys.mem (i := 4) rfl
  have kf : ∀ V (p : Nat) (x y : Im), TxSys w V (geoR g 8 16 40 :: devR b (dev0 63) :: jourR jb b 1 40 0 :: txR tb b jb 63 [] :: [inoR p x]) 3 1 2 tb b jb 1 40 0 (dev0 63) [] → TxSys w ((((((((V.setCell ⟨p, 0, none⟩ (.int .u8 y.k)).setCell ⟨p, 1, none⟩ (w16 y.n)).setCell ⟨p, 2, none⟩ (.int .u32 y.z)).setCell ⟨p, 3, none⟩ (w16 y.d0)).setCell ⟨p, 4, none⟩ (w16 y.d1)).setCell ⟨p, 5, none⟩ (w16 y.d2)).setCell ⟨p, 6, none⟩ (w16 y.d3)).setCell ⟨p, 7, none⟩ (w16 y.i)) (geoR g 8 16 40 :: devR b (dev0 63) :: jourR jb b 1 40 0 :: txR tb b jb 63 [] :: []) 3 1 2 tb b jb 1 40 0 (dev0 63) [] := fun V p x y h => { h with sys := (al_store h.sys (i := 4) rfl y).take 4, ht := rfl, hi := rfl, hj := rfl }
  have KK := Lib.hid kk
  have KD := Lib.hid kd
  have KL := Lib.hid kl
  have KM := Lib.hid km
  have KT := Lib.hid kt
  have KY := Lib.hid ky
  have KF := Lib.hid kf
  clear kk kd kl km kt
  have ki1 : ∀ V (p : Nat), TxSys w V (geoR g 8 16 40 :: devR b (dev0 63) :: jourR jb b 1 40 0 :: txR tb b jb 63 [] :: [inoR p Im.nought]) 3 1 2 tb b jb 1 40 0 (dev0 63) [] → InoAt ((((((((V.setCell ⟨p, 0, none⟩ (.int .u8 twoK.k)).setCell ⟨p, 1, none⟩ (w16 twoK.n)).setCell ⟨p, 2, none⟩ (.int .u32 twoK.z)).setCell ⟨p, 3, none⟩ (w16 twoK.d0)).setCell ⟨p, 4, none⟩ (w16 twoK.d1)).setCell ⟨p, 5, none⟩ (w16 twoK.d2)).setCell ⟨p, 6, none⟩ (w16 twoK.d3)).setCell ⟨p, 7, none⟩ (w16 twoK.i)) p twoK := fun V p h => set_ino8 (ky _ _ _ h) twoK
  have ku1 : ∀ V v (p : Nat), TxSys w V (geoR g 8 16 40 :: devR b (dev0 63) :: jourR jb b 1 40 0 :: txR tb b jb 63 [] :: [inoR p Im.nought]) 3 1 2 tb b jb 1 40 0 (dev0 63) [] → U16s V v [9] → U16s ((((((((V.setCell ⟨p, 0, none⟩ (.int .u8 twoK.k)).setCell ⟨p, 1, none⟩ (w16 twoK.n)).setCell ⟨p, 2, none⟩ (.int .u32 twoK.z)).setCell ⟨p, 3, none⟩ (w16 twoK.d0)).setCell ⟨p, 4, none⟩ (w16 twoK.d1)).setCell ⟨p, 5, none⟩ (w16 twoK.d2)).setCell ⟨p, 6, none⟩ (w16 twoK.d3)).setCell ⟨p, 7, none⟩ (w16 twoK.i)) v [9] := fun V v p h hu => u16s_apart (ky _ _ _ h) hu _ (only_set p _ _ (only_set p _ _ (only_set p _ _ (only_set p _ _ (only_set p _ _ (only_set p _ _ (only_set p _ _ (only_set p _ _ (Only.refl _ _) 0 (.int .u8 twoK.k)) 1 (w16 twoK.n)) 2 (.int .u32 twoK.z)) 3 (w16 twoK.d0)) 4 (w16 twoK.d1)) 5 (w16 twoK.d2)) 6 (w16 twoK.d3)) 7 (w16 twoK.i))
  have ki2 : ∀ V : World, InoAt (V.alloc (.cells #[.int .u8 twoK.k, w16 twoK.n, .int .u32 twoK.z, w16 twoK.d0, w16 twoK.d1, w16 twoK.d2, w16 twoK.d3, w16 twoK.i] 28)) V.heap.size twoK := fun V => ino_new V twoK
  have ku2 : ∀ (V : World) v o, U16s V v [9] → U16s (V.alloc o) v [9] := fun V v o hu => hu.below9 ((Below.refl _ _).alloc (Nat.le_refl _) _)
  have KI1 := Lib.hid ki1
  have KU1 := Lib.hid ku1
  have KI2 := Lib.hid ki2
  have KU2 := Lib.hid ku2
  clear ki1 ku1 ki2 ku2 ky kf
  have KLA := Lib.hid (fun V qs o (h : TxSys w V (geoR g 8 16 40 :: devR b (dev0 63) :: jourR jb b 1 40 0 :: txR tb b jb 63 [] :: qs) 3 1 2 tb b jb 1 40 0 (dev0 63) []) => (show TxSys w (V.alloc o) (geoR g 8 16 40 :: devR b (dev0 63) :: jourR jb b 1 40 0 :: txR tb b jb 63 [] :: qs) 3 1 2 tb b jb 1 40 0 (dev0 63) [] from h.below ((Below.refl _ _).alloc (Nat.le_refl _) _)))
  have KAD := Lib.hid (fun V (h : TxSys w V (geoR g 8 16 40 :: devR b (dev0 63) :: jourR jb b 1 40 0 :: txR tb b jb 63 [] :: []) 3 1 2 tb b jb 1 40 0 (dev0 63) []) => (show TxSys w (V.alloc (.cells #[.int .u8 0, .int .u16 0, .int .u32 0, .int .u16 0, .int .u16 0, .int .u16 0, .int .u16 0, .int .u16 0] 28)).drew (geoR g 8 16 40 :: devR b (dev0 63) :: jourR jb b 1 40 0 :: txR tb b jb 63 [] :: [inoR V.heap.size Im.nought]) 3 1 2 tb b jb 1 40 0 (dev0 63) [] from (ka V h).below ((Below.refl _ _).drew)))
  have KB := Lib.hid (fun V qs (h : TxSys w V (geoR g 8 16 40 :: devR b (dev0 63) :: jourR jb b 1 40 0 :: txR tb b jb 63 [] :: qs) 3 1 2 tb b jb 1 40 0 (dev0 63) []) => (show TxSys w V.drew (geoR g 8 16 40 :: devR b (dev0 63) :: jourR jb b 1 40 0 :: txR tb b jb 63 [] :: qs) 3 1 2 tb b jb 1 40 0 (dev0 63) [] from h.below ((Below.refl _ _).drew)))
  have KA := Lib.hid ka
  have KG := Lib.hid kg
  have K2 := Lib.hid k2
  have KS := Lib.hid ks
  have KC := Lib.hid kc
  have KN := Lib.hid kn
  clear kg ks kc kn k2 ka
  have HC := Lib.hid (h3'.below ((Below.refl _ w3).drew))
  clear h3 h3'
  obtain ⟨g0, g1, g2⟩ := geo_cells (HC.out.sys.mem (i := 0) rfl)
  go_wp2_with fail
  go_region_held3 (fun W' => W'.cell? ⟨g, 0, none⟩ = some (.int .i64 8) ∧ W'.cell? ⟨g, 1, none⟩ = some (.int .i64 16) ∧ W'.cell? ⟨g, 2, none⟩ = some (.int .i64 40))
    (first | with_reducible exact ⟨g0, g1, g2⟩ | with_reducible exact KK.out _ _ HC.out | with_reducible exact KD.out _ _ HC.out | with_reducible exact KL.out _ _ _ HC.out | with_reducible exact KM.out _ _ _ HC.out | with_reducible exact KT.out _ _ _ _ HC.out)
    (first | (go_at_call 23; ((with_reducible refine (K2.out _ _ (by first | with_reducible exact HC.out | with_reducible exact KA.out _ HC.out | with_reducible exact KB.out _ _ HC.out | with_reducible exact KAD.out _ HC.out)).mono ?_); rintro e w4 ⟨rfl, hb⟩; have HC := Lib.hid hb; obtain ⟨g0, g1, g2⟩ := KK.out _ _ HC.out; (try (obtain ⟨y0, y1, y2, y3, y4, y5, y6, y7⟩ := ino_cells (KY.out _ _ _ HC.out); have fy := ino_frozen (KY.out _ _ _ HC.out))); clear hb))
           | (go_at_call 16; ((with_reducible refine (KG.out _ _ (by first | with_reducible exact HC.out | with_reducible exact KA.out _ HC.out | with_reducible exact KB.out _ _ HC.out | with_reducible exact KAD.out _ HC.out)).mono ?_); rintro e w4 ⟨rfl, hb⟩; have HC := Lib.hid hb; obtain ⟨g0, g1, g2⟩ := KK.out _ _ HC.out; (try (obtain ⟨y0, y1, y2, y3, y4, y5, y6, y7⟩ := ino_cells (KY.out _ _ _ HC.out); have fy := ino_frozen (KY.out _ _ _ HC.out))); clear hb)))
  go_upto_region 6 with fail
  go_cut [6, 7] from 28 to 34 (fun s6 s7 wx => s7 = .int .i64 3 ∧ TxSys w wx (geoR g 8 16 40 :: devR b (dev0 63) :: jourR jb b 1 40 0 :: txR tb b jb 63 [] :: []) 3 1 2 tb b jb 1 40 0 (dev0 63) [])
  case first =>
    go_region_held3 (fun W' => W'.cell? ⟨g, 0, none⟩ = some (.int .i64 8) ∧ W'.cell? ⟨g, 1, none⟩ = some (.int .i64 16) ∧ W'.cell? ⟨g, 2, none⟩ = some (.int .i64 40))
      (first | with_reducible exact ⟨g0, g1, g2⟩ | with_reducible exact KK.out _ _ HC.out | with_reducible exact KD.out _ _ HC.out | with_reducible exact KL.out _ _ _ HC.out | with_reducible exact KM.out _ _ _ HC.out | with_reducible exact KT.out _ _ _ _ HC.out)
      (first | (go_at_call 23; ((with_reducible refine (K2.out _ _ (by first | with_reducible exact HC.out | with_reducible exact KA.out _ HC.out | with_reducible exact KB.out _ _ HC.out | with_reducible exact KAD.out _ HC.out)).mono ?_); rintro e w4 ⟨rfl, hb⟩; have HC := Lib.hid hb; obtain ⟨g0, g1, g2⟩ := KK.out _ _ HC.out; (try (obtain ⟨y0, y1, y2, y3, y4, y5, y6, y7⟩ := ino_cells (KY.out _ _ _ HC.out); have fy := ino_frozen (KY.out _ _ _ HC.out))); clear hb))
             | (go_at_call 10; ((with_reducible refine (KS.out _ _ (by first | with_reducible exact HC.out | with_reducible exact KA.out _ HC.out | with_reducible exact KB.out _ _ HC.out | with_reducible exact KAD.out _ HC.out)).mono ?_); rintro e w4 ⟨rfl, hb⟩; have HC := Lib.hid hb; obtain ⟨g0, g1, g2⟩ := KK.out _ _ HC.out; (try (obtain ⟨y0, y1, y2, y3, y4, y5, y6, y7⟩ := ino_cells (KY.out _ _ _ HC.out); have fy := ino_frozen (KY.out _ _ _ HC.out))); clear hb)))
    all_goals (go_wp2_with fail; go_meet)
    all_goals refine ⟨rfl, ?_⟩
    all_goals first | with_reducible exact KF.out _ _ _ _ HC.out | with_reducible exact KLA.out _ _ _ HC.out | with_reducible exact HC.out | trace_state
  case rest =>
    obtain ⟨rfl, hc⟩ := hcut
    have HC := Lib.hid hc
    clear hc
    obtain ⟨g0, g1, g2⟩ := KK.out _ _ HC.out
    go_upto_region 7 with fail
    go_cut [8, 9, 10] from 35 to 42 (fun s8 s9 s10 wx => ∃ p v, s8 = .pointer (some ⟨p, 0, none⟩) ∧ s9 = v ∧ s10 = .int .i64 0 ∧ InoAt wx p twoK ∧ U16s wx v [9] ∧ TxSys w wx (geoR g 8 16 40 :: devR b (dev0 63) :: jourR jb b 1 40 0 :: txR tb b jb 63 [] :: []) 3 1 2 tb b jb 1 40 0 (dev0 63) [])
    case first =>
      go_region_held3 (fun W' => W'.cell? ⟨g, 0, none⟩ = some (.int .i64 8) ∧ W'.cell? ⟨g, 1, none⟩ = some (.int .i64 16) ∧ W'.cell? ⟨g, 2, none⟩ = some (.int .i64 40))
      (first | with_reducible exact ⟨g0, g1, g2⟩ | with_reducible exact KK.out _ _ HC.out | with_reducible exact KD.out _ _ HC.out | with_reducible exact KL.out _ _ _ HC.out | with_reducible exact KM.out _ _ _ HC.out | with_reducible exact KT.out _ _ _ _ HC.out)
      (first | (go_at_call 23; ((with_reducible refine (K2.out _ _ (by first | with_reducible exact HC.out | with_reducible exact KA.out _ HC.out | with_reducible exact KB.out _ _ HC.out | with_reducible exact KAD.out _ HC.out)).mono ?_); rintro e w4 ⟨rfl, hb⟩; have HC := Lib.hid hb; obtain ⟨g0, g1, g2⟩ := KK.out _ _ HC.out; (try (obtain ⟨y0, y1, y2, y3, y4, y5, y6, y7⟩ := ino_cells (KY.out _ _ _ HC.out); have fy := ino_frozen (KY.out _ _ _ HC.out))); clear hb))
             | (go_at_call 13; ((with_reducible refine (KC.out _ _ (by first | with_reducible exact HC.out | with_reducible exact KA.out _ HC.out | with_reducible exact KB.out _ _ HC.out | with_reducible exact KAD.out _ HC.out)).mono ?_); rintro e w4 ⟨v, rfl, hu, hb⟩; have HC := Lib.hid hb; obtain ⟨g0, g1, g2⟩ := KK.out _ _ HC.out; (try (obtain ⟨y0, y1, y2, y3, y4, y5, y6, y7⟩ := ino_cells (KY.out _ _ _ HC.out); have fy := ino_frozen (KY.out _ _ _ HC.out))); clear hb)))
      all_goals (go_wp2_with fail; go_meet)
      all_goals refine ⟨_, _, rfl, rfl, rfl, ?_, ?_, ?_⟩
      all_goals first | with_reducible exact KF.out _ _ _ _ HC.out | with_reducible exact KLA.out _ _ _ HC.out | with_reducible exact KI1.out _ _ HC.out | with_reducible exact KI2.out _ | with_reducible exact KU1.out _ _ _ HC.out hu | with_reducible exact KU2.out _ _ _ hu
    case rest =>
      obtain ⟨p, v, rfl, rfl, rfl, hi, hu, hc⟩ := hcut
      have HC := Lib.hid hc
      have HI := Lib.hid hi
      have HU := Lib.hid hu
      have HN9 := Lib.hid (fun V => get_no none 8 16 40 twoI 1 1 (by decide) V fun V' => bref_nil _ _ _ _ _ _ _)
      have C := Lib.hid (Below.refl wc.heap.size wc).drew
      have HD := Lib.hid (HC.out.below C.out)
      clear hc hi hu
      obtain ⟨g0, g1, g2⟩ := KK.out _ _ HD.out
      go_wp2_with fail
      go_region_held3 (fun W' => W'.cell? ⟨g, 0, none⟩ = some (.int .i64 8) ∧ W'.cell? ⟨g, 1, none⟩ = some (.int .i64 16) ∧ W'.cell? ⟨g, 2, none⟩ = some (.int .i64 40))
        (first | with_reducible exact ⟨g0, g1, g2⟩ | with_reducible exact KD.out _ _ HD.out)
        (first | (go_at_call 23; ((with_reducible refine (H2.out _).mono ?_); rintro e w4 ⟨rfl, hb⟩; have C := Lib.hid (C.out.trans (hb.mono C.out.size)); have HD := Lib.hid (HC.out.below C.out); obtain ⟨g0, g1, g2⟩ := KK.out _ _ HD.out; clear hb))
               | (go_at_call 16; ((with_reducible refine (HN9.out _).mono ?_); rintro e w4 ⟨rfl, hb⟩; have C := Lib.hid (C.out.trans (hb.mono C.out.size)); have HD := Lib.hid (HC.out.below C.out); obtain ⟨g0, g1, g2⟩ := KK.out _ _ HD.out; clear hb)))
      have HD := Lib.hid (HD.out.sys.all)
      obtain ⟨y0, y1, y2, y3, y4, y5, y6, y7⟩ := ino_cells (HI.out.below C.out HI.out.lt)
      have HU := Lib.hid (HU.out.below9 C.out)
      have heq : ∀ V, (Op.equalIn 10000 26 (.agg #[w16 twoK.d0, w16 twoK.d1, w16 twoK.d2, w16 twoK.d3]) (.agg #[.int .u16 7, .int .u16 0, .int .u16 0, .int .u16 0])).run Tryz.prog V = .ok true V := fun V => eq_four (twoK.d0 : Int) twoK.d1 twoK.d2 twoK.d3 7 0 0 0 9998 V
      have HS9 := Lib.hid (fun V v1 v2 h1 h2 => sameNums_any [9] v1 v2 V h1 h2 (by decide))
      go_wp2_with fail
      clear heq
      refine (HS9.out _ _ _ (HU.out.below9 ((Below.refl _ _).alloc (Nat.le_refl _) _)) (u16s_box (c := 9) (heap_alloc_new _ _))).mono ?_
      rintro e w6 ⟨rfl, hb⟩
      have HE := Lib.hid ((HD.out.alloc HD.out.size (.cells #[.int .u16 9] 24)).trans (hb.mono (by have := HD.out.size; simp; omega)))
      clear hb
      go_wp2_with fail
      go_ret
      exact ⟨rfl, HE.out⟩
end Go.Proofs.YtdddennhdbmolaaGreat
