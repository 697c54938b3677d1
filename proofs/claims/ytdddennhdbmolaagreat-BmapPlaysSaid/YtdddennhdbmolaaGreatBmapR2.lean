/- Layer 9 (bmap), the document's answers: what an indirect block tells, in a row of the call's own; and how it is told. -/
import Derived.Test.YtdddennhdbmolaaGreatBmapR1
namespace Go.Proofs.YtdddennhdbmolaaGreat
open Go.RowKit Go.Maps Go.Lib
set_option linter.unusedVariables false
set_option linter.unusedSimpArgs false
set_option maxRecDepth 10000
/-- A row of numbers of one's own. -/
def OwnN (W : World) (base : Nat) (v : Value) (l : List Nat) : Prop := W.ownsRow base 24 1 v l.length (numV l)
theorem OwnN.u16s {W : World} {base : Nat} {v : Value} {l : List Nat} (h : OwnN W base v l) : U16s W v l := u16s_own h
theorem OwnN.below {W W' : World} {base : Nat} {v : Value} {l : List Nat} (h : OwnN W base v l) (hb : Below W.heap.size W W') : OwnN W' base v l := own_below h hb
set_option maxHeartbeats 1000000 in
theorem refTold_own (s : List UInt8) (w : World) (h : s.length = 64) :
    Calls Tryz.prog 91 #[str s] w fun e w' => ∃ v, e = .returned (.tuple #[v, .int .i64 0]) ∧ OwnN w' w.heap.size v (numsL s) ∧ Below w.heap.size w w' := by
  have hnl : numsL s = (List.range 32).map (num2 s) := by unfold numsL; rw [h]
  have HNL := Lib.hid hnl
  clear hnl
  go_enter Tryz.func91, Tryz.ntmps91
  go_wp2_with fail
  go_loopw [4, 5] (fun v i wr => ∃ k : Nat, k ≤ 32 ∧ i = .int .i64 k ∧ wr.ownsRow w.heap.size 24 1 v k (numV ((List.range k).map (num2 s))) ∧ Below w.heap.size w wr) (fun _ i _ => 32 - (Go.RowKit.intOf i).toNat)
  case atStart => exact ⟨0, Nat.zero_le _, rfl, World.ownsRow_nil _ _ _ _, Below.refl _ _⟩
  case round =>
    obtain ⟨k, hk, rfl, hown, hb⟩ := hrel
    by_cases hlt2 : k < 32
    · have HA := Lib.hid fun W => twoAt_any s k (2 * (k : Int)) (by omega) W (by omega) (by omega)
      have hsnoc : numV ((List.range k).map (num2 s)) ++ [w16 (num2 s k)] = numV ((List.range (k + 1)).map (num2 s)) := by
        rw [List.range_succ, List.map_append, numV_append]; rfl
      have Hsnoc := Lib.hid hsnoc
      clear hsnoc
      go_wp2_with fail
      refine (HA.out _).mono ?_
      rintro e w1 ⟨rfl, q, rfl⟩
      have hown1 := own_drewN hown q
      have hbw1 := below_drewN hb q
      go_wp2_with (at_builtin; refine wpList_append_one rfl _ _ _ rfl 24 _ 2 Tryz.underlying37 num16Info rfl _ _ _ rfl hown1 (w16 (num2 s k)) _ _ rfl rfl rfl (by simp only [maxLen]; omega) (by omega) hbw1 ?_; intro v' w2 hown2 hbw2)
      go_roundw
      case rel => exact ⟨k + 1, by omega, by simp, by rw [← Hsnoc.out]; exact hown2, hbw2⟩
      case measure => simp [Go.RowKit.intOf]; omega
    · obtain rfl : k = 32 := by omega
      go_wp2
      go_ret2
      refine ⟨_, rfl, ?_, hb⟩
      unfold OwnN
      rw [HNL.out]
      have hl : ((List.range 32).map (num2 s)).length = 32 := by simp
      rw [hl]
      exact hown
theorem own_weaken {W : World} {b c : Nat} {v : Value} {l : List Nat} (h : OwnN W c v l) (hb : b ≤ c) : OwnN W b v l := by
  refine ⟨h.1, ?_⟩
  rcases h.2 with hn | ⟨g, cap, cur, hv, hg, hrest⟩
  · exact .inl hn
  · exact .inr ⟨g, cap, cur, hv, Nat.le_trans hb hg, hrest⟩
theorem own_numCells {W : World} {g c : Nat} {l : List Nat} (base : Nat) (hb : base ≤ g) (h : W.heap[g]? = some (.cells (numCells l) 24 (0, 0))) (hc : c = l.length) (hm : l.length ≤ maxLen) : OwnN W base (.slice (some ⟨g, 0, none⟩) l.length c) l := by
  subst hc
  exact ⟨by rw [numV_length, Nat.mul_one], .inr ⟨g, l.length, _, rfl, hb, h, Nat.le_refl _, hm, by simp, by rw [Nat.mul_one]; exact List.take_of_length_le (by simp)⟩⟩
set_option maxHeartbeats 1000000 in
theorem refTold9_zero (r : Value) (G : Gm) (x : Im) (hi : x.i = 0) (w : World) :
    Calls Tryz.prog 59 #[r, gv G, x.v] w fun e w' => ∃ v, e = .returned (.tuple #[v, .int .i64 0]) ∧ OwnN w' w.heap.size v (List.replicate 32 0) ∧ Below w.heap.size w w' := by
  have hib : ((x.i : Int) == 0) = true := by rw [hi]; rfl
  have hmk : ∀ V : World, (Instr.makeSlice 37 (.int .i64 32) (.int .i64 32)).run Tryz.prog V = .ok (.slice (some ⟨V.heap.size, 0, none⟩) 32 32) (V.alloc (.cells (numCells (List.replicate 32 0)) 24)) := make_nums 32 (by omega)
  have hl32 : (List.replicate 32 (0 : Nat)).length = 32 := rfl
  generalize List.replicate 32 0 = Z at *
  clear hi
  go_enter Tryz.func59, Tryz.ntmps59
  go_wp2_with fail
  go_ret2
  obtain ⟨-, -, h3⟩ := box_gi w G.i G.b G.j x
  have hnew := heap_alloc_new ((w.alloc (.cells #[.int .i64 G.i, .int .i64 G.b, .int .i64 G.j] 23)).alloc (.cells #[.int .u8 x.k, w16 x.n, .int .u32 x.z, w16 x.d0, w16 x.d1, w16 x.d2, w16 x.d3, w16 x.i] 28)) (.cells (numCells Z) 24)
  have hs : ((w.alloc (.cells #[.int .i64 G.i, .int .i64 G.b, .int .i64 G.j] 23)).alloc (.cells #[.int .u8 x.k, w16 x.n, .int .u32 x.z, w16 x.d0, w16 x.d1, w16 x.d2, w16 x.d3, w16 x.i] 28)).heap.size = w.heap.size + 1 + 1 := by simp
  rw [hs] at hnew
  refine ⟨_, rfl, ?_, h3.alloc (by rw [hs]; omega) _⟩
  have := own_numCells (c := 32) w.heap.size (by omega) hnew (by omega) (by rw [hl32]; unfold maxLen; omega)
  rwa [hl32] at this
set_option maxHeartbeats 1000000 in
theorem refTold9_ok (r : Value) (G : Gm) (hG : G.ok) (x : Im) (h1 : 1 ≤ x.i) (h2 : x.i ≤ G.b) (s : List UInt8) (hs : s.length = 64) (w : World)
    (hR : ∀ V, Below w.heap.size w V → Calls Tryz.prog 90 #[r, .int .i64 ((secB G x.i : Nat) : Int)] V fun e w' => e = .returned (.tuple #[str s, .int .i64 0]) ∧ Below V.heap.size V w') :
    Calls Tryz.prog 59 #[r, gv G, x.v] w fun e w' => ∃ v, e = .returned (.tuple #[v, .int .i64 0]) ∧ OwnN w' w.heap.size v (numsL s) ∧ Below w.heap.size w w' := by
  have hb5 : G.b ≤ 1024 := hG.2.1.2
  have HBl := Lib.hid fun W => refBlock_ok G (x.i - 1) (x.i : Int) (by omega) W hG (by omega)
  have hsec : G.off 5 + (x.i - 1) = secB G x.i := rfl
  rw [hsec] at HBl
  have HT := Lib.hid fun W => refTold_own s W hs
  have HR := Lib.hid hR
  have hib : ((x.i : Int) == 0) = false := by simp; omega
  obtain ⟨hGe, hX, hB⟩ := box_gi w G.i G.b G.j x
  generalize hW : ((w.alloc (.cells #[.int .i64 G.i, .int .i64 G.b, .int .i64 G.j] 23)).alloc (.cells #[.int .u8 x.k, w16 x.n, .int .u32 x.z, w16 x.d0, w16 x.d1, w16 x.d2, w16 x.d3, w16 x.i] 28)) = W0 at *
  obtain ⟨g0, g1, g2, x0, x1, x2, x3, x4, x5, x6, x7⟩ := Boxes.of hGe hX
  have HB := Lib.hid hB
  have HW := Lib.hid hW
  clear hR hsec hs hW hGe hX hB
  generalize secB G x.i = sc at *
  generalize numsL s = l at *
  go_enter Tryz.func59, Tryz.ntmps59
  go_wp2_with fail
  rw [HW.out]
  clear HW
  refine (HBl.out _).mono ?_
  rintro e w1 ⟨rfl, hb⟩
  have HB1 := Lib.hid (HB.out.trans (hb.mono HB.out.size))
  clear hb
  go_wp2_with fail
  refine (HR.out _ HB1.out).mono ?_
  rintro e w2 ⟨rfl, hb⟩
  have HB2 := Lib.hid (HB1.out.trans (hb.mono HB1.out.size))
  clear hb
  go_wp2_with fail
  refine (HT.out _).mono ?_
  rintro e w3 ⟨v, rfl, hu, hb⟩
  have HU := Lib.hid hu
  have HB3 := Lib.hid (HB2.out.trans (hb.mono HB2.out.size))
  have hle := HB2.out.size
  clear hb hu
  go_wp2_with fail
  go_ret2
  exact ⟨v, rfl, own_weaken HU.out hle, HB3.out⟩
set_option maxHeartbeats 1000000 in
theorem refTell9_any (r : Value) (G : Gm) (hG : G.ok) (x : Im) (h1 : 1 ≤ x.i) (h2 : x.i ≤ G.b) (l : List Nat) (hl : l.length ≤ 32) (hlt : ∀ y ∈ l, y < 65536) (v : Value) (e0 : Int) (w : World) (hv : U16s w v l) (Q : World → Prop)
    (hW : ∀ V, Below w.heap.size w V → Calls Tryz.prog 43 #[r, .int .i64 ((secB G x.i : Nat) : Int), str (tellL l)] V fun e w' => e = .returned (.int .i64 e0) ∧ Q w') :
    Calls Tryz.prog 60 #[r, gv G, x.v, v] w fun e w' => e = .returned (.int .i64 e0) ∧ Q w' := by
  have hb5 : G.b ≤ 1024 := hG.2.1.2
  have HBl := Lib.hid fun W => refBlock_ok G (x.i - 1) (x.i : Int) (by omega) W hG (by omega)
  have hsec : G.off 5 + (x.i - 1) = secB G x.i := rfl
  rw [hsec] at HBl
  have HT := Lib.hid fun V (hV : Below w.heap.size w V) => refTell_ok l v V (hv.below hV) hlt hl
  have HWr := Lib.hid hW
  obtain ⟨hGe, hX, hB⟩ := box_gi w G.i G.b G.j x
  generalize hWW : ((w.alloc (.cells #[.int .i64 G.i, .int .i64 G.b, .int .i64 G.j] 23)).alloc (.cells #[.int .u8 x.k, w16 x.n, .int .u32 x.z, w16 x.d0, w16 x.d1, w16 x.d2, w16 x.d3, w16 x.i] 28)) = W0 at *
  obtain ⟨g0, g1, g2, x0, x1, x2, x3, x4, x5, x6, x7⟩ := Boxes.of hGe hX
  have HB := Lib.hid hB
  have HWW := Lib.hid hWW
  obtain ⟨A, c, rfl, -⟩ := hv
  clear hW hsec hWW hGe hX hB hlt
  generalize secB G x.i = sc at *
  generalize tellL l = s at *
  go_enter Tryz.func60, Tryz.ntmps60
  go_wp2_with fail
  rw [HWW.out]
  clear HWW
  refine (HBl.out _).mono ?_
  rintro e w1 ⟨rfl, hb⟩
  have HB1 := Lib.hid (HB.out.trans (hb.mono HB.out.size))
  clear hb
  go_wp2_with fail
  refine (HT.out _ HB1.out).mono ?_
  rintro e w2 ⟨rfl, hb⟩
  have HB2 := Lib.hid (HB1.out.trans (hb.mono HB1.out.size))
  clear hb
  go_wp2_with fail
  refine (HWr.out _ HB2.out).mono ?_
  rintro e w3 ⟨rfl, hq⟩
  have HQ := Lib.hid hq
  clear hq
  go_wp2_with fail
  go_ret
  exact ⟨rfl, HQ.out⟩
end Go.Proofs.YtdddennhdbmolaaGreat
