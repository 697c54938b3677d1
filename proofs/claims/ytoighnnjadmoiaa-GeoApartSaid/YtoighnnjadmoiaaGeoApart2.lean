/- Layer 5: GeoApart, of every input. -/
import Derived.Test.YtoighnnjadmoiaaGeoApart
namespace Go.Proofs.Ytoighnnjadmoiaa
open Go.RowKit
set_option linter.unusedVariables false
set_option linter.unusedSimpArgs false
set_option maxRecDepth 10000
theorem ino_any (G : Gm) (hG : G.ok) (x : Int) (h0 : 0 ≤ x) (h9 : x < 4294967296) : ∃ u v e : Int, (∀ W, Calls Try.prog 9 #[gv G, .int .u32 x] W fun z w' => z = .returned (.tuple #[.int .i64 u, .int .i64 v, .int .i64 e]) ∧ Below W.heap.size W w') ∧
    ((e = 0 ∧ ∃ k : Nat, x = ((k + 1 : Nat) : Int) ∧ k + 1 ≤ G.i ∧ u = ((G.off 4 + k / 2 : Nat) : Int) ∧ v = ((k % 2 * 32 : Nat) : Int)) ∨ (e = 2 ∧ (x < 1 ∨ (G.i : Int) < x))) := by
  by_cases h : x < 1 ∨ (G.i : Int) < x
  · exact ⟨0, 0, 2, fun W => inode_bad _ _ _ _ W (.inr h) h0 h9, .inr ⟨rfl, h⟩⟩
  · exact ⟨_, _, 0, fun W => inode_ok G (x.toNat - 1) x (by omega) W hG (by omega), .inl ⟨rfl, x.toNat - 1, by omega, by omega, rfl, rfl⟩⟩
theorem blk_any (G : Gm) (hG : G.ok) (x : Int) (h0 : 0 ≤ x) (h9 : x < 65536) : ∃ u e : Int, (∀ W, Calls Try.prog 10 #[gv G, .int .u16 x] W fun z w' => z = .returned (.tuple #[.int .i64 u, .int .i64 e]) ∧ Below W.heap.size W w') ∧
    ((e = 0 ∧ ∃ k : Nat, x = ((k + 1 : Nat) : Int) ∧ k + 1 ≤ G.b ∧ u = ((G.off 5 + k : Nat) : Int)) ∨ (e = 2 ∧ (x < 1 ∨ (G.b : Int) < x))) := by
  by_cases h : x < 1 ∨ (G.b : Int) < x
  · exact ⟨0, 2, fun W => block_bad _ _ _ _ W (.inr h) h0 h9, .inr ⟨rfl, h⟩⟩
  · exact ⟨_, 0, fun W => block_ok G (x.toNat - 1) x (by omega) W hG (by omega), .inl ⟨rfl, x.toNat - 1, by omega, by omega, rfl⟩⟩
theorem apart_any (i b j x1 x2 y1 y2 : Int) (w : World) (a1 : 0 ≤ x1) (a2 : x1 < 4294967296) (a3 : 0 ≤ x2) (a4 : x2 < 4294967296) (a5 : 0 ≤ y1) (a6 : y1 < 65536) (a7 : 0 ≤ y2) (a8 : y2 < 65536) :
    Calls Try.prog 4 #[geoV i b j, .int .u32 x1, .int .u32 x2, .int .u16 y1, .int .u16 y2] w fun e w' => e = .returned (.bool true) ∧ Below w.heap.size w w' := by
  by_cases hm : mayI i b j
  · obtain ⟨G, hG, rfl, rfl, rfl⟩ := mayI_gm hm
    have hG' := hG
    unfold Gm.ok at hG'
    obtain ⟨u, v, e, hI1, fI1⟩ := ino_any G hG x1 a1 a2
    obtain ⟨u2, v2, e2, hI2, fI2⟩ := ino_any G hG x2 a3 a4
    obtain ⟨c, h, hB1, fB1⟩ := blk_any G hG y1 a5 a6
    obtain ⟨d, h2, hB2, fB2⟩ := blk_any G hG y2 a7 a8
    have e3 : G.off 5 = G.off 4 + (G.i + 1) / 2 := rfl
    have e4 : G.off 6 = G.off 5 + G.b := rfl
    have hI : (e = 0 ∧ e2 = 0 ∧ (e == 0 && e2 == 0) = true) ∨ (e = 0 ∧ e2 = 2 ∧ (e == 0 && e2 == 0) = false) ∨ (e = 2 ∧ (e == 0 && e2 == 0) = false) := by
      rcases fI1 with ⟨rfl, -⟩ | ⟨rfl, -⟩
      · rcases fI2 with ⟨rfl, -⟩ | ⟨rfl, -⟩
        · exact .inl ⟨rfl, rfl, rfl⟩
        · exact .inr (.inl ⟨rfl, rfl, rfl⟩)
      · exact .inr (.inr ⟨rfl, rfl⟩)
    have hB : (h = 0 ∧ h2 = 0 ∧ (h == 0 && h2 == 0) = true) ∨ (h = 0 ∧ h2 = 2 ∧ (h == 0 && h2 == 0) = false) ∨ (h = 2 ∧ (h == 0 && h2 == 0) = false) := by
      rcases fB1 with ⟨rfl, -⟩ | ⟨rfl, -⟩
      · rcases fB2 with ⟨rfl, -⟩ | ⟨rfl, -⟩
        · exact .inl ⟨rfl, rfl, rfl⟩
        · exact .inr (.inl ⟨rfl, rfl, rfl⟩)
      · exact .inr (.inr ⟨rfl, rfl⟩)
    refine apart_yes G G.i G.b G.j x1 x2 y1 y2 u v e u2 v2 e2 c h d h2 w hG rfl rfl rfl _ _ (by omega) ⟨a1, a2⟩ ⟨a5, a6⟩ (Lib.hid hI1) (Lib.hid hI2) (Lib.hid hB1) (Lib.hid hB2) ?_ ?_ hI hB ?_ ?_
    · intro ht
      simp only [Bool.and_eq_true, beq_iff_eq] at ht
      rcases fI1 with ⟨-, k, hk1, hk2, rfl, rfl⟩ | ⟨h9, -⟩
      · rcases fI2 with ⟨-, m, hm1, hm2, rfl, rfl⟩ | ⟨h9, -⟩
        · refine ⟨⟨_, fun W => where_ok G 4 (G.off 4 + k / 2) _ rfl W hG (by omega) (by omega) (by rw [e3]; omega)⟩, by omega, by omega, by omega, ?_⟩
          by_cases hkm : k = m
          · subst hkm
            exact .inl ⟨by omega, rfl, rfl⟩
          · have hne : (x1 == x2) = false := by rw [beq_eq_false_iff_ne]; omega
            by_cases hd : k / 2 = m / 2
            · refine .inr (.inr ⟨hne, by rw [hd], ?_⟩)
              rw [beq_eq_false_iff_ne]; omega
            · refine .inr (.inl ⟨hne, ?_⟩)
              rw [beq_eq_false_iff_ne]; omega
        · omega
      · omega
    · intro ht
      simp only [Bool.and_eq_true, beq_iff_eq] at ht
      rcases fB1 with ⟨-, k, hk1, hk2, rfl⟩ | ⟨h9, -⟩
      · rcases fB2 with ⟨-, m, hm1, hm2, rfl⟩ | ⟨h9, -⟩
        · refine ⟨⟨_, fun W => where_ok G 5 (G.off 5 + k) _ rfl W hG (by omega) (by omega) (by show _ < G.off 6; rw [e4]; omega)⟩, ?_⟩
          by_cases hkm : k = m
          · subst hkm
            exact .inl ⟨by omega, rfl⟩
          · refine .inr ⟨?_, ?_⟩
            · rw [beq_eq_false_iff_ne]; omega
            · rw [beq_eq_false_iff_ne]; omega
        · omega
      · omega
    · rcases fI1 with ⟨h1, k, hk1, hk2, -, -⟩ | ⟨h1, h3⟩
      · exact .inl ⟨h1, by omega, by omega⟩
      · exact .inr ⟨h1, h3⟩
    · rcases fB1 with ⟨h1, k, hk1, hk2, -⟩ | ⟨h1, h3⟩
      · exact .inl ⟨h1, by omega, by omega⟩
      · exact .inr ⟨h1, h3⟩
  · exact apart_no i b j x1 x2 y1 y2 w hm
theorem walk_GeoApart (i b j x1 x2 y1 y2 : Int) (w1 : (Lit.int .u32 x1).wf = true) (w2 : (Lit.int .u32 x2).wf = true) (w3 : (Lit.int .u16 y1).wf = true) (w4 : (Lit.int .u16 y2).wf = true) (w : World) :
    Calls Try.prog 4 #[geoV i b j, .int .u32 x1, .int .u32 x2, .int .u16 y1, .int .u16 y2] w fun e w' => e = .returned (.bool true) ∧ Below w.heap.size w w' := by
  simp [Lit.wf, IntKind.min, IntKind.max, IntKind.bits, IntKind.signed] at w1 w2 w3 w4
  exact apart_any i b j x1 x2 y1 y2 w (by omega) (by omega) (by omega) (by omega) (by omega) (by omega) (by omega) (by omega)
end Go.Proofs.Ytoighnnjadmoiaa
