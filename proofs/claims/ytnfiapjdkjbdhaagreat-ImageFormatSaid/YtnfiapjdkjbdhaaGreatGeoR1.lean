/- Layer 5, the document's own answers: May, Part, Sectors. -/
import Derived.Test.YtnfiapjdkjbdhaaGreatP15
namespace Go.Proofs.YtnfiapjdkjbdhaaGreat
open Go.RowKit
set_option linter.unusedVariables false
set_option linter.unusedSimpArgs false
set_option maxRecDepth 10000
set_option maxHeartbeats 400000 in
theorem refMay_ok (i b j : Int) (w : World) (h : mayI i b j) :
    Calls Tryz.prog 30 #[geoV i b j] w fun e w' => e = .returned (.bool true) ∧ Below w.heap.size w w' := by
  obtain ⟨⟨h1, h2⟩, ⟨h3, h4⟩, h5, h6⟩ := h
  go_enter Tryz.func30, Tryz.ntmps30
  go_wp2
  go_ret
  exact ⟨rfl, (Below.refl _ _).alloc (Nat.le_refl _) _⟩
set_option maxHeartbeats 1000000 in
theorem refMay_bad (i b j : Int) (w : World) (h : ¬ mayI i b j) :
    Calls Tryz.prog 30 #[geoV i b j] w fun e w' => e = .returned (.bool false) ∧ Below w.heap.size w w' := by
  unfold mayI at h
  by_cases h1 : 2 ≤ i
  · by_cases h2 : i ≤ 256
    · by_cases h3 : 8 ≤ b
      · by_cases h4 : b ≤ 1024
        · by_cases h5 : 40 ≤ j
          · have h6 : ¬ j ≤ 256 := by omega
            have hd : decide (j ≤ 256) = false := by simpa using h6
            clear h
            go_enter Tryz.func30, Tryz.ntmps30
            go_wp2
            go_ret
            exact ⟨rfl, (Below.refl _ _).alloc (Nat.le_refl _) _⟩
          · clear h
            go_enter Tryz.func30, Tryz.ntmps30
            go_wp2
            go_ret
            exact ⟨rfl, (Below.refl _ _).alloc (Nat.le_refl _) _⟩
        · clear h
          go_enter Tryz.func30, Tryz.ntmps30
          go_wp2
          go_ret
          exact ⟨rfl, (Below.refl _ _).alloc (Nat.le_refl _) _⟩
      · clear h
        go_enter Tryz.func30, Tryz.ntmps30
        go_wp2
        go_ret
        exact ⟨rfl, (Below.refl _ _).alloc (Nat.le_refl _) _⟩
    · clear h
      go_enter Tryz.func30, Tryz.ntmps30
      go_wp2
      go_ret
      exact ⟨rfl, (Below.refl _ _).alloc (Nat.le_refl _) _⟩
  · clear h
    go_enter Tryz.func30, Tryz.ntmps30
    go_wp2
    go_ret
    exact ⟨rfl, (Below.refl _ _).alloc (Nat.le_refl _) _⟩
/-- The sizes lie in block B, as a slice's cells. -/
def LaidR (W : World) (B : Nat) (G : Gm) : Prop := W.heap[B]? = some (.cells (sizesL G).toArray 3 (0, 0))
def SizesPost (G : Gm) (w : World) (e : Ending) (w' : World) : Prop := ∃ B, e = .returned (.slice (some ⟨B, 0, none⟩) 6 6) ∧ LaidR w' B G ∧ w.heap.size ≤ B ∧ Below w.heap.size w w'
end Go.Proofs.YtnfiapjdkjbdhaaGreat
