/- A block of bytes, by its cells: '[]byte(s)', a store into it, 'string(b)'. -/
import Derived.Test.YtmidoghjacmdcaaBase
namespace Go.Proofs.Ytmidoghjacmdcaa
open Go.RowKit
set_option linter.unusedVariables false
set_option linter.unusedSimpArgs false
set_option maxRecDepth 10000
/-- The bytes l lie in block g from its head on, and may be written. -/
def Bytes (W : World) (g : Nat) (l : List UInt8) : Prop := ∀ j (h : j < l.length), W.cell? ⟨g, j, none⟩ = some (.int .u8 (l[j].toNat : Int)) ∧ W.frozen? ⟨g, j, none⟩ = false
theorem bytes_of_string {P : Program} (W : World) (src dst e : TypeId) (l : List UInt8) (hs : P.underlying src = some .string) (hd : P.underlying dst = some (.slice e)) (he : P.underlying e = some (.int .u8)) :
    ∃ cap W', (convert src dst (str l)).run P W = .ok (.slice (some ⟨W.heap.size, 0, none⟩) l.length cap) W' ∧ Bytes W' W.heap.size l ∧ Below W.heap.size W W' ∧ W'.heap.size = W.heap.size + 1 := by
  have h := run_bytes_of_string (P := P) W src dst e ⟨l.toArray⟩ hs hd he
  have hsz : (⟨l.toArray⟩ : ByteArray).size = l.length := by simp [ByteArray.size]
  rw [hsz] at h
  generalize grownCap W l.length 0 e = cap at h
  have hg := heap_alloc_new W.drew (.cells (bytesRow ⟨l.toArray⟩ cap) e ((bytesRow ⟨l.toArray⟩ cap).size, (bytesRow ⟨l.toArray⟩ cap).size + 1))
  have hg' : W.drew.heap.size = W.heap.size := rfl
  rw [hg'] at hg
  refine ⟨cap, _, h, fun j hj => ⟨?_, ?_⟩, (Below.refl _ _).drew.alloc (Nat.le_refl _) _, by simp⟩
  · rw [cell_of_row _ _ j _ e _ hg, bytesRow_at _ _ _ (by simpa using hj)]
    simp
  · have hne : j < (bytesRow ⟨l.toArray⟩ cap).size := by
      have := bytesRow_at ⟨l.toArray⟩ cap j (by simpa using hj)
      exact (Array.getElem?_eq_some_iff.1 this).1
    unfold World.frozen?
    rw [hg]
    simp
    omega
theorem Bytes.set {W : World} {g : Nat} {l : List UInt8} (h : Bytes W g l) (j : Nat) (n : Int) (x : UInt8) (hx : n = (x.toNat : Int)) (hj : j < l.length) : Bytes (W.setCell ⟨g, j, none⟩ (.int .u8 n)) g (l.set j x) := by
  subst hx
  intro i hi
  have hi' : i < l.length := by simpa using hi
  refine ⟨?_, by rw [World.frozen?_setCell]; exact (h i hi').2⟩
  by_cases e : j = i
  · subst e
    rw [List.getElem_set_self]
    exact World.cell?_setCell_same' W ⟨g, j, none⟩ _ (by rw [(h j hj).1]; rfl)
  · rw [List.getElem_set_ne e, World.cell?_setCell_other _ _ _ _ (by intro e2; injection e2 with _ e2; exact e e2)]
    exact (h i hi').1
theorem Bytes.below {W W' : World} {n g : Nat} {l : List UInt8} (h : Bytes W g l) (hb : Below n W W') (hg : g < n) : Bytes W' g l := fun j hj =>
  ⟨(hb.cell (p := ⟨g, j, none⟩) hg).trans (h j hj).1, (hb.frozen (p := ⟨g, j, none⟩) hg).trans (h j hj).2⟩
theorem Bytes.after {W W' : World} {g : Nat} {l : List UInt8} (h : Bytes W g l) (hb : Below W.heap.size W W') : Bytes W' g l := fun j hj =>
  have hg : g < W.heap.size := World.block_lt_of_cell? W _ (h j hj).1
  ⟨(hb.cell (p := ⟨g, j, none⟩) hg).trans (h j hj).1, (hb.frozen (p := ⟨g, j, none⟩) hg).trans (h j hj).2⟩
theorem Bytes.other {W : World} {g : Nat} {l : List UInt8} (h : Bytes W g l) (a : Addr) (v : Value) (hne : a.block ≠ g) : Bytes (W.setCell a v) g l := fun j hj =>
  ⟨by rw [World.cell?_setCell_other _ _ _ _ (by rintro rfl; exact hne rfl)]; exact (h j hj).1, by rw [World.frozen?_setCell]; exact (h j hj).2⟩
theorem Bytes.drew {W : World} {g : Nat} {l : List UInt8} (h : Bytes W g l) : Bytes W.drew g l := h
/-- 'string(b)'. -/
theorem string_of_bytes {P : Program} (src dst e : TypeId) (hs : P.underlying src = some (.slice e)) (he : P.underlying e = some (.int .u8)) (hd : P.underlying dst = some .string) (W : World) (g cap : Nat) (l : List UInt8) (h : Bytes W g l) :
    (convert src dst (.slice (some ⟨g, 0, none⟩) l.length cap)).run P W = .ok (str l) W :=
  run_convert_bytes_back W src dst e ⟨g, 0, none⟩ cap l hs he hd fun j hj => by
    have := (h j hj).1
    simp only [Addr.add, Nat.zero_add]
    by_cases h0 : j = 0
    · subst h0; simpa using this
    · simpa [h0] using this
theorem bytes_made {W : World} {g : Nat} {l : List UInt8} {e : TypeId} (h : W.heap[g]? = some (.cells (byteCells l) e (0, 0))) : Bytes W g l := fun j hj =>
  ⟨by rw [cell_of_row W g j _ e (0, 0) h, byteCells_get l j hj], frozen_of_row W g j _ e h⟩
end Go.Proofs.Ytmidoghjacmdcaa
