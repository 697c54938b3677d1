/- Layer 9 (bmap): all blocks that an inode has, one by one. -/
import Derived.Test.YtdddennhdbmolaaGreatM18
import Derived.Test.YtdddennhdbmolaaGreatBmap6
namespace Go.Proofs.YtdddennhdbmolaaGreat
open Go.RowKit Go.Maps Go.Sort Go.Shelf Go.Lib
set_option linter.unusedVariables false
set_option linter.unusedSimpArgs false
set_option maxRecDepth 10000
attribute [local go_sem] Oper.semAt_some
/-- The numbers that are not 0, each with its place. -/
def nzL : Nat → List Nat → List (Nat × Nat)
  | _, [] => []
  | a, b :: r => if b = 0 then nzL (a + 1) r else (a, b) :: nzL (a + 1) r
theorem nzL_cons (a b : Nat) (r : List Nat) : nzL a (b :: r) = if b = 0 then nzL (a + 1) r else (a, b) :: nzL (a + 1) r := rfl
theorem nzL_append (a : Nat) (l r : List Nat) : nzL a (l ++ r) = nzL a l ++ nzL (a + l.length) r := by
  induction l generalizing a with
  | nil => rfl
  | cons b l ih =>
    rw [List.cons_append, nzL_cons, nzL_cons, ih, List.length_cons, show a + 1 + l.length = a + (l.length + 1) by omega]
    split
    · rfl
    · rfl
theorem nzL_filter (a p : Nat) (l : List Nat) : ((nzL a l).filter fun q => decide (p ≤ q.1)).map (·.2) = (l.drop (p - a)).filter fun b => b != 0 := by
  induction l generalizing a with
  | nil => simp [nzL]
  | cons b l ih =>
    rw [nzL_cons]
    by_cases hb : b = 0
    · subst hb
      rw [if_pos rfl, ih]
      by_cases hp : p ≤ a
      · rw [show p - (a + 1) = 0 by omega, show p - a = 0 by omega]; simp
      · rw [show p - a = (p - (a + 1)) + 1 by omega, List.drop_succ_cons]
    · rw [if_neg hb]
      by_cases hp : p ≤ a
      · rw [List.filter_cons_of_pos (by simpa using hp), List.map_cons, ih, show p - (a + 1) = 0 by omega, show p - a = 0 by omega]
        simp [hb]
      · rw [List.filter_cons_of_neg (by simpa using hp), ih, show p - a = (p - (a + 1)) + 1 by omega, List.drop_succ_cons]
theorem nzL_length (a : Nat) (l : List Nat) : (nzL a l).length ≤ l.length := by
  induction l generalizing a with
  | nil => exact Nat.le_refl _
  | cons b l ih =>
    have := ih (a + 1)
    rw [nzL_cons]
    split
    · rw [List.length_cons]; omega
    · rw [List.length_cons, List.length_cons]; omega
theorem nzL_take {l : List Nat} {k : Nat} (hk : k < l.length) : nzL 0 (l.take (k + 1)) = nzL 0 (l.take k) ++ if l[k] = 0 then [] else [(k, l[k])] := by
  rw [List.take_succ_eq_append_getElem hk, nzL_append, List.length_take, Nat.min_eq_left (by omega), Nat.zero_add]
  congr 1
/-- The direct ones. -/
def Im.dir (x : Im) : List Nat := [x.d0, x.d1, x.d2, x.d3]
/-- All blocks of an inode, each with a number of pages: it is needed only for more. -/
def prL (x : Im) (l : List Nat) : List (Nat × Nat) := nzL 0 (x.dir ++ l) ++ if x.i = 0 then [] else [(4, x.i)]
/-- Those that are not needed for so many pages. -/
def spareL (x : Im) (l : List Nat) (p : Nat) : List Nat := ((x.dir ++ l).drop p).filter (fun b => b != 0) ++ if x.i = 0 ∨ 4 < p then [] else [x.i]
theorem prL_spare (x : Im) (l : List Nat) (p : Nat) : ((prL x l).filter fun q => decide (p ≤ q.1)).map (·.2) = spareL x l p := by
  unfold prL spareL
  rw [List.filter_append, List.map_append, nzL_filter, Nat.sub_zero]
  congr 1
  by_cases hi : x.i = 0
  · rw [if_pos hi, if_pos (.inl hi)]; rfl
  · rw [if_neg hi]
    by_cases hp : p ≤ 4
    · rw [if_neg (by omega), List.filter_cons_of_pos (by simpa using hp)]; rfl
    · rw [if_pos (.inr (by omega)), List.filter_cons_of_neg (by simpa using hp)]; rfl
/-- An inode in a block of its own. -/
def InoAt (W : World) (g : Nat) (x : Im) : Prop := W.heap[g]? = some (.cells #[.int .u8 x.k, w16 x.n, .int .u32 x.z, w16 x.d0, w16 x.d1, w16 x.d2, w16 x.d3, w16 x.i] 28 (0, 0))
theorem InoAt.lt {W : World} {g : Nat} {x : Im} (h : InoAt W g x) : g < W.heap.size := (Array.getElem?_eq_some_iff.1 h).1
theorem InoAt.below {W W' : World} {g n : Nat} {x : Im} (h : InoAt W g x) (hb : Below n W W') (hg : g < n) : InoAt W' g x := (hb.block g hg).trans h
theorem InoAt.dirs {W : World} {g : Nat} {x : Im} (h : InoAt W g x) : U16s W (.slice (some ⟨g, 3, none⟩) 4 4) x.dir := by
  refine ⟨_, _, rfl, fun j n hj => ⟨_, rfl, ?_⟩⟩
  match j, hj with
  | 0, hj => cases hj; exact cell_of_row W g 3 _ _ _ h
  | 1, hj => cases hj; exact cell_of_row W g 4 _ _ _ h
  | 2, hj => cases hj; exact cell_of_row W g 5 _ _ _ h
  | 3, hj => cases hj; exact cell_of_row W g 6 _ _ _ h
theorem blocks_cat (W : World) (x : Im) (l : List Nat) (B C : Nat) (hx : InoAt W B x) (hl : LisAt W C l) :
    Calls Tryz.prog 45 #[.slice (some ⟨W.heap.size, 0, none⟩) 2 2] (W.alloc (.cells #[.slice (some ⟨B, 3, none⟩) 4 4, .slice (some ⟨C, 0, none⟩) 32 32] 37)).drew
      fun e w' => ∃ c, e = .returned (.slice (some ⟨W.heap.size + 1, 0, none⟩) 36 c) ∧ U16s w' (.slice (some ⟨W.heap.size + 1, 0, none⟩) 36 c) (x.dir ++ l) ∧ Below W.heap.size W w' := by
  have h1 := heap_alloc_new W (.cells #[.slice (some ⟨B, 3, none⟩) 4 4, .slice (some ⟨C, 0, none⟩) 32 32] 37)
  have hb : Below W.heap.size W (W.alloc (.cells #[.slice (some ⟨B, 3, none⟩) 4 4, .slice (some ⟨C, 0, none⟩) 32 32] 37)) := (Below.refl _ W).alloc (Nat.le_refl _) _
  have hx2 := hx.dirs.below hb
  have hl2 := hl.u16s.below hb
  have hsz : (W.alloc (.cells #[.slice (some ⟨B, 3, none⟩) 4 4, .slice (some ⟨C, 0, none⟩) 32 32] 37)).heap.size = W.heap.size + 1 := by simp
  generalize (W.alloc (.cells #[.slice (some ⟨B, 3, none⟩) 4 4, .slice (some ⟨C, 0, none⟩) 32 32] 37)) = V at *
  have hflat : (List.flatMap (·.2) [(Value.slice (some ⟨B, 3, none⟩) 4 4, x.dir), (.slice (some ⟨C, 0, none⟩) 32 32, l)]) = x.dir ++ l := by simp [List.flatMap_cons]
  have hlen : (x.dir ++ l).length = 36 := by rw [List.length_append, hl.2]; rfl
  refine (concat_any [(.slice (some ⟨B, 3, none⟩) 4 4, x.dir), (.slice (some ⟨C, 0, none⟩) 32 32, l)] W.heap.size 2 V.drew ?_ (by simp) ?_ (by rw [hflat]; omega)).mono ?_
  · intro j v l' hj
    match j, hj with
    | 0, hj =>
      cases hj
      exact ⟨cell_of_row V _ 0 _ _ _ h1, hx2, fun m c' e => by cases e⟩
    | 1, hj =>
      cases hj
      exact ⟨cell_of_row V _ 1 _ _ _ h1, hl2, fun m c' e => by cases e⟩
  · intro p hp
    rcases List.mem_cons.1 hp with rfl | hp
    · show (4 : Nat) ≤ 100; omega
    rcases List.mem_cons.1 hp with rfl | hp
    · show l.length ≤ 100; rw [hl.2]; omega
    cases hp
  · rintro e w' ⟨c2, rfl, hu, hb2⟩
    rw [hflat, hlen, show V.drew.heap.size = W.heap.size + 1 from hsz] at hu
    rw [hflat, hlen, show V.drew.heap.size = W.heap.size + 1 from hsz]
    exact ⟨c2, rfl, hu, hb.trans ((below_of_drew hb2).mono hb.size)⟩
end Go.Proofs.YtdddennhdbmolaaGreat
