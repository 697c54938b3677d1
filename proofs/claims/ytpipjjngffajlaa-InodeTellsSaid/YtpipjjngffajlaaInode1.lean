/- Layer 7 (inode): pages, what is too short or too long, the blocks that an inode names. -/
import Derived.Test.YtpipjjngffajlaaOctet4
import Derived.Test.YtpipjjngffajlaaBaseArr
import Derived.Test.YtpipjjngffajlaaBaseBytes
import Derived.Test.YtpipjjngffajlaaBaseStill
import Derived.Test.YtpipjjngffajlaaInodeM
import Derived.Laws.IdiomCopy
import Derived.BigRegion
namespace Go.Proofs.Ytpipjjngffajlaa
open Go.RowKit
set_option linter.unusedVariables false
set_option linter.unusedSimpArgs false
set_option maxRecDepth 10000
abbrev w16 (n : Nat) : Value := .int .u16 (n : Int)
/-- An inode as a value. -/
abbrev Im.v (x : Im) : Value := .agg #[.int .u8 x.k, w16 x.n, .int .u32 x.z, w16 x.d0, w16 x.d1, w16 x.d2, w16 x.d3, w16 x.i]
/-- Five blocks as a value. -/
abbrev fiveV (a b c d e : Nat) : Value := .agg #[w16 a, w16 b, w16 c, w16 d, w16 e]
/-- 'copy' of cells that lie in a row, to the head of a block. -/
theorem copy_cells (W : World) (b g o dl dc sl sc : Nat) (cs : List Value) (hn : cs.length = Nat.min sl dl) (h1 : ∀ v ∈ cs, v.oneCell' = true)
    (hsrc : ∀ j v, cs[j]? = some v → W.cell? ⟨g, o + j, none⟩ = some v) (old : Array Value) (t : TypeId) (hb : W.heap[b]? = some (.cells old t (0, 0))) (hsz : cs.length ≤ old.size) :
    (Builtin.copy_ #[27, 27] 3 #[.slice (some ⟨b, 0, none⟩) dl dc, .slice (some ⟨g, o, none⟩) sl sc]).run Try.prog W = .ok (goInt cs.length) (W.setCells b 0 cs) :=
  run_copy_cells W 27 27 3 22 b 0 dl dc ⟨g, o, none⟩ sl sc cs Try.underlying27 (by kernel_rfl) hn
    (fun j v hj => by
      have := hsrc j v hj
      unfold Addr.add
      split
      · rename_i e; subst e; simpa using this
      · exact this)
    (fun j hj => by
      rw [cell_of_row W b (0 + j) old t (0, 0) hb]
      simp; omega)
    (fun j hj => frozen_of_row W b _ old t hb) h1
set_option maxHeartbeats 400000 in
theorem pages_any (z : Nat) (w : World) (hz : z < 4294967296) :
    Calls Try.prog 16 #[.int .u32 z] w fun e w' => e = .returned (.int .i64 (pagesN z)) ∧ w' = w := by
  unfold pagesN
  go_enter Try.func16, Try.ntmps16
  go_wp2
  go_ret
  refine ⟨congrArg (fun n => Ending.returned (.int .i64 n)) ?_, rfl⟩
  omega
set_option maxHeartbeats 400000 in
theorem refPages_any (z : Nat) (w : World) (hz : z < 4294967296) :
    Calls Try.prog 17 #[.int .u32 z] w fun e w' => e = .returned (.int .i64 (pagesN z)) ∧ w' = w := by
  unfold pagesN
  go_enter Try.func17, Try.ntmps17
  go_wp2
  · rename_i h
    go_ret
    refine ⟨congrArg (fun n => Ending.returned (.int .i64 n)) ?_, rfl⟩
    simp at h
    omega
  · rename_i h
    go_ret
    refine ⟨congrArg (fun n => Ending.returned (.int .i64 n)) ?_, rfl⟩
    simp at h
    omega
set_option maxHeartbeats 400000 in
theorem sized_short (l : List UInt8) (n : Nat) (w : World) (hs : l.length ≤ maxLen) (hn : n ≤ 1000) (h : l.length < n) :
    Calls Try.prog 27 #[str l, .int .i64 n] w fun e w' => e = .returned (.int .i64 6) ∧ w' = w := by
  unfold maxLen at hs
  go_enter Try.func27, Try.ntmps27
  go_wp2
  go_ret
  exact ⟨rfl, rfl⟩
set_option maxHeartbeats 400000 in
theorem sized_long (l : List UInt8) (n : Nat) (w : World) (hs : l.length ≤ maxLen) (hn : n ≤ 1000) (h : n < l.length) :
    Calls Try.prog 27 #[str l, .int .i64 n] w fun e w' => e = .returned (.int .i64 7) ∧ w' = w := by
  unfold maxLen at hs
  go_enter Try.func27, Try.ntmps27
  go_wp2
  go_ret
  exact ⟨rfl, rfl⟩
set_option maxHeartbeats 400000 in
theorem sized_ok (l : List UInt8) (n : Nat) (w : World) (hn : n ≤ 1000) (h : l.length = n) :
    Calls Try.prog 27 #[str l, .int .i64 n] w fun e w' => e = .returned (.int .i64 0) ∧ w' = w := by
  go_enter Try.func27, Try.ntmps27
  go_wp2
  go_ret
  exact ⟨rfl, rfl⟩
theorem four_src {W : World} {g o : Nat} {a b c d : Value} (h0 : W.cell? ⟨g, o, none⟩ = some a) (h1 : W.cell? ⟨g, o + 1, none⟩ = some b) (h2 : W.cell? ⟨g, o + 2, none⟩ = some c) (h3 : W.cell? ⟨g, o + 3, none⟩ = some d) :
    ∀ j v, [a, b, c, d][j]? = some v → W.cell? ⟨g, o + j, none⟩ = some v := fun j v hj => by
  match j, hj with
  | 0, hj => simp at hj; subst hj; exact h0
  | 1, hj => simp at hj; subst hj; exact h1
  | 2, hj => simp at hj; subst hj; exact h2
  | 3, hj => simp at hj; subst hj; exact h3
/-- Five noughts in a new block. -/
abbrev five0 : Array Value := #[.int .u16 0, .int .u16 0, .int .u16 0, .int .u16 0, .int .u16 0]
/-- Cells put into a row from place o on. -/
def fillA (c : Array Value) : Nat → List Value → Array Value
  | _, [] => c
  | o, v :: r => fillA (c.setIfInBounds o v) (o + 1) r
theorem setCells_new (w : World) (t : TypeId) : ∀ (cs : List Value) (o : Nat) (c : Array Value), (w.alloc (.cells c t)).setCells w.heap.size o cs = w.alloc (.cells (fillA c o cs) t)
  | [], _, _ => rfl
  | v :: r, o, c => by rw [World.setCells, World.setCell_alloc_new, setCells_new w t r (o + 1), fillA]
theorem setCells_drew (b : Nat) : ∀ (cs : List Value) (o : Nat) (w : World), w.drew.setCells b o cs = (w.setCells b o cs).drew
  | [], _, _ => rfl
  | v :: r, o, w => by
    rw [World.setCells, World.setCells, ← setCells_drew b r (o + 1)]
    rfl
theorem cell_alloc_old {W : World} (o : Obj) {a : Addr} {v : Value} (h : W.cell? a = some v) : (W.alloc o).drew.cell? a = some v :=
  ((((Below.refl _ _).alloc (Nat.le_refl _) o).drew).cell (p := a) (World.block_lt_of_cell? W _ h)).trans h
theorem run_copy_new (W : World) (g o dl dc sl sc n : Nat) (t : TypeId) (cs : List Value) (old : Array Value) (hn : cs.length = Nat.min sl dl) (h1 : ∀ v ∈ cs, v.oneCell' = true)
    (hsrc : ∀ j v, cs[j]? = some v → W.cell? ⟨g, o + j, none⟩ = some v) (hsz : cs.length ≤ old.size) (hW : n = W.heap.size) :
    (Builtin.copy_ #[27, 27] 3 #[.slice (some ⟨n, 0, none⟩) dl dc, .slice (some ⟨g, o, none⟩) sl sc]).run Try.prog (W.alloc (.cells old t)).drew = .ok (goInt cs.length) (W.alloc (.cells (fillA old 0 cs) t)).drew := by
  subst hW
  rw [copy_cells (W.alloc (.cells old t)).drew W.heap.size g o dl dc sl sc cs hn h1 (fun j v hj => cell_alloc_old _ (hsrc j v hj)) old t (heap_alloc_new W _) hsz, setCells_drew, setCells_new]
theorem heap_mid (w : World) (A B C : Obj) : (((w.alloc A).alloc B).alloc C).drew.heap[w.heap.size + 1]? = some B := by
  show (((w.alloc A).alloc B).alloc C).heap[w.heap.size + 1]? = some B
  rw [heap_alloc_old _ _ (by simp)]
  have := heap_alloc_new (w.alloc A) B
  simpa using this
set_option maxHeartbeats 1000000 in
theorem named_any (x : Im) (w : World) :
    Calls Try.prog 22 #[x.v] w fun e w' => e = .returned (fiveV x.d0 x.d1 x.d2 x.d3 x.i) ∧ Below w.heap.size w w' := by
  have hcp : ∀ W : World, W.cell? ⟨w.heap.size, 3, none⟩ = some (w16 x.d0) → W.cell? ⟨w.heap.size, 4, none⟩ = some (w16 x.d1) → W.cell? ⟨w.heap.size, 5, none⟩ = some (w16 x.d2) → W.cell? ⟨w.heap.size, 6, none⟩ = some (w16 x.d3) → w.heap.size + 1 + 1 = W.heap.size →
    (Builtin.copy_ #[27, 27] 3 #[.slice (some ⟨w.heap.size + 1 + 1, 0, none⟩) 5 5, .slice (some ⟨w.heap.size, 3, none⟩) 4 4]).run Try.prog (W.alloc (.cells five0 49)).drew =
      .ok (goInt 4) (W.alloc (.cells #[w16 x.d0, w16 x.d1, w16 x.d2, w16 x.d3, .int .u16 0] 49)).drew := fun W h0 h1 h2 h3 hs =>
    run_copy_new W w.heap.size 3 5 5 4 4 _ 49 [w16 x.d0, w16 x.d1, w16 x.d2, w16 x.d3] five0 rfl (by simp [Value.oneCell']) (four_src h0 h1 h2 h3) (by simp [five0]) hs
  go_enter Try.func22, Try.ntmps22
  go_wp2_with fail
  go_region
  go_wp2
  refine bodyPost_ret (v := fiveV x.d0 x.d1 x.d2 x.d3 x.i) ?_ rfl ⟨rfl, ?_⟩
  · exact results_cell_row rfl _ _ (w.heap.size + 1) 49 _ (0, 0) _ rfl (heap_mid _ _ _ _) Try.underlying49 rfl (by kernel_rfl)
  · exact ((((Below.refl _ _).alloc (Nat.le_refl _) _).alloc (by simp) _).alloc (by simp; omega) _).drew
/-- What is kept of five blocks where n of them are. -/
def keptL (n : Nat) (a b c d e : Nat) : Value := fiveV (if 0 < n then a else 0) (if 1 < n then b else 0) (if 2 < n then c else 0) (if 3 < n then d else 0) (if 4 < n then e else 0)
theorem five_src {W : World} {g : Nat} {a b c d e : Value} (h0 : W.cell? ⟨g, 0, none⟩ = some a) (h1 : W.cell? ⟨g, 1, none⟩ = some b) (h2 : W.cell? ⟨g, 2, none⟩ = some c) (h3 : W.cell? ⟨g, 3, none⟩ = some d) (h4 : W.cell? ⟨g, 4, none⟩ = some e) (n : Nat) :
    ∀ j v, ([a, b, c, d, e].take n)[j]? = some v → W.cell? ⟨g, 0 + j, none⟩ = some v := fun j v hj => by
  rw [Nat.zero_add]
  rw [List.getElem?_take] at hj
  split at hj
  · match j, hj with
    | 0, hj => simp at hj; subst hj; exact h0
    | 1, hj => simp at hj; subst hj; exact h1
    | 2, hj => simp at hj; subst hj; exact h2
    | 3, hj => simp at hj; subst hj; exact h3
    | 4, hj => simp at hj; subst hj; exact h4
    | j + 5, hj => simp at hj
  · cases hj
set_option maxHeartbeats 2000000 in
theorem within_any (a b c d e z : Nat) (w : World) (hz : z < 4294967296) :
    Calls Try.prog 38 #[fiveV a b c d e, .int .u32 z] w fun f w' => f = .returned (keptL (pagesN z) a b c d e) ∧ Below w.heap.size w w' := by
  have hP := fun W => pages_any z W hz
  obtain ⟨m, hm⟩ : ∃ m, m = min (pagesN z) 5 := ⟨_, rfl⟩
  have hm5 : m ≤ 5 := by omega
  have hmi : (if (5 : Int) < ((pagesN z : Nat) : Int) then (5 : Int) else ((pagesN z : Nat) : Int)) = (m : Int) := by split <;> omega
  have hK : keptL (pagesN z) a b c d e = keptL m a b c d e := by
    have : ∀ j, j < 5 → ((j < pagesN z) = (j < m)) := fun j hj => by rw [hm]; simp only [eq_iff_iff]; omega
    simp only [keptL, this 0 (by omega), this 1 (by omega), this 2 (by omega), this 3 (by omega), this 4 (by omega)]
  rw [hK]
  clear hK
  have hcp : ∀ W : World, W.cell? ⟨w.heap.size, 0, none⟩ = some (w16 a) → W.cell? ⟨w.heap.size, 1, none⟩ = some (w16 b) → W.cell? ⟨w.heap.size, 2, none⟩ = some (w16 c) → W.cell? ⟨w.heap.size, 3, none⟩ = some (w16 d) → W.cell? ⟨w.heap.size, 4, none⟩ = some (w16 e) → w.heap.size + 1 + 1 = W.heap.size →
    (Builtin.copy_ #[27, 27] 3 #[.slice (some ⟨w.heap.size + 1 + 1, 0, none⟩) 5 5, .slice (some ⟨w.heap.size, 0, none⟩) m 5]).run Try.prog (W.alloc (.cells five0 49)).drew =
      .ok (goInt m) (W.alloc (.cells (keptL m a b c d e).cells 49)).drew := fun W h0 h1 h2 h3 h4 hs => by
    have hl : ([w16 a, w16 b, w16 c, w16 d, w16 e].take m).length = m := by simp; omega
    have := run_copy_new W w.heap.size 0 5 5 m 5 _ 49 ([w16 a, w16 b, w16 c, w16 d, w16 e].take m) five0 (by rw [hl]; exact (Nat.min_eq_left hm5).symm) (fun v hv => by have := List.mem_of_mem_take hv; simp at this; rcases this with rfl | rfl | rfl | rfl | rfl <;> rfl) (five_src h0 h1 h2 h3 h4 m) (by rw [hl]; exact hm5) hs
    rw [this, hl]
    congr 3
    match m, hm5 with
    | 0, _ | 1, _ | 2, _ | 3, _ | 4, _ | 5, _ => rfl
  have hc : (keptL m a b c d e).cells = #[w16 (if 0 < m then a else 0), w16 (if 1 < m then b else 0), w16 (if 2 < m then c else 0), w16 (if 3 < m then d else 0), w16 (if 4 < m then e else 0)] := rfl
  rw [hc] at hcp
  have HP := Lib.hid hP
  clear hP
  unfold keptL
  generalize (if 0 < m then a else 0) = a' at *
  generalize (if 1 < m then b else 0) = b' at *
  generalize (if 2 < m then c else 0) = c' at *
  generalize (if 3 < m then d else 0) = d' at *
  generalize (if 4 < m then e else 0) = e' at *
  generalize pagesN z = q at *
  clear hc hm
  have h6 : m = 0 ∨ m = 1 ∨ m = 2 ∨ m = 3 ∨ m = 4 ∨ m = 5 := by omega
  clear hm5
  rcases h6 with rfl | rfl | rfl | rfl | rfl | rfl
  all_goals
    go_enter Try.func38, Try.ntmps38
    go_wp2_with fail
    refine still_tail 5 (by kernel_rfl) (by kernel_rfl) ?_
    simp only [List.take_succ_cons, List.take_zero, List.drop_succ_cons, List.drop_zero]
    repeat still_step
    still_call (HP.out _)
    repeat still_step
    refine wpStill_nil ?_
    go_wp2
    refine bodyPost_ret (v := fiveV a' b' c' d' e') ?_ rfl ⟨rfl, ?_⟩
    · exact results_cell_row rfl _ _ (w.heap.size + 1) 49 _ (0, 0) _ rfl (heap_mid _ _ _ _) Try.underlying49 rfl (by kernel_rfl)
    · exact ((((Below.refl _ _).alloc (Nat.le_refl _) _).alloc (by simp) _).alloc (by simp; omega) _).drew
end Go.Proofs.Ytpipjjngffajlaa
