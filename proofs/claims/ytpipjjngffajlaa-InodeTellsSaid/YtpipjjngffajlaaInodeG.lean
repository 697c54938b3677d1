/- Layer 7 (inode): an inode in memory; Get of too few or too many bytes. Written by tools/geninode9.py. -/
import Derived.Test.YtpipjjngffajlaaInode7
namespace Go.Proofs.Ytpipjjngffajlaa
open Go.RowKit
set_option linter.unusedVariables false
set_option linter.unusedSimpArgs false
set_option maxRecDepth 10000
theorem results_row_tmp' {fn : Func} {p q : Tmp} {ty : TypeId} {P : Program} (h : fn.results = #[.cell p ty, .tmp q]) (tmps : Array Value) (w : World) (g : Nat) (v : Value)
    (hp : tmps.getD p undef = .pointer (some ⟨g, 0, none⟩)) (hl : (loadVar ty ⟨g, 0, none⟩).run P w = .ok v w) :
    (results fn tmps).run P w = .ok (.tuple #[v, tmps.getD q undef]) w := by
  have hp' : tmps[p]?.getD undef = .pointer (some ⟨g, 0, none⟩) := by simpa using hp
  simp [results, h, hp', asAddr, hl]
theorem load_ino (W : World) (g : Nat) (x : Im) (h : W.heap[g]? = some (.cells #[.int .u8 x.k, w16 x.n, .int .u32 x.z, w16 x.d0, w16 x.d1, w16 x.d2, w16 x.d3, w16 x.i] 26 (0, 0))) : (loadVar 26 ⟨g, 0, none⟩).run Try.prog W = .ok x.v W :=
  run_loadVar_row W g 26 26 _ (0, 0) _ h Try.underlying26 rfl (by kernel_rfl)
theorem set8 {W : World} {g : Nat} {t : TypeId} {o0 o1 o2 o3 o4 o5 o6 o7 : Value} (h : W.heap[g]? = some (.cells #[o0, o1, o2, o3, o4, o5, o6, o7] t (0, 0))) (a b c d e f i j : Value) :
    ((((((((W.setCell ⟨g, 0, none⟩ a).setCell ⟨g, 1, none⟩ b).setCell ⟨g, 2, none⟩ c).setCell ⟨g, 3, none⟩ d).setCell ⟨g, 4, none⟩ e).setCell ⟨g, 5, none⟩ f).setCell ⟨g, 6, none⟩ i).setCell ⟨g, 7, none⟩ j).heap[g]? = some (.cells #[a, b, c, d, e, f, i, j] t (0, 0)) := by
  have h1 : (W.setCell ⟨g, 0, none⟩ a).heap[g]? = some (.cells #[a, o1, o2, o3, o4, o5, o6, o7] t (0, 0)) := heap_setCell_same _ g 0 _ t a h
  have h2 : ((W.setCell ⟨g, 0, none⟩ a).setCell ⟨g, 1, none⟩ b).heap[g]? = some (.cells #[a, b, o2, o3, o4, o5, o6, o7] t (0, 0)) := heap_setCell_same _ g 1 _ t b h1
  have h3 : (((W.setCell ⟨g, 0, none⟩ a).setCell ⟨g, 1, none⟩ b).setCell ⟨g, 2, none⟩ c).heap[g]? = some (.cells #[a, b, c, o3, o4, o5, o6, o7] t (0, 0)) := heap_setCell_same _ g 2 _ t c h2
  have h4 : ((((W.setCell ⟨g, 0, none⟩ a).setCell ⟨g, 1, none⟩ b).setCell ⟨g, 2, none⟩ c).setCell ⟨g, 3, none⟩ d).heap[g]? = some (.cells #[a, b, c, d, o4, o5, o6, o7] t (0, 0)) := heap_setCell_same _ g 3 _ t d h3
  have h5 : (((((W.setCell ⟨g, 0, none⟩ a).setCell ⟨g, 1, none⟩ b).setCell ⟨g, 2, none⟩ c).setCell ⟨g, 3, none⟩ d).setCell ⟨g, 4, none⟩ e).heap[g]? = some (.cells #[a, b, c, d, e, o5, o6, o7] t (0, 0)) := heap_setCell_same _ g 4 _ t e h4
  have h6 : ((((((W.setCell ⟨g, 0, none⟩ a).setCell ⟨g, 1, none⟩ b).setCell ⟨g, 2, none⟩ c).setCell ⟨g, 3, none⟩ d).setCell ⟨g, 4, none⟩ e).setCell ⟨g, 5, none⟩ f).heap[g]? = some (.cells #[a, b, c, d, e, f, o6, o7] t (0, 0)) := heap_setCell_same _ g 5 _ t f h5
  have h7 : (((((((W.setCell ⟨g, 0, none⟩ a).setCell ⟨g, 1, none⟩ b).setCell ⟨g, 2, none⟩ c).setCell ⟨g, 3, none⟩ d).setCell ⟨g, 4, none⟩ e).setCell ⟨g, 5, none⟩ f).setCell ⟨g, 6, none⟩ i).heap[g]? = some (.cells #[a, b, c, d, e, f, i, o7] t (0, 0)) := heap_setCell_same _ g 6 _ t i h6
  have h8 : ((((((((W.setCell ⟨g, 0, none⟩ a).setCell ⟨g, 1, none⟩ b).setCell ⟨g, 2, none⟩ c).setCell ⟨g, 3, none⟩ d).setCell ⟨g, 4, none⟩ e).setCell ⟨g, 5, none⟩ f).setCell ⟨g, 6, none⟩ i).setCell ⟨g, 7, none⟩ j).heap[g]? = some (.cells #[a, b, c, d, e, f, i, j] t (0, 0)) := heap_setCell_same _ g 7 _ t j h7
  exact h8
theorem run_copy_at (W : World) (g o d dl dc sl sc n : Nat) (t : TypeId) (cs : List Value) (old : Array Value) (hn : cs.length = Nat.min sl dl) (h1 : ∀ v ∈ cs, v.oneCell' = true)
    (hsrc : ∀ j v, cs[j]? = some v → W.cell? ⟨g, o + j, none⟩ = some v) (hsz : d + cs.length ≤ old.size) (hW : n = W.heap.size) :
    (Builtin.copy_ #[27, 27] 3 #[.slice (some ⟨n, d, none⟩) dl dc, .slice (some ⟨g, o, none⟩) sl sc]).run Try.prog (W.alloc (.cells old t)).drew.drew = .ok (goInt cs.length) (W.alloc (.cells (fillA old d cs) t)).drew.drew := by
  subst hW
  have hb : (W.alloc (.cells old t)).drew.drew.heap[W.heap.size]? = some (.cells old t (0, 0)) := heap_alloc_new W _
  rw [run_copy_cells (W.alloc (.cells old t)).drew.drew 27 27 3 22 W.heap.size d dl dc ⟨g, o, none⟩ sl sc cs Try.underlying27 (by kernel_rfl) hn
    (fun j v hj => by
      have h := cell_alloc_old (.cells old t) (hsrc j v hj)
      unfold Addr.add
      split
      · rename_i e; subst e; simpa using h
      · exact h)
    (fun j hj => by
      rw [cell_of_row _ W.heap.size (d + j) old t (0, 0) hb]
      simp; omega)
    (fun j hj => frozen_of_row _ W.heap.size _ old t hb) h1, setCells_drew, setCells_drew, setCells_new]
/-- What Get answers. -/
def getV : Option Im → Value
  | some x => .tuple #[x.v, .int .i64 0]
  | none => .tuple #[Im.nought.v, .int .i64 7]
set_option maxHeartbeats 1000000 in
theorem iget_short (s : List UInt8) (w : World) (h : s.length < 32) :
    Calls Try.prog 9 #[str s] w fun e w' => e = .returned (.tuple #[Im.nought.v, .int .i64 6]) ∧ Below w.heap.size w w' := by
  have HS := Lib.hid fun W => sized_short s 32 W (by unfold maxLen; omega) (by omega) h
  clear h
  go_enter Try.func9, Try.ntmps9
  go_wp2_with fail
  refine (HS.out _).mono ?_
  rintro e w1 ⟨rfl, rfl⟩
  go_wp2
  refine bodyPost_ret (v := .tuple #[Im.nought.v, .int .i64 6]) ?_ rfl ⟨rfl, (Below.refl _ _).alloc (Nat.le_refl _) _⟩
  exact results_row_tmp' (p := 2) (q := 3) rfl _ _ w.heap.size _ rfl (load_ino _ _ Im.nought (heap_alloc_new _ _))
set_option maxHeartbeats 1000000 in
theorem iget_long (s : List UInt8) (w : World) (hs : s.length ≤ 1000000) (h : 32 < s.length) :
    Calls Try.prog 9 #[str s] w fun e w' => e = .returned (.tuple #[Im.nought.v, .int .i64 7]) ∧ Below w.heap.size w w' := by
  have HS := Lib.hid fun W => sized_long s 32 W (by unfold maxLen; omega) (by omega) h
  clear h
  go_enter Try.func9, Try.ntmps9
  go_wp2_with fail
  refine (HS.out _).mono ?_
  rintro e w1 ⟨rfl, rfl⟩
  go_wp2
  refine bodyPost_ret (v := .tuple #[Im.nought.v, .int .i64 7]) ?_ rfl ⟨rfl, (Below.refl _ _).alloc (Nat.le_refl _) _⟩
  exact results_row_tmp' (p := 2) (q := 3) rfl _ _ w.heap.size _ rfl (load_ino _ _ Im.nought (heap_alloc_new _ _))
theorem or32 (a b : Nat) (ha : a < 65536) (hb : b < 65536) : bits .or .u32 (a : Int) ((b : Int) * 65536) = ((a + 65536 * b : Nat) : Int) := by
  have e : (b : Int) * 65536 = ((65536 * b : Nat) : Int) := by omega
  rw [e, u32_or_nat _ _ (by omega) (by omega), Nat.or_comm, nat_join 16 _ _ (by omega) (by omega), Nat.add_comm]
end Go.Proofs.Ytpipjjngffajlaa
