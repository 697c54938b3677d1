/- Layer 7 (inode), the document's own helpers: two, at, blocks. -/
import Derived.Test.YtpipjjngffajlaaInode1
namespace Go.Proofs.Ytpipjjngffajlaa
open Go.RowKit
set_option linter.unusedVariables false
set_option linter.unusedSimpArgs false
set_option maxRecDepth 10000
/-- The slice v is the numbers l. -/
def U16s (w : World) (v : Value) (l : List Nat) : Prop :=
  ∃ A c, v = .slice A l.length c ∧ ∀ (j n : Nat), l[j]? = some n → ∃ a : Addr, A = some a ∧ w.cell? (a.add j) = some (w16 n)
theorem U16s.below {w w' : World} {v : Value} {l : List Nat} (h : U16s w v l) (hb : Below w.heap.size w w') : U16s w' v l := by
  obtain ⟨A, c, hv, hc⟩ := h
  refine ⟨A, c, hv, fun j n hj => ?_⟩
  obtain ⟨a, hA, hcell⟩ := hc j n hj
  exact ⟨a, hA, (hb.cell (World.block_lt_of_cell? w _ hcell)).trans hcell⟩
theorem U16s.drew {w : World} {v : Value} {l : List Nat} (h : U16s w v l) : U16s w.drew v l := h
theorem u16s_row {w : World} {g n c : Nat} {l : List Nat} {t : TypeId} {cs : Array Value} {fr : Nat × Nat} (hg : w.heap[g]? = some (.cells cs t fr)) (hl : l.length = n) (hc : ∀ j m : Nat, l[j]? = some m → cs[j]? = some (w16 m)) : U16s w (.slice (some ⟨g, 0, none⟩) n c) l := by
  subst hl
  refine ⟨some ⟨g, 0, none⟩, c, rfl, fun j m hj => ⟨_, rfl, ?_⟩⟩
  have h := cell_of_row w g j cs t fr hg
  have e : (⟨g, 0, none⟩ : Addr).add j = ⟨g, j, none⟩ := by unfold Addr.add; split <;> simp_all
  rw [e, h, hc j m hj]
theorem num2_bytes (l : List UInt8) (j : Nat) (h : 2 * j + 2 ≤ l.length) : num2 l j = (l[2 * j]'(by omega)).toNat + 256 * (l[2 * j + 1]'(by omega)).toNat := by
  unfold num2
  have e : (l.drop (2 * j)).take 2 = [l[2 * j]'(by omega), l[2 * j + 1]'(by omega)] := by
    rw [List.drop_eq_getElem_cons (by omega), List.take_succ_cons, List.drop_eq_getElem_cons (by omega), List.take_succ_cons, List.take_zero]
  rw [e]
  simp [leV]
theorem byte_u16 (b : UInt8) : IntKind.u16.wrap (b.toNat : Int) = (b.toNat : Int) := by have := b.toNat_lt; exact IntWalk.u16_in _ (by omega)
theorem or16 (a b : UInt8) : bits .or .u16 (a.toNat : Int) ((b.toNat : Int) * 256) = ((a.toNat + 256 * b.toNat : Nat) : Int) := by
  have ha := a.toNat_lt
  have hb := b.toNat_lt
  have e : (b.toNat : Int) * 256 = ((256 * b.toNat : Nat) : Int) := by omega
  rw [e, u16_or_nat _ _ (by omega) (by omega), Nat.or_comm, nat_join 8 _ _ (by omega) (by omega), Nat.add_comm]
theorem or16w (a b : UInt8) : bits .or .u16 (a.toNat : Int) (IntKind.u16.wrap ((b.toNat : Int) * 256)) = ((a.toNat + 256 * b.toNat : Nat) : Int) := by
  have hb := b.toNat_lt
  rw [IntWalk.u16_in _ (by omega), or16]
set_option maxHeartbeats 400000 in
theorem at_byte (l : List UInt8) (k : Nat) (x y : UInt8) (w : World) (h2 : k + 1 < l.length) (hl : l.length ≤ 1000000) (hx : l[k] = x) (hy : l[k + 1] = y) :
    Calls Try.prog 29 #[str l, .int .i64 k] w fun e w' => e = .returned (w16 (x.toNat + 256 * y.toNat)) ∧ ∃ n, w' = w.drewN n := by
  have ho := or16 x y
  have ho2 := or16w x y
  have hwx := byte_u16 x
  have hwy := byte_u16 y
  have h1 : k < l.length := by omega
  go_enter Try.func29, Try.ntmps29
  go_wp2_with fail
  go_quiet (fail)
  go_wp2
  go_ret
  exact ⟨congrArg (fun n => Ending.returned (.int .u16 n)) (by simp), _, rfl⟩
theorem at_any (l : List UInt8) (j : Nat) (i : Int) (hi : i = ((2 * j : Nat) : Int)) (w : World) (h : 2 * j + 2 ≤ l.length) (hl : l.length ≤ 1000000) :
    Calls Try.prog 29 #[str l, .int .i64 i] w fun e w' => e = .returned (w16 (num2 l j)) ∧ ∃ n, w' = w.drewN n := by
  subst hi
  rw [num2_bytes l j h]
  exact at_byte l (2 * j) _ _ w (by omega) hl rfl rfl
/-- 'string([]byte{a, b})'. -/
theorem conv_two {P : Program} (src dst e : TypeId) (hs : P.underlying src = some (.slice e)) (he : P.underlying e = some (.int .u8)) (hd : P.underlying dst = some .string) (W : World) (a b : Int) (g : Nat) (hg : W.heap[g]? = some (.cells #[.int .u8 a, .int .u8 b] e (0, 0))) :
    (convert src dst (.slice (some ⟨g, 0, none⟩) 2 2)).run P W = .ok (str [UInt8.ofNat a.toNat, UInt8.ofNat b.toNat]) W := by
  rw [run_convert_bytes_string _ src dst e _ 2 2 hs he hd]
  have hl := run_loadCells_list (P := P) W ⟨g, 0, none⟩ [.int .u8 a, .int .u8 b] (fun j v hj => by
    match j, hj with
    | 0, hj => simp at hj; subst hj; exact cell_of_row W g 0 _ e (0, 0) hg
    | 1, hj => simp at hj; subst hj; exact cell_of_row W g 1 _ e (0, 0) hg)
  rw [run_bytesToString _ _ 2 2 [a, b] (by simpa using hl)]
  rfl
/-- The two bytes of a number, as 'two' lays them. -/
def twoC (n : Nat) : Array Value := #[.int .u8 ((n : Int) % 256), .int .u8 ((n : Int) / 256)]
theorem conv_two_new (W : World) (a b : Int) (g : Nat) (hg : g = W.heap.size) : (convert 60 9 (.slice (some ⟨g, 0, none⟩) 2 2)).run Try.prog (W.alloc (.cells #[.int .u8 a, .int .u8 b] 5)) = .ok (str [UInt8.ofNat a.toNat, UInt8.ofNat b.toNat]) (W.alloc (.cells #[.int .u8 a, .int .u8 b] 5)) :=
  conv_two 60 9 5 Try.underlying60 Try.underlying5 Try.underlying9 _ a b g (by subst hg; exact heap_alloc_new _ _)
theorem leB2 (n : Nat) (h : n < 65536) : [UInt8.ofNat ((n : Int) % 256).toNat, UInt8.ofNat ((n : Int) / 256).toNat] = leB 2 n := by
  simp only [leB]
  rw [show n / 256 % 256 = n / 256 by omega]
  congr 2
set_option maxHeartbeats 400000 in
theorem two_any (n : Nat) (w : World) (h : n < 65536) :
    Calls Try.prog 30 #[w16 n] w fun e w' => e = .returned (str (leB 2 n)) ∧ w' = w.alloc (.cells (twoC n) 5) := by
  have hcv := conv_two_new
  go_enter Try.func30, Try.ntmps30
  go_wp2
  go_ret
  refine ⟨?_, rfl⟩
  rw [← leB2 n h]
  rfl
theorem bl_at (x : Im) (a b c d e : Value) (ha : a = w16 x.d0) (hb : b = w16 x.d1) (hc : c = w16 x.d2) (hd : d = w16 x.d3) (he : e = w16 x.i) : ∀ j m : Nat, x.bl[j]? = some m → #[a, b, c, d, e][j]? = some (w16 m) := fun j m hj => by
  subst ha hb hc hd he
  match j, hj with
  | 0, hj | 1, hj | 2, hj | 3, hj | 4, hj => simp [Im.bl] at hj; subst hj; rfl
  | j + 5, hj => simp [Im.bl] at hj
set_option maxHeartbeats 1000000 in
theorem blocks_any (x : Im) (w : World) :
    Calls Try.prog 31 #[x.v] w fun e w' => ∃ v, e = .returned v ∧ U16s w' v x.bl ∧ Below w.heap.size w w' := by
  go_enter Try.func31, Try.ntmps31
  go_wp2
  go_ret
  refine ⟨_, rfl, u16s_row (heap_new _ _ _ (by simp)) rfl (bl_at x _ _ _ _ _ rfl rfl rfl rfl rfl), ?_⟩
  exact (((Below.refl _ _).alloc (Nat.le_refl _) _).alloc (by simp) _).alloc (by simp; omega) _
end Go.Proofs.Ytpipjjngffajlaa
