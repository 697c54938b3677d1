/- Layer 7 (inode): pages, what is too short or too long, the blocks that an inode names. -/
import Derived.Test.YtdddennhdbmolaaGreatM11
import Derived.Laws.IdiomCopy
import Derived.BigRegion
import Derived.Deep.MidRow
import Derived.Maps.OwnSet
import Derived.Lib.SlKeysI
import Derived.Carry
namespace Go.Proofs.YtdddennhdbmolaaGreat
open Go.RowKit
set_option linter.unusedVariables false
set_option linter.unusedSimpArgs false
set_option maxRecDepth 10000
abbrev w16 (n : Nat) : Value := .int .u16 (n : Int)
/-- An inode as a value. -/
abbrev Im.v (x : Im) : Value := .agg #[.int .u8 x.k, w16 x.n, .int .u32 x.z, w16 x.d0, w16 x.d1, w16 x.d2, w16 x.d3, w16 x.i]
/-- Five blocks as a value. -/
abbrev fiveV (a b c d e : Nat) : Value := .agg #[w16 a, w16 b, w16 c, w16 d, w16 e]
/-- 'copy' of cells that lie in a row, to the head of a block. -/
theorem copy_cells (W : World) (b g o dl dc sl sc : Nat) (cs : List Value) (hn : cs.length = Nat.min sl dl) (h1 : ∀ v ∈ cs, v.oneCell' = true)
    (hsrc : ∀ j v, cs[j]? = some v → W.cell? ⟨g, o + j, none⟩ = some v) (old : Array Value) (t : TypeId) (hb : W.heap[b]? = some (.cells old t (0, 0))) (hsz : cs.length ≤ old.size) :
    (Builtin.copy_ #[37, 37] 3 #[.slice (some ⟨b, 0, none⟩) dl dc, .slice (some ⟨g, o, none⟩) sl sc]).run Tryz.prog W = .ok (goInt cs.length) (W.setCells b 0 cs) :=
  run_copy_cells W 37 37 3 24 b 0 dl dc ⟨g, o, none⟩ sl sc cs Tryz.underlying37 (by kernel_rfl) hn
    (fun j v hj => by
      have := hsrc j v hj
      unfold Addr.add
      split
      · rename_i e; subst e; simpa using this
      · exact this)
    (fun j hj => by
      rw [cell_of_row W b (0 + j) old t (0, 0) hb]
      simp; omega)
    (fun j hj => frozen_of_row W b _ old t hb) h1
set_option maxHeartbeats 400000 in
theorem sized_short (l : List UInt8) (n : Nat) (w : World) (hs : l.length ≤ maxLen) (hn : n ≤ 1000) (h : l.length < n) :
    Calls Tryz.prog 70 #[str l, .int .i64 n] w fun e w' => e = .returned (.int .i64 6) ∧ w' = w := by
  unfold maxLen at hs
  go_enter Tryz.func70, Tryz.ntmps70
  go_wp2
  go_ret
  exact ⟨rfl, rfl⟩
set_option maxHeartbeats 400000 in
theorem sized_long (l : List UInt8) (n : Nat) (w : World) (hs : l.length ≤ maxLen) (hn : n ≤ 1000) (h : n < l.length) :
    Calls Tryz.prog 70 #[str l, .int .i64 n] w fun e w' => e = .returned (.int .i64 7) ∧ w' = w := by
  unfold maxLen at hs
  go_enter Tryz.func70, Tryz.ntmps70
  go_wp2
  go_ret
  exact ⟨rfl, rfl⟩
set_option maxHeartbeats 400000 in
theorem sized_ok (l : List UInt8) (n : Nat) (w : World) (hn : n ≤ 1000) (h : l.length = n) :
    Calls Tryz.prog 70 #[str l, .int .i64 n] w fun e w' => e = .returned (.int .i64 0) ∧ w' = w := by
  go_enter Tryz.func70, Tryz.ntmps70
  go_wp2
  go_ret
  exact ⟨rfl, rfl⟩
theorem four_src {W : World} {g o : Nat} {a b c d : Value} (h0 : W.cell? ⟨g, o, none⟩ = some a) (h1 : W.cell? ⟨g, o + 1, none⟩ = some b) (h2 : W.cell? ⟨g, o + 2, none⟩ = some c) (h3 : W.cell? ⟨g, o + 3, none⟩ = some d) :
    ∀ j v, [a, b, c, d][j]? = some v → W.cell? ⟨g, o + j, none⟩ = some v := fun j v hj => by
  match j, hj with
  | 0, hj => simp at hj; subst hj; exact h0
  | 1, hj => simp at hj; subst hj; exact h1
  | 2, hj => simp at hj; subst hj; exact h2
  | 3, hj => simp at hj; subst hj; exact h3
/-- Five noughts in a new block. -/
abbrev five0 : Array Value := #[.int .u16 0, .int .u16 0, .int .u16 0, .int .u16 0, .int .u16 0]
/-- Cells put into a row from place o on. -/
def fillA (c : Array Value) : Nat → List Value → Array Value
  | _, [] => c
  | o, v :: r => fillA (c.setIfInBounds o v) (o + 1) r
theorem setCells_new (w : World) (t : TypeId) : ∀ (cs : List Value) (o : Nat) (c : Array Value), (w.alloc (.cells c t)).setCells w.heap.size o cs = w.alloc (.cells (fillA c o cs) t)
  | [], _, _ => rfl
  | v :: r, o, c => by rw [World.setCells, World.setCell_alloc_new, setCells_new w t r (o + 1), fillA]
theorem setCells_drew (b : Nat) : ∀ (cs : List Value) (o : Nat) (w : World), w.drew.setCells b o cs = (w.setCells b o cs).drew
  | [], _, _ => rfl
  | v :: r, o, w => by
    rw [World.setCells, World.setCells, ← setCells_drew b r (o + 1)]
    rfl
theorem cell_alloc_old {W : World} (o : Obj) {a : Addr} {v : Value} (h : W.cell? a = some v) : (W.alloc o).drew.cell? a = some v :=
  ((((Below.refl _ _).alloc (Nat.le_refl _) o).drew).cell (p := a) (World.block_lt_of_cell? W _ h)).trans h
theorem run_copy_new (W : World) (g o dl dc sl sc n : Nat) (t : TypeId) (cs : List Value) (old : Array Value) (hn : cs.length = Nat.min sl dl) (h1 : ∀ v ∈ cs, v.oneCell' = true)
    (hsrc : ∀ j v, cs[j]? = some v → W.cell? ⟨g, o + j, none⟩ = some v) (hsz : cs.length ≤ old.size) (hW : n = W.heap.size) :
    (Builtin.copy_ #[37, 37] 3 #[.slice (some ⟨n, 0, none⟩) dl dc, .slice (some ⟨g, o, none⟩) sl sc]).run Tryz.prog (W.alloc (.cells old t)).drew = .ok (goInt cs.length) (W.alloc (.cells (fillA old 0 cs) t)).drew := by
  subst hW
  rw [copy_cells (W.alloc (.cells old t)).drew W.heap.size g o dl dc sl sc cs hn h1 (fun j v hj => cell_alloc_old _ (hsrc j v hj)) old t (heap_alloc_new W _) hsz, setCells_drew, setCells_new]
theorem heap_mid (w : World) (A B C : Obj) : (((w.alloc A).alloc B).alloc C).drew.heap[w.heap.size + 1]? = some B := by
  show (((w.alloc A).alloc B).alloc C).heap[w.heap.size + 1]? = some B
  rw [heap_alloc_old _ _ (by simp)]
  have := heap_alloc_new (w.alloc A) B
  simpa using this
/-- What is kept of five blocks where n of them are. -/
def keptL (n : Nat) (a b c d e : Nat) : Value := fiveV (if 0 < n then a else 0) (if 1 < n then b else 0) (if 2 < n then c else 0) (if 3 < n then d else 0) (if 4 < n then e else 0)
theorem five_src {W : World} {g : Nat} {a b c d e : Value} (h0 : W.cell? ⟨g, 0, none⟩ = some a) (h1 : W.cell? ⟨g, 1, none⟩ = some b) (h2 : W.cell? ⟨g, 2, none⟩ = some c) (h3 : W.cell? ⟨g, 3, none⟩ = some d) (h4 : W.cell? ⟨g, 4, none⟩ = some e) (n : Nat) :
    ∀ j v, ([a, b, c, d, e].take n)[j]? = some v → W.cell? ⟨g, 0 + j, none⟩ = some v := fun j v hj => by
  rw [Nat.zero_add]
  rw [List.getElem?_take] at hj
  split at hj
  · match j, hj with
    | 0, hj => simp at hj; subst hj; exact h0
    | 1, hj => simp at hj; subst hj; exact h1
    | 2, hj => simp at hj; subst hj; exact h2
    | 3, hj => simp at hj; subst hj; exact h3
    | 4, hj => simp at hj; subst hj; exact h4
    | j + 5, hj => simp at hj
  · cases hj
end Go.Proofs.YtdddennhdbmolaaGreat
/- Layer 7 (inode), the document's own helpers: two, at, blocks. -/
namespace Go.Proofs.YtdddennhdbmolaaGreat
open Go.RowKit
set_option linter.unusedVariables false
set_option linter.unusedSimpArgs false
set_option maxRecDepth 10000
/-- The slice v is the numbers l. -/
def U16s (w : World) (v : Value) (l : List Nat) : Prop :=
  ∃ A c, v = .slice A l.length c ∧ ∀ (j n : Nat), l[j]? = some n → ∃ a : Addr, A = some a ∧ w.cell? (a.add j) = some (w16 n)
theorem U16s.below {w w' : World} {v : Value} {l : List Nat} (h : U16s w v l) (hb : Below w.heap.size w w') : U16s w' v l := by
  obtain ⟨A, c, hv, hc⟩ := h
  refine ⟨A, c, hv, fun j n hj => ?_⟩
  obtain ⟨a, hA, hcell⟩ := hc j n hj
  exact ⟨a, hA, (hb.cell (World.block_lt_of_cell? w _ hcell)).trans hcell⟩
theorem U16s.drew {w : World} {v : Value} {l : List Nat} (h : U16s w v l) : U16s w.drew v l := h
theorem u16s_row {w : World} {g n c : Nat} {l : List Nat} {t : TypeId} {cs : Array Value} {fr : Nat × Nat} (hg : w.heap[g]? = some (.cells cs t fr)) (hl : l.length = n) (hc : ∀ j m : Nat, l[j]? = some m → cs[j]? = some (w16 m)) : U16s w (.slice (some ⟨g, 0, none⟩) n c) l := by
  subst hl
  refine ⟨some ⟨g, 0, none⟩, c, rfl, fun j m hj => ⟨_, rfl, ?_⟩⟩
  have h := cell_of_row w g j cs t fr hg
  have e : (⟨g, 0, none⟩ : Addr).add j = ⟨g, j, none⟩ := by unfold Addr.add; split <;> simp_all
  rw [e, h, hc j m hj]
theorem num2_bytes (l : List UInt8) (j : Nat) (h : 2 * j + 2 ≤ l.length) : num2 l j = (l[2 * j]'(by omega)).toNat + 256 * (l[2 * j + 1]'(by omega)).toNat := by
  unfold num2
  have e : (l.drop (2 * j)).take 2 = [l[2 * j]'(by omega), l[2 * j + 1]'(by omega)] := by
    rw [List.drop_eq_getElem_cons (by omega), List.take_succ_cons, List.drop_eq_getElem_cons (by omega), List.take_succ_cons, List.take_zero]
  rw [e]
  simp [leV]
theorem byte_u16 (b : UInt8) : IntKind.u16.wrap (b.toNat : Int) = (b.toNat : Int) := by have := b.toNat_lt; exact IntWalk.u16_in _ (by omega)
theorem or16 (a b : UInt8) : bits .or .u16 (a.toNat : Int) ((b.toNat : Int) * 256) = ((a.toNat + 256 * b.toNat : Nat) : Int) := by
  have ha := a.toNat_lt
  have hb := b.toNat_lt
  have e : (b.toNat : Int) * 256 = ((256 * b.toNat : Nat) : Int) := by omega
  rw [e, u16_or_nat _ _ (by omega) (by omega), Nat.or_comm, nat_join 8 _ _ (by omega) (by omega), Nat.add_comm]
theorem or16w (a b : UInt8) : bits .or .u16 (a.toNat : Int) (IntKind.u16.wrap ((b.toNat : Int) * 256)) = ((a.toNat + 256 * b.toNat : Nat) : Int) := by
  have hb := b.toNat_lt
  rw [IntWalk.u16_in _ (by omega), or16]
set_option maxHeartbeats 400000 in
theorem at_byte (l : List UInt8) (k : Nat) (x y : UInt8) (w : World) (h2 : k + 1 < l.length) (hl : l.length ≤ 1000000) (hx : l[k] = x) (hy : l[k + 1] = y) :
    Calls Tryz.prog 113 #[str l, .int .i64 k] w fun e w' => e = .returned (w16 (x.toNat + 256 * y.toNat)) ∧ ∃ n, w' = w.drewN n := by
  have ho := or16 x y
  have ho2 := or16w x y
  have hwx := byte_u16 x
  have hwy := byte_u16 y
  have h1 : k < l.length := by omega
  go_enter Tryz.func113, Tryz.ntmps113
  go_wp2_with fail
  go_quiet (fail)
  go_wp2
  go_ret
  exact ⟨congrArg (fun n => Ending.returned (.int .u16 n)) (by simp), _, rfl⟩
theorem twoAt_any (l : List UInt8) (j : Nat) (i : Int) (hi : i = ((2 * j : Nat) : Int)) (w : World) (h : 2 * j + 2 ≤ l.length) (hl : l.length ≤ 1000000) :
    Calls Tryz.prog 113 #[str l, .int .i64 i] w fun e w' => e = .returned (w16 (num2 l j)) ∧ ∃ n, w' = w.drewN n := by
  subst hi
  rw [num2_bytes l j h]
  exact at_byte l (2 * j) _ _ w (by omega) hl rfl rfl
/-- 'string([]byte{a, b})'. -/
theorem conv_two {P : Program} (src dst e : TypeId) (hs : P.underlying src = some (.slice e)) (he : P.underlying e = some (.int .u8)) (hd : P.underlying dst = some .string) (W : World) (a b : Int) (g : Nat) (hg : W.heap[g]? = some (.cells #[.int .u8 a, .int .u8 b] e (0, 0))) :
    (convert src dst (.slice (some ⟨g, 0, none⟩) 2 2)).run P W = .ok (str [UInt8.ofNat a.toNat, UInt8.ofNat b.toNat]) W := by
  rw [run_convert_bytes_string _ src dst e _ 2 2 hs he hd]
  have hl := run_loadCells_list (P := P) W ⟨g, 0, none⟩ [.int .u8 a, .int .u8 b] (fun j v hj => by
    match j, hj with
    | 0, hj => simp at hj; subst hj; exact cell_of_row W g 0 _ e (0, 0) hg
    | 1, hj => simp at hj; subst hj; exact cell_of_row W g 1 _ e (0, 0) hg)
  rw [run_bytesToString _ _ 2 2 [a, b] (by simpa using hl)]
  rfl
/-- The two bytes of a number, as 'two' lays them. -/
def twoC (n : Nat) : Array Value := #[.int .u8 ((n : Int) % 256), .int .u8 ((n : Int) / 256)]
theorem conv_two_new (W : World) (a b : Int) (g : Nat) (hg : g = W.heap.size) : (convert 89 9 (.slice (some ⟨g, 0, none⟩) 2 2)).run Tryz.prog (W.alloc (.cells #[.int .u8 a, .int .u8 b] 5)) = .ok (str [UInt8.ofNat a.toNat, UInt8.ofNat b.toNat]) (W.alloc (.cells #[.int .u8 a, .int .u8 b] 5)) :=
  conv_two 89 9 5 Tryz.underlying89 Tryz.underlying5 Tryz.underlying9 _ a b g (by subst hg; exact heap_alloc_new _ _)
theorem leB2 (n : Nat) (h : n < 65536) : [UInt8.ofNat ((n : Int) % 256).toNat, UInt8.ofNat ((n : Int) / 256).toNat] = leB 2 n := by
  simp only [leB]
  rw [show n / 256 % 256 = n / 256 by omega]
  congr 2
set_option maxHeartbeats 400000 in
theorem two_any (n : Nat) (w : World) (h : n < 65536) :
    Calls Tryz.prog 93 #[w16 n] w fun e w' => e = .returned (str (leB 2 n)) ∧ w' = w.alloc (.cells (twoC n) 5) := by
  have hcv := conv_two_new
  go_enter Tryz.func93, Tryz.ntmps93
  go_wp2
  go_ret
  refine ⟨?_, rfl⟩
  rw [← leB2 n h]
  rfl
theorem bl_at (x : Im) (a b c d e : Value) (ha : a = w16 x.d0) (hb : b = w16 x.d1) (hc : c = w16 x.d2) (hd : d = w16 x.d3) (he : e = w16 x.i) : ∀ j m : Nat, x.bl[j]? = some m → #[a, b, c, d, e][j]? = some (w16 m) := fun j m hj => by
  subst ha hb hc hd he
  match j, hj with
  | 0, hj | 1, hj | 2, hj | 3, hj | 4, hj => simp [Im.bl] at hj; subst hj; rfl
  | j + 5, hj => simp [Im.bl] at hj
end Go.Proofs.YtdddennhdbmolaaGreat
/- A map with small numbers of any kind for keys, by what stands at each: looked up, stored into, made. -/
namespace Go.Proofs.YtdddennhdbmolaaGreat
open Go.RowKit Go.Maps
set_option linter.unusedVariables false
set_option linter.unusedSimpArgs false
set_option maxRecDepth 10000
/-- An element reads as itself. -/
def heldQ (v : Value) : Option (DataW Value × List MemPlace) := some (.held v, [])
/-- Block m is a map of type t; at key i, below n, stands what f says. -/
def QMap (P : Program) (k : TypeId) (q : IntKind) (W : World) (m n : Nat) (f : Nat → Option Value) : Prop :=
  ∃ D : DataW Value, W.ownsMap P k heldQ m (Maps.size D) D ∧ (∀ l, Maps.has D l = true ↔ ∃ i : Nat, i < n ∧ l = .int q (i : Int) ∧ (f i).isSome = true) ∧
    ∀ i v, i < n → f i = some v → ∀ z, D.atKey (.int q (i : Int)) z = .held v
section
variable {P : Program} {q : IntKind} {t k e : TypeId} {W : World} {m n : Nat} {f : Nat → Option Value}
def FitsQ (q : IntKind) (n : Nat) : Prop := ∀ i : Nat, i < n → (Lit.int q (i : Int)).wf = true
theorem fits_u16 : FitsQ .u16 65536 := fun i h => WalkArith.wf_u16 (by omega)
theorem QMap.lt (h : QMap P k q W m n f) : m < W.heap.size := by
  obtain ⟨D, hD, _⟩ := h
  exact hD.lt
theorem QMap.isMap (h : QMap P k q W m n f) : ∃ es c, W.heap[m]? = some (.map es c) := by
  obtain ⟨D, ⟨es, c, hb, _⟩, _⟩ := h
  exact ⟨es, c, hb⟩
theorem QMap.kept {W' : World} (h : QMap P k q W m n f) (hb : W'.heap[m]? = W.heap[m]?) : QMap P k q W' m n f := by
  obtain ⟨D, ⟨es, c, h1, h2⟩, h3⟩ := h
  exact ⟨D, ⟨es, c, hb.trans h1, h2⟩, h3⟩
theorem QMap.made (W : World) (P : Program) (k : TypeId) (q : IntKind) (n : Nat) : QMap P k q (W.alloc (.map #[] 0)) W.heap.size n (fun _ => none) :=
  ⟨.map [], World.ownsMap_made W P k heldQ, fun l => by simp [Maps.has], fun i v _ h => by cases h⟩
theorem QMap.congr {g : Nat → Option Value} (h : QMap P k q W m n f) (hg : ∀ i, i < n → f i = g i) : QMap P k q W m n g := by
  obtain ⟨D, h1, h2, h3⟩ := h
  refine ⟨D, h1, fun l => (h2 l).trans ?_, fun i v hi hv => h3 i v hi (by rw [hg i hi]; exact hv)⟩
  constructor
  · rintro ⟨i, hi, hl, hs⟩; exact ⟨i, hi, hl, by rw [← hg i hi]; exact hs⟩
  · rintro ⟨i, hi, hl, hs⟩; exact ⟨i, hi, hl, by rw [hg i hi]; exact hs⟩
theorem QMap.look (h : QMap P k q W m n f) (hk : P.underlying k = some (.int q)) (ht : P.underlying t = some (.map k e)) {z : Value} (hz : (zeroValue e).run P W = .ok z W) (hq : FitsQ q n) {i : Nat} (hi : i < n) :
    (Instr.lookup t (.map (some m)) (.int q (i : Int)) false).run P W = .ok ((f i).getD z) W := by
  obtain ⟨D, h1, h2, h3⟩ := h
  obtain ⟨v, ps, hrun, hv⟩ := h1.lookup (int_keyed hk) ht hz (zd := .held z) (zp := []) rfl (keyOf_int_mk hk (hq i hi))
  rw [hrun]
  simp only [heldQ, Option.some.injEq, Prod.mk.injEq] at hv
  cases hf : f i with
  | some u =>
    rw [h3 i u hi hf] at hv
    cases hv.1
    rfl
  | none =>
    have hh : Maps.has D (.int q (i : Int)) = false := by
      cases hc : Maps.has D (.int q (i : Int)) with
      | false => rfl
      | true =>
        obtain ⟨j, _, hj, hs⟩ := (h2 _).1 hc
        simp only [Lit.int.injEq, true_and] at hj
        obtain rfl : i = j := by omega
        rw [hf] at hs; cases hs
    rw [Maps.atKey_of_not_has hh] at hv
    cases hv.1
    rfl
theorem nodup_boundQ : ∀ (n : Nat) (l : List Nat), l.Nodup → (∀ x ∈ l, x < n) → l.length ≤ n
  | 0, [], _, _ => Nat.le_refl _
  | 0, x :: _, _, h => absurd (h x (by simp)) (by omega)
  | n + 1, l, hn, h => by
    have h1 := nodup_boundQ n (l.erase n) (hn.erase n) (fun x hx => by
      have h2 := (hn.mem_erase_iff).1 hx
      have := h x h2.2
      have := h2.1
      omega)
    by_cases hm : n ∈ l
    · have := List.length_erase_of_mem hm
      omega
    · rw [List.erase_of_not_mem hm] at h1
      omega
theorem keyOf_q (hk : P.underlying k = some (.int q)) {key : Value} {kl : Lit} (h : keyOf P k key = some kl) : ∃ x : Int, kl = .int q x := by
  rw [keyOf_int hk] at h
  cases key <;> simp [mapKey, hk] at h
  exact ⟨_, h.2.symm⟩
theorem QMap.size_le {D : DataW Value} (h1 : W.ownsMap P k heldQ m (Maps.size D) D) (hk : P.underlying k = some (.int q)) (h2 : ∀ l, Maps.has D l = true ↔ ∃ i : Nat, i < n ∧ l = .int q (i : Int) ∧ (f i).isSome = true) : Maps.size D ≤ n := by
  obtain ⟨es, rfl, hpw⟩ := h1.tidy (int_keyed hk)
  have hkey : ∀ p ∈ es, ∃ i : Nat, i < n ∧ p.1 = .int q (i : Int) := by
    intro p hp
    obtain ⟨es', he, hko⟩ := h1.keysOf
    cases he
    obtain ⟨v, hv⟩ := hko p hp
    obtain ⟨x, hx⟩ := keyOf_q hk hv
    have hh : Maps.has (DataW.map es) p.1 = true := by
      rw [Maps.has_eq, List.any_eq_true]
      exact ⟨p, hp, by rw [hx]; simp [Lit.sameKey]⟩
    obtain ⟨i, hi, hl, _⟩ := (h2 _).1 hh
    exact ⟨i, hi, hl⟩
  have h3 := nodup_boundQ n (es.map fun p => (Go.intOf p.1).toNat) (by
    refine List.pairwise_map.2 (hpw.imp_of_mem fun {p q} hp hq hne e => hne ?_)
    obtain ⟨a, _, ha⟩ := hkey p hp
    obtain ⟨b, _, hb⟩ := hkey q hq
    rw [ha, hb] at e ⊢
    simp only [Go.intOf, Int.toNat_natCast] at e
    rw [e]) (by
    intro x hx
    obtain ⟨p, hp, rfl⟩ := List.mem_map.1 hx
    obtain ⟨a, han, ha⟩ := hkey p hp
    rw [ha]
    simpa [Go.intOf] using han)
  simpa [Maps.size] using h3
/-- What f says, but v at i. -/
def updQ {α : Type} (f : Nat → α) (i : Nat) (v : α) : Nat → α := fun j => if j = i then v else f j
@[simp] theorem updQ_same {α : Type} (f : Nat → α) (i : Nat) (v : α) : updQ f i v i = v := by simp [updQ]
theorem updQ_other {α : Type} (f : Nat → α) {i j : Nat} (v : α) (h : j ≠ i) : updQ f i v j = f j := by simp [updQ, h]
theorem resizeQ {D : DataW Value} {b : Nat} (h : W.ownsMap P k heldQ m b D) : W.ownsMap P k heldQ m (Maps.size D) D := by
  obtain ⟨es, c, hb, F, _, rfl⟩ := h
  exact ⟨es, c, hb, F, by simp [Maps.size, length_sorted], rfl⟩
theorem QMap.store (h : QMap P k q W m n f) (hk : P.underlying k = some (.int q)) (ht : P.underlying t = some (.map k e)) (hn : n ≤ 1048576) (hq : FitsQ q n) {i : Nat} (hi : i < n) (v : Value) :
    ∃ W', (Instr.mapUpdate t (.map (some m)) (.int q (i : Int)) v).run P W = .ok () W' ∧ QMap P k q W' m n (updQ f i (some v)) ∧ W.grownBy W' (some m) := by
  obtain ⟨D, h1, h2, h3⟩ := h
  have hs := QMap.size_le h1 hk h2
  obtain ⟨W', hrun, ho, hg⟩ := h1.update (int_keyed hk) ht (by unfold maxLen; omega) (keyOf_int_mk hk (hq i hi)) (val := v) (d := .held v) (ps := []) rfl
  have hM := h1.isMap
  have hkl : WideAt.IsKeyLit (.int q (i : Int)) := trivial
  refine ⟨W', hrun, ⟨_, resizeQ ho, fun l => ?_, fun j u hj hu z => ?_⟩, hg⟩
  · by_cases hl : l = .int q (i : Int)
    · subst hl
      rw [Maps.has_put_same hM hkl]
      simp only [true_iff]
      exact ⟨i, hi, rfl, by simp⟩
    · rw [Maps.has_put_other hl, h2]
      constructor
      · rintro ⟨j, hj, rfl, hs⟩
        have : j ≠ i := fun e => hl (by rw [e])
        exact ⟨j, hj, rfl, by rw [updQ_other _ _ this]; exact hs⟩
      · rintro ⟨j, hj, rfl, hs⟩
        have : j ≠ i := fun e => hl (by rw [e])
        rw [updQ_other _ _ this] at hs
        exact ⟨j, hj, rfl, hs⟩
  · by_cases e : j = i
    · subst e
      rw [Maps.atKey_put_same hM hkl]
      simp only [updQ_same, Option.some.injEq] at hu
      rw [hu]
    · rw [Maps.atKey_put_other (by intro e2; simp only [Lit.int.injEq, true_and] at e2; omega)]
      rw [updQ_other _ _ e] at hu
      exact h3 j u hj hu z
end
end Go.Proofs.YtdddennhdbmolaaGreat
/- Layer 7 (inode): which blocks are there twice. -/
namespace Go.Proofs.YtdddennhdbmolaaGreat
open Go.RowKit
set_option linter.unusedVariables false
set_option linter.unusedSimpArgs false
set_option maxRecDepth 10000
/-- The number in a slot: for a loop's measure. -/
def nOf : Value → Int | .int _ n => n | _ => 0
theorem once_nil : once [] := by decide
theorem once_snoc (p : List Nat) (b : Nat) : once (p ++ [b]) ↔ once p ∧ (b = 0 ∨ b ∉ p) := by
  unfold once
  rw [List.filter_append]
  by_cases h : b = 0
  · subst h; simp
  · have e : List.filter (· != 0) [b] = [b] := by simp [h]
    rw [e, List.nodup_append]
    simp only [List.nodup_cons, List.not_mem_nil, not_false_eq_true, List.nodup_nil, and_self, true_and, List.mem_singleton, forall_eq, List.mem_filter, bne_iff_ne, ne_eq, and_imp]
    constructor
    · rintro ⟨h1, h2⟩
      refine ⟨h1, .inr fun hm => h2 b hm h rfl⟩
    · rintro ⟨h1, h2⟩
      refine ⟨h1, fun a ha _ e => ?_⟩
      subst e
      rcases h2 with h2 | h2
      · exact h h2
      · exact h2 ha
theorem once_take {l : List Nat} (h : once l) (k : Nat) : once (l.take k) := by
  unfold once at *
  exact h.sublist ((List.take_sublist k l).filter _)
/-- How often each is there. -/
def cntV (p : List Nat) (b : Nat) : Option Value := if p.count b = 0 then none else some (.int .i64 (p.count b : Nat))
theorem cntV_get (p : List Nat) (b : Nat) : (cntV p b).getD (.int .i64 0) = .int .i64 (p.count b : Nat) := by
  unfold cntV
  split
  · rename_i h; rw [h]; rfl
  · rfl
theorem cntV_snoc (p : List Nat) (b : Nat) : updQ (cntV p) b (some (.int .i64 ((p.count b + 1 : Nat) : Int))) = cntV (p ++ [b]) := by
  funext j
  by_cases h : j = b
  · subst h
    rw [updQ_same]
    simp [cntV, List.count_append]
  · rw [updQ_other _ _ h]
    have h2 : b ≠ j := fun e => h e.symm
    simp [cntV, List.count_append, List.count_cons, h2]
end Go.Proofs.YtdddennhdbmolaaGreat
