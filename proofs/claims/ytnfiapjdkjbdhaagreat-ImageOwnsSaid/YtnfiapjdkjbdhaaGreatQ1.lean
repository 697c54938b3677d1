import Derived.Test.YtnfiapjdkjbdhaaGreatRows
import Derived.WalkKit
import Derived.WalkSpells
import Derived.WalkLawsBesides
import Derived.Below
import Derived.Lib.Hide
import Derived.Outline
import Derived.Deep.QuietTactic
import Derived.BigQuiet
import Derived.Laws.BytesString
import Derived.Laws.IdiomStrings
import Derived.Deep.WholeRow
import Derived.StillTailTactics
import Derived.BigRegion
import Derived.Laws.IdiomCopy
import Derived.Lib.AppendZeros
import Derived.OwnWalk
import Derived.Deep.RegionHeld3
namespace Go.Proofs.YtnfiapjdkjbdhaaGreat
def leB : Nat → Nat → List UInt8
  | 0, _ => []
  | n + 1, v => UInt8.ofNat (v % 256) :: leB n (v / 256)
def leV : List UInt8 → Nat
  | [] => 0
  | b :: r => b.toNat + 256 * leV r
theorem leB_length (n v : Nat) : (leB n v).length = n := by
  induction n generalizing v with
  | zero => rfl
  | succ n ih => simp [leB, ih]
theorem leV_lt (l : List UInt8) : leV l < 256 ^ l.length := by
  induction l with
  | nil => simp [leV]
  | cons b r ih =>
    have hb := b.toNat_lt
    simp only [leV, List.length_cons, Nat.pow_succ]
    omega
theorem leV_leB (n v : Nat) (h : v < 256 ^ n) : leV (leB n v) = v := by
  induction n generalizing v with
  | zero => simp at h; subst h; rfl
  | succ n ih =>
    have h1 : v / 256 < 256 ^ n := by
      rw [Nat.pow_succ] at h
      exact Nat.div_lt_of_lt_mul (by rw [Nat.mul_comm]; exact h)
    simp only [leB, leV, ih _ h1, UInt8.toNat_ofNat']
    omega
theorem leB_snoc (n v : Nat) : leB (n + 1) v = leB n v ++ [UInt8.ofNat (v / 256 ^ n % 256)] := by
  induction n generalizing v with
  | zero => simp [leB]
  | succ n ih =>
    rw [leB, ih]
    simp only [leB, List.cons_append, Nat.div_div_eq_div_mul, Nat.pow_succ]
    rw [Nat.mul_comm 256 (256 ^ n)]
theorem leB_fill (n k v : Nat) (h : k < n) : (leB k v ++ List.replicate (n - k) 0).set k (UInt8.ofNat (v / 256 ^ k % 256)) = leB (k + 1) v ++ List.replicate (n - (k + 1)) 0 := by
  rw [leB_snoc, List.set_append_right _ _ (by rw [leB_length]; omega), leB_length, Nat.sub_self]
  obtain ⟨m, hm⟩ : ∃ m, n - k = m + 1 := ⟨n - k - 1, by omega⟩
  have : n - (k + 1) = m := by omega
  rw [hm, this, List.replicate_succ, List.set_cons_zero]
  simp
theorem leV_snoc (l : List UInt8) (b : UInt8) : leV (l ++ [b]) = leV l + 256 ^ l.length * b.toNat := by
  induction l with
  | nil => simp [leV]
  | cons c r ih =>
    simp only [List.cons_append, leV, ih, List.length_cons, Nat.pow_succ, Nat.mul_add]
    rw [Nat.mul_comm (256 ^ r.length) 256, Nat.mul_assoc]
    omega
theorem leV_take_succ (l : List UInt8) (k : Nat) (h : k < l.length) : leV (l.take (k + 1)) = leV (l.take k) + 256 ^ k * (l[k]).toNat := by
  rw [List.take_succ_eq_append_getElem h, leV_snoc, List.length_take, Nat.min_eq_left (by omega)]
theorem pow256 (k : Nat) : 256 ^ k = 2 ^ (8 * k) := by
  rw [Nat.pow_mul]
def partsL (n : Nat) : Nat → List UInt8 → List (List UInt8)
  | 0, _ => []
  | f + 1, l => if l = [] then [] else l.take n :: partsL n f (l.drop n)
theorem partsL_nil (n f : Nat) : partsL n f [] = [] := by cases f <;> simp [partsL]
theorem partsL_step (n f : Nat) (l : List UInt8) (hn : 0 < n) (hf : l.length ≤ f) (hl : l ≠ []) : partsL n f l = l.take n :: partsL n f (l.drop n) := by
  have key : ∀ f (l : List UInt8), l.length ≤ f → ∀ g, l.length ≤ g → partsL n f l = partsL n g l := by
    intro f
    induction f with
    | zero =>
      intro l h g _
      have : l = [] := List.eq_nil_of_length_eq_zero (by omega)
      subst this
      rw [partsL_nil, partsL_nil]
    | succ f ih =>
      intro l h g hg
      by_cases hl : l = []
      · subst hl; rw [partsL_nil, partsL_nil]
      · have hp : 0 < l.length := List.length_pos_iff.2 hl
        cases g with
        | zero => omega
        | succ g =>
          simp only [partsL, hl, if_false]
          rw [ih (l.drop n) (by simp; omega) g (by simp; omega)]
  have hp : 0 < l.length := List.length_pos_iff.2 hl
  cases f with
  | zero => omega
  | succ f =>
    rw [partsL, if_neg hl]
    rw [key f (l.drop n) (by simp; omega) (f + 1) (by simp; omega)]
theorem partsL_flat (n : Nat) (hn : 0 < n) : ∀ f (l : List UInt8), l.length ≤ f → (partsL n f l).flatten = l := by
  intro f
  induction f with
  | zero => intro l h; have : l = [] := List.eq_nil_of_length_eq_zero (by omega); subst this; rfl
  | succ f ih =>
    intro l h
    by_cases hl : l = []
    · subst hl; rw [partsL_nil]; rfl
    · have hp : 0 < l.length := List.length_pos_iff.2 hl
      rw [partsL, if_neg hl, List.flatten_cons, ih _ (by simp; omega), List.take_append_drop]
theorem partsL_each (n : Nat) (hn : 0 < n) : ∀ f (l : List UInt8), l.length ≤ f → ∀ k (h : k < (partsL n f l).length),
    (partsL n f l)[k] ≠ [] ∧ ((partsL n f l)[k]).length ≤ n ∧ (k + 1 < (partsL n f l).length → ((partsL n f l)[k]).length = n) := by
  intro f
  induction f with
  | zero => intro l _ k h; simp [partsL] at h
  | succ f ih =>
    intro l hl k h
    by_cases h0 : l = []
    · subst h0; simp [partsL_nil] at h
    · have hp : 0 < l.length := List.length_pos_iff.2 h0
      have he : partsL n (f + 1) l = l.take n :: partsL n f (l.drop n) := by rw [partsL, if_neg h0]
      simp only [he] at h ⊢
      cases k with
      | zero =>
        refine ⟨?_, by simp; omega, ?_⟩
        · intro e
          simp only [List.getElem_cons_zero, List.take_eq_nil_iff] at e
          rcases e with e | e
          · omega
          · exact h0 e
        · intro h2
          simp only [List.getElem_cons_zero, List.length_take]
          by_cases h3 : n ≤ l.length
          · omega
          · have hd : partsL n f (l.drop n) = [] := by rw [List.drop_of_length_le (by omega), partsL_nil]
            simp [hd] at h2
      | succ k =>
        have h' : k < (partsL n f (l.drop n)).length := by simpa using h
        have := ih (l.drop n) (by simp; omega) k h'
        simpa using this
end Go.Proofs.YtnfiapjdkjbdhaaGreat
/- Where things lie on a disk: plain mathematics, no program. -/
namespace Go.Proofs.YtnfiapjdkjbdhaaGreat
structure Gm where
  i : Nat
  b : Nat
  j : Nat
deriving DecidableEq
def Gm.ok (G : Gm) : Prop := (2 ≤ G.i ∧ G.i ≤ 256) ∧ (8 ≤ G.b ∧ G.b ≤ 1024) ∧ (40 ≤ G.j ∧ G.j ≤ 256)
instance (G : Gm) : Decidable G.ok := by unfold Gm.ok; exact inferInstance
def Gm.cnt (G : Gm) : Nat → Nat
  | 0 => 1
  | 1 => G.j
  | 2 => (G.i + 512) / 512
  | 3 => (G.b + 512) / 512
  | 4 => (G.i + 1) / 2
  | 5 => G.b
  | _ => 0
def Gm.off (G : Gm) : Nat → Nat
  | 0 => 0
  | p + 1 => G.off p + G.cnt p
theorem Gm.off_succ (G : Gm) (p : Nat) : G.off (p + 1) = G.off p + G.cnt p := rfl
theorem Gm.cnt_pos {G : Gm} (h : G.ok) (p : Nat) (hp : p < 6) : 1 ≤ G.cnt p := by
  unfold Gm.ok at h
  match p, hp with
  | 0, _ | 1, _ | 2, _ | 3, _ | 4, _ | 5, _ => simp only [Gm.cnt]; omega
theorem Gm.cnt_le {G : Gm} (h : G.ok) (p : Nat) : G.cnt p ≤ 1024 := by
  unfold Gm.ok at h
  match p with
  | 0 | 1 | 2 | 3 | 4 | 5 => simp only [Gm.cnt]; omega
  | p + 6 => simp [Gm.cnt]
theorem Gm.off_mono (G : Gm) {p q : Nat} (h : p ≤ q) : G.off p ≤ G.off q := by
  induction q with
  | zero => have : p = 0 := by omega
            subst this; exact Nat.le_refl _
  | succ q ih =>
    rcases Nat.lt_or_ge p (q + 1) with h1 | h1
    · exact Nat.le_trans (ih (by omega)) (by rw [Gm.off_succ]; omega)
    · have : p = q + 1 := by omega
      subst this; exact Nat.le_refl _
theorem Gm.off_le {G : Gm} (h : G.ok) (p : Nat) (hp : p ≤ 6) : G.off p ≤ 1024 * p := by
  induction p with
  | zero => simp [Gm.off]
  | succ p ih =>
    have := ih (by omega)
    have := G.cnt_le h p
    rw [Gm.off_succ]; omega
abbrev Gm.all (G : Gm) : Nat := G.off 6
def Gm.part (G : Gm) (x : Nat) : Nat → Nat → Nat
  | 0, p => p
  | n + 1, p => if x < G.off (p + 1) then p else G.part x n (p + 1)
theorem Gm.part_at (G : Gm) {x : Nat} (k : Nat) (hx : x < G.off k) : ∃ p, p < k ∧ G.off p ≤ x ∧ x < G.off (p + 1) := by
  induction k with
  | zero => simp [Gm.off] at hx
  | succ k ih =>
    by_cases h : x < G.off k
    · obtain ⟨p, h1, h2, h3⟩ := ih h
      exact ⟨p, by omega, h2, h3⟩
    · exact ⟨k, by omega, by omega, hx⟩
def labelL : List UInt8 := [108, 117, 110, 101, 116, 116, 101, 49]
def superL (G : Gm) : List UInt8 := labelL ++ leB 4 G.i ++ leB 4 G.b ++ leB 4 G.j ++ List.replicate 44 0
theorem superL_length (G : Gm) : (superL G).length = 64 := by simp [superL, labelL, leB_length]
end Go.Proofs.YtnfiapjdkjbdhaaGreat
namespace Go.Proofs.YtnfiapjdkjbdhaaGreat
open Go.RowKit
set_option linter.unusedVariables false
set_option linter.unusedSimpArgs false
set_option maxRecDepth 10000
abbrev str (l : List UInt8) : Value := .string ⟨l.toArray⟩
def lenOf : Value → Nat | .string b => b.size | _ => 0
theorem below_drewN {B : Nat} {a w : World} (h : Below B a w) (n : Nat) : Below B a (w.drewN n) := ⟨h.os, h.tape, h.output, h.size, h.block⟩
@[go_sem] theorem extract_mid (l : List UInt8) (a b : Nat) : (⟨l.toArray⟩ : ByteArray).extract a b = ⟨((l.take b).drop a).toArray⟩ := by
  apply ByteArray.ext
  simp [ByteArray.data_extract, List.drop_take]
theorem str_append (l r : List UInt8) : Value.string ((⟨l.toArray⟩ : ByteArray) ++ ⟨r.toArray⟩) = str (l ++ r) := congrArg Value.string (ByteArray.mk_append_mk l r)
theorem ret2_str {a b : ByteArray} {x : Value} (h : a = b) : Ending.returned (.tuple #[.string a, x]) = .returned (.tuple #[.string b, x]) := by rw [h]
theorem ret2_u64 {a b : Int} {x : Value} (h : a = b) : Ending.returned (.tuple #[.int .u64 a, x]) = .returned (.tuple #[.int .u64 b, x]) := by rw [h]
theorem u64_wrap (n : Int) (h0 : 0 ≤ n) (h1 : n < 18446744073709551616) : IntKind.u64.wrap n = n := IntWalk.u64_in n ⟨h0, by omega⟩
/- The walk's own forms: a byte of a text; bytes as numbers. -/
@[go_sem] theorem bytes_index (l : List UInt8) (i : Nat) (h : i < (⟨l.toArray⟩ : ByteArray).size) : (⟨l.toArray⟩ : ByteArray)[i]'h = l[i]'(by simpa using (show i < l.toArray.size from h)) := rfl
@[go_sem] theorem first_byte (b : UInt8) (r : List UInt8) (h : 0 < (b :: r).length) : (b :: r)[0]'h = b := rfl
@[go_sem] theorem texts_join (a b : List UInt8) : (⟨a.toArray⟩ : ByteArray) ++ ⟨b.toArray⟩ = ⟨(a ++ b).toArray⟩ := ByteArray.mk_append_mk a b
@[go_sem] theorem byte_i64 (b : UInt8) : wrap64 (b.toNat : Int) = (b.toNat : Int) := by have := b.toNat_lt; exact IntWalk.wrap64_in _ (by omega)
@[go_sem] theorem byte_u64 (b : UInt8) : IntKind.u64.wrap (b.toNat : Int) = (b.toNat : Int) := by have := b.toNat_lt; exact u64_wrap _ (by omega) (by omega)
abbrev byteCells (l : List UInt8) : Array Value := (l.map fun b => Value.int .u8 (b.toNat : Int)).toArray
theorem chain {w a b : World} (h : Below w.heap.size w a) (k : Below a.heap.size a b) : Below w.heap.size w b := h.trans (k.mono h.size)
theorem or_step (m k b : Nat) (hk : k < 8) (hb : b < 256) (hm : m < 256 ^ k) :
    bits .or .u64 (m : Int) (IntKind.u64.wrap ((b : Int) * 2 ^ (8 * k))) = ((m + 256 ^ k * b : Nat) : Int) := by
  have h1 : 256 ^ k ≤ 256 ^ 7 := Nat.pow_le_pow_right (by omega) (by omega)
  have h2 : 256 ^ k * b ≤ 256 ^ 7 * 255 := Nat.mul_le_mul h1 (by omega)
  have h3 : (256 : Nat) ^ k = 2 ^ (8 * k) := by rw [Nat.pow_mul]
  have h4 : ((b : Int) * 2 ^ (8 * k)) = ((256 ^ k * b : Nat) : Int) := by
    rw [h3]; simp [Int.mul_comm]
  rw [h4, u64_wrap _ (by omega) (by
    have : 256 ^ 7 * 255 < 18446744073709551616 := by decide
    omega)]
  have h5 : (256 : Nat) ^ 7 * 255 < 18446744073709551616 := by decide
  rw [u64_or_nat _ _ (by
    have : (256 : Nat) ^ 7 < 18446744073709551616 := by decide
    omega) (by omega), Nat.or_comm, nat_join (8 * k) _ _ (by rw [h3]; exact Nat.mul_mod_right _ _) (by rw [← h3]; exact hm), Nat.add_comm]
theorem heap_new (w : World) (o : Obj) (n : Nat) (h : n = w.heap.size) : (w.alloc o).heap[n]? = some o := by subst h; exact heap_alloc_new w o
theorem byteCells_get (l : List UInt8) (j : Nat) (h : j < l.length) : (byteCells l)[j]? = some (.int .u8 (l[j].toNat : Int)) := by
  simp [h]
theorem byteCells_set (l : List UInt8) (j : Nat) (x : UInt8) : (byteCells l).setIfInBounds j (.int .u8 (x.toNat : Int)) = byteCells (l.set j x) := by
  apply Array.ext'
  simp
theorem blk_set_byte {W : World} {g e j : Nat} {l : List UInt8} (h : W.heap[g]? = some (.cells (byteCells l) e (0, 0))) (n : Int) (x : UInt8) (hx : n = (x.toNat : Int)) :
    (W.setCell ⟨g, j, none⟩ (.int .u8 n)).heap[g]? = some (.cells (byteCells (l.set j x)) e (0, 0)) := by
  subst hx
  rw [heap_setCell_same W g j _ e _ h, byteCells_set]
theorem conv_blk {P : Program} (src dst e : TypeId) (hs : P.underlying src = some (.slice e)) (he : P.underlying e = some (.int .u8)) (hd : P.underlying dst = some .string) (W : World) (g cap : Nat) (l : List UInt8)
    (hg : W.heap[g]? = some (.cells (byteCells l) e (0, 0))) :
    (convert src dst (.slice (some ⟨g, 0, none⟩) l.length cap)).run P W = .ok (str l) W :=
  run_convert_bytes_back W src dst e ⟨g, 0, none⟩ cap l hs he hd fun j hj => by
    have := cell_of_row W g j _ e (0, 0) hg
    simp only [Addr.add, Nat.zero_add]
    by_cases h : j = 0
    · subst h; simp [this, hj]
    · simp [h, this, hj]
theorem made_bytes (n : Nat) : madeCells #[Value.int .u8 0] n = byteCells (List.replicate n 0) := by
  apply Array.ext'
  rw [toList_madeCells_one]
  simp
theorem conv_one {P : Program} (src dst e : TypeId) (hs : P.underlying src = some (.slice e)) (he : P.underlying e = some (.int .u8)) (hd : P.underlying dst = some .string) (W : World) (n : Int) (g : Nat) (hg : g = W.heap.size) :
    (convert src dst (.slice (some ⟨g, 0, none⟩) 1 1)).run P (W.alloc (.cells #[.int .u8 n] e)) = .ok (.string ⟨#[UInt8.ofNat n.toNat]⟩) (W.alloc (.cells #[.int .u8 n] e)) := by
  subst hg
  rw [run_convert_bytes_string _ src dst e _ 1 1 hs he hd]
  have hl := run_loadCells_list (P := P) (W.alloc (.cells #[.int .u8 n] e)) ⟨W.heap.size, 0, none⟩ [.int .u8 n] (fun j v hj => by
    match j, hj with
    | 0, hj => simp at hj; subst hj; simp [Addr.add])
  rw [run_bytesToString _ _ 1 1 [n] (by simpa using hl)]
  rfl
end Go.Proofs.YtnfiapjdkjbdhaaGreat
namespace Go.Proofs.YtnfiapjdkjbdhaaGreat
open Go.RowKit
set_option linter.unusedVariables false
set_option linter.unusedSimpArgs false
set_option maxRecDepth 10000
theorem wp_load_row {P : Program} {op : Oper} {a : Act} {w : World} {K : Act → World → Prop} {Q : Exit → Act → World → Prop} (ty : TypeId) (x : Operand) (ho : op.op = .load ty x)
    (b : Nat) (hx : a.eval x = .pointer (some ⟨b, 0, none⟩)) (v : Value) (hl : (loadVar ty ⟨b, 0, none⟩).run P w = .ok v w)
    (h : K (a.put op.dst v) w) : op.wp P a w K Q := by
  unfold Oper.wp execOp
  simp only [ho, hx, Instr.loadAt, Instr.sureAddr, Sem.run_bind, Sem.run_pure, Result.andThen_ok, hl]
  exact h
theorem run_storeCells_row {P : Program} (w : World) (g : Nat) (t : TypeId) (old : Array Value) (l : List Value) (hg : w.heap[g]? = some (.cells old t (0, 0)))
    (ho : old.size = l.length) (h1 : l.toArray.all (·.oneCell') = true) :
    (storeCells ⟨g, 0, none⟩ l 0).run P w = .ok () (w.setRow g l.toArray) := by
  have := run_storeCells_from (P := P) g t l 0 old w hg (by omega) (fun v hv => (Array.all_eq_true_iff_forall_mem.1 h1) v (by simpa using hv))
  rw [this]
  congr 2
theorem below_setRow {B : Nat} {a w : World} (h : Below B a w) (g : Nat) (hg : B ≤ g) (cs : Array Value) : Below B a (w.setRow g cs) := by
  refine ⟨h.os, h.tape, h.output, by simpa [World.setRow] using h.size, fun k hk => ?_⟩
  rw [← h.block k hk]
  simp only [World.setRow, Array.getElem?_modify]
  rw [if_neg (by omega)]
end Go.Proofs.YtnfiapjdkjbdhaaGreat
namespace Go.Proofs.YtnfiapjdkjbdhaaGreat
open Go.RowKit
set_option linter.unusedVariables false
set_option linter.unusedSimpArgs false
set_option maxRecDepth 10000
theorem still_tail {P : Program} {id : Nat} {Q : Exit → Act → World → Prop} {a : Act} {w : World} {l : List Oper} (n : Nat) (hm : P.follows .mixedOrders = true) (hB : Region.lexTailB .any l.toArray n = true)
    (h : wpStill P l.toArray w.drew (fun a' => wpList P l.toArray Q (l.drop n) a' w.drew) (l.take n) a) : (Code.region id l.toArray true).wp P Q a w :=
  wp_region_still_tail n hm hB h
theorem bcell {W w1 : World} (hb : Below W.heap.size W w1) : (∀ b o, b < W.heap.size → w1.cell? ⟨b, o, none⟩ = W.cell? ⟨b, o, none⟩) ∧ (∀ b o, b < W.heap.size → w1.frozen? ⟨b, o, none⟩ = W.frozen? ⟨b, o, none⟩) :=
  ⟨fun b o h => hb.cell (p := ⟨b, o, none⟩) h, fun b o h => hb.frozen (p := ⟨b, o, none⟩) h⟩
end Go.Proofs.YtnfiapjdkjbdhaaGreat
/- Layer 5 (geo): which geometries may be, how many sectors the parts have. -/
namespace Go.Proofs.YtnfiapjdkjbdhaaGreat
open Go.RowKit
set_option linter.unusedVariables false
set_option linter.unusedSimpArgs false
set_option maxRecDepth 10000
abbrev geoV (i b j : Int) : Value := .agg #[.int .i64 i, .int .i64 b, .int .i64 j]
abbrev gv (G : Gm) : Value := geoV G.i G.b G.j
def mayI (i b j : Int) : Prop := (2 ≤ i ∧ i ≤ 256) ∧ (8 ≤ b ∧ b ≤ 1024) ∧ (40 ≤ j ∧ j ≤ 256)
instance (i b j : Int) : Decidable (mayI i b j) := by unfold mayI; exact inferInstance
theorem mayI_gm {i b j : Int} (h : mayI i b j) : ∃ G : Gm, G.ok ∧ i = G.i ∧ b = G.b ∧ j = G.j := by
  unfold mayI at h
  exact ⟨⟨i.toNat, b.toNat, j.toNat⟩, by unfold Gm.ok; simp only; omega, by simp only; omega, by simp only; omega, by simp only; omega⟩
theorem gm_mayI {G : Gm} (h : G.ok) : mayI G.i G.b G.j := by
  unfold Gm.ok at h; unfold mayI; omega
set_option maxHeartbeats 400000 in
theorem within_in (n lo hi : Int) (w : World) (h1 : lo ≤ n) (h2 : n ≤ hi) :
    Calls Tryz.prog 31 #[.int .i64 n, .int .i64 lo, .int .i64 hi] w fun e w' => e = .returned (.bool true) ∧ w = w' := by
  go_enter Tryz.func31, Tryz.ntmps31
  go_wp2
  go_ret
  exact ⟨rfl, rfl⟩
set_option maxHeartbeats 400000 in
theorem within_out (n lo hi : Int) (w : World) (h : n < lo ∨ hi < n) :
    Calls Tryz.prog 31 #[.int .i64 n, .int .i64 lo, .int .i64 hi] w fun e w' => e = .returned (.bool false) ∧ w = w' := by
  by_cases h1 : lo ≤ n
  · have h2 : hi < n := by omega
    have hd : decide (n ≤ hi) = false := by simpa using h2
    clear h
    go_enter Tryz.func31, Tryz.ntmps31
    go_wp2
    go_ret
    exact ⟨rfl, rfl⟩
  · clear h
    go_enter Tryz.func31, Tryz.ntmps31
    go_wp2
    go_ret
    exact ⟨rfl, rfl⟩
set_option maxHeartbeats 400000 in
theorem needed_any (n p : Nat) (x y : Int) (hx : x = (n : Int)) (hy : y = (p : Int)) (w : World) (hn : n ≤ 1048576) (hp : 0 < p) (hp2 : p ≤ 1048576) :
    Calls Tryz.prog 189 #[.int .i64 x, .int .i64 y] w fun e w' => e = .returned (.int .i64 ((n + (p - 1)) / p : Nat)) ∧ w' = w := by
  subst hx hy
  have hq : ((n : Int) + (p : Int) - 1) / (p : Int) = (((n + (p - 1)) / p : Nat) : Int) := by
    rw [Int.natCast_ediv, show ((n + (p - 1) : Nat) : Int) = (n : Int) + (p : Int) - 1 by omega]
  have HQ := Lib.hid hq
  clear hq
  go_enter Tryz.func189, Tryz.ntmps189
  go_wp2
  go_ret
  exact ⟨congrArg (fun x => Ending.returned (.int .i64 x)) HQ.out, rfl⟩
set_option maxHeartbeats 400000 in
theorem may_ok (i b j : Int) (w : World) (h : mayI i b j) :
    Calls Tryz.prog 7 #[geoV i b j] w fun e w' => e = .returned (.bool true) ∧ Below w.heap.size w w' := by
  obtain ⟨⟨h1, h2⟩, ⟨h3, h4⟩, h5, h6⟩ := h
  go_enter Tryz.func7, Tryz.ntmps7
  go_wp2_with fail
  refine (within_in _ _ _ _ h1 h2).mono ?_
  rintro e w1 ⟨rfl, rfl⟩
  go_wp2_with fail
  refine (within_in _ _ _ _ h3 h4).mono ?_
  rintro e w1 ⟨rfl, rfl⟩
  go_wp2_with fail
  refine (within_in _ _ _ _ h5 h6).mono ?_
  rintro e w1 ⟨rfl, rfl⟩
  go_wp2_with fail
  go_ret
  exact ⟨rfl, (Below.refl _ _).alloc (Nat.le_refl _) _⟩
set_option maxHeartbeats 400000 in
theorem may_bad (i b j : Int) (w : World) (h : ¬ mayI i b j) :
    Calls Tryz.prog 7 #[geoV i b j] w fun e w' => e = .returned (.bool false) ∧ Below w.heap.size w w' := by
  unfold mayI at h
  by_cases h1 : 2 ≤ i ∧ i ≤ 256
  · by_cases h2 : 8 ≤ b ∧ b ≤ 1024
    · have h3 : j < 40 ∨ 256 < j := by omega
      clear h
      go_enter Tryz.func7, Tryz.ntmps7
      go_wp2_with fail
      refine (within_in _ _ _ _ h1.1 h1.2).mono ?_
      rintro e w1 ⟨rfl, rfl⟩
      go_wp2_with fail
      refine (within_in _ _ _ _ h2.1 h2.2).mono ?_
      rintro e w1 ⟨rfl, rfl⟩
      go_wp2_with fail
      refine (within_out _ _ _ _ h3).mono ?_
      rintro e w1 ⟨rfl, rfl⟩
      go_wp2_with fail
      go_ret
      exact ⟨rfl, (Below.refl _ _).alloc (Nat.le_refl _) _⟩
    · have h3 : b < 8 ∨ 1024 < b := by omega
      clear h h2
      go_enter Tryz.func7, Tryz.ntmps7
      go_wp2_with fail
      refine (within_in _ _ _ _ h1.1 h1.2).mono ?_
      rintro e w1 ⟨rfl, rfl⟩
      go_wp2_with fail
      refine (within_out _ _ _ _ h3).mono ?_
      rintro e w1 ⟨rfl, rfl⟩
      go_wp2_with fail
      go_ret
      exact ⟨rfl, (Below.refl _ _).alloc (Nat.le_refl _) _⟩
  · have h3 : i < 2 ∨ 256 < i := by omega
    clear h h1
    go_enter Tryz.func7, Tryz.ntmps7
    go_wp2_with fail
    refine (within_out _ _ _ _ h3).mono ?_
    rintro e w1 ⟨rfl, rfl⟩
    go_wp2_with fail
    go_ret
    exact ⟨rfl, (Below.refl _ _).alloc (Nat.le_refl _) _⟩
def sizesL (G : Gm) : List Value := [.int .i64 1, .int .i64 (G.j : Int), .int .i64 (((G.i : Int) + 1 + 511) / 512), .int .i64 (((G.b : Int) + 1 + 511) / 512), .int .i64 (((G.i : Int) + 1) / 2), .int .i64 (G.b : Int)]
theorem sizesL_at (G : Gm) (p : Nat) (hp : p < 6) : (sizesL G)[p]? = some (.int .i64 (G.cnt p : Int)) := by
  match p, hp with
  | 0, _ | 1, _ | 5, _ => rfl
  | 2, _ | 3, _ | 4, _ =>
    simp only [sizesL, Gm.cnt, List.getElem?_cons_succ, List.getElem?_cons_zero, Option.some.injEq, Value.int.injEq, true_and]
    omega
theorem heap_drew2 (w : World) (o p : Obj) : ((w.alloc o).alloc p).drew.heap[w.heap.size + 1]? = some p := by
  have := heap_alloc_new (w.alloc o) p
  show ((w.alloc o).alloc p).heap[w.heap.size + 1]? = some p
  simpa using this
set_option maxHeartbeats 1000000 in
theorem sizes_any (G : Gm) (w : World) (h : G.ok) :
    Calls Tryz.prog 142 #[gv G] w fun e w' => e = .returned (.agg (sizesL G).toArray) ∧ Below w.heap.size w w' := by
  unfold Gm.ok at h
  obtain ⟨⟨h1, h2⟩, ⟨h3, h4⟩, h5, h6⟩ := h
  have n1 := Lib.hid fun W => needed_any (G.i + 1) 512 ((G.i : Int) + 1) 512 rfl rfl W (by omega) (by omega) (by omega)
  have n2 := Lib.hid fun W => needed_any (G.b + 1) 512 ((G.b : Int) + 1) 512 rfl rfl W (by omega) (by omega) (by omega)
  have n3 := Lib.hid fun W => needed_any G.i 2 (G.i : Int) 2 rfl rfl W (by omega) (by omega) (by omega)
  have e1 : IntKind.i64.wrap ((G.i : Int) + 1) = (G.i : Int) + 1 := IntWalk.i64_in _ (by omega)
  have e2 : IntKind.i64.wrap ((G.b : Int) + 1) = (G.b : Int) + 1 := IntWalk.i64_in _ (by omega)
  go_enter Tryz.func142, Tryz.ntmps142
  go_wp2_with fail
  refine still_tail 16 (by kernel_rfl) (by kernel_rfl) ?_
  simp only [List.take_succ_cons, List.take_zero, List.drop_succ_cons, List.drop_zero]
  repeat still_step
  still_call (n1.out _)
  repeat still_step
  still_call (n2.out _)
  repeat still_step
  still_call (n3.out _)
  repeat still_step
  refine wpStill_nil ?_
  clear e1 e2
  go_wp2
  refine bodyPost_ret (v := .agg (sizesL G).toArray) ?_ rfl ⟨rfl, (((Below.refl _ _).alloc (Nat.le_refl _) _).alloc (by simp) _).drew⟩
  exact results_cell_row rfl _ _ (w.heap.size + 1) 227 (sizesL G).toArray (0, 0) _ rfl (heap_drew2 _ _ _) Tryz.underlying227 rfl (by kernel_rfl)
end Go.Proofs.YtnfiapjdkjbdhaaGreat
namespace Go.Proofs.YtnfiapjdkjbdhaaGreat
open Go.RowKit
set_option linter.unusedVariables false
set_option linter.unusedSimpArgs false
set_option maxRecDepth 10000
def Laid (W : World) (B : Nat) (G : Gm) : Prop := W.heap[B]? = some (.cells (sizesL G).toArray 227 (0, 0))
theorem Laid.after {W W' : World} {B n : Nat} {G : Gm} (h : Laid W B G) (hb : Below n W W') (hn : B < n) : Laid W' B G := (hb.block B hn).trans h
theorem Laid.lt {W : World} {B : Nat} {G : Gm} (h : Laid W B G) : B < W.heap.size := (Array.getElem?_eq_some_iff.1 h).1
abbrev layV (B : Nat) : Value := .func (.func 143) #[] #[.pointer (some ⟨B, 0, none⟩)]
def LayPost (G : Gm) (w : World) (e : Ending) (w' : World) : Prop := ∃ B, e = .returned (layV B) ∧ Laid w' B G ∧ w.heap.size ≤ B ∧ Below w.heap.size w w'
set_option maxHeartbeats 400000 in
theorem layout_any (G : Gm) (w : World) (h : G.ok) : Calls Tryz.prog 79 #[gv G] w (LayPost G w) := by
  have hmf : ∀ (fn : Fn) (first cap : Array Value) (w : World), (Instr.makeFunc fn first cap).run Tryz.prog w = .ok (.func fn first cap) w := fun _ _ _ _ => rfl
  have hs := fun W => sizes_any G W h
  simp only [sizesL] at hs
  have HS := Lib.hid hs
  clear hs
  go_enter Tryz.func79, Tryz.ntmps79
  go_wp2_with fail
  refine (HS.out _).mono ?_
  rintro e w1 ⟨rfl, hb⟩
  have B := Lib.hid hb
  clear hb
  go_wp2_with fail
  go_ret
  exact ⟨w1.heap.size, rfl, heap_alloc_new _ _, by have := B.out.size; simp at this; omega, ((Below.refl _ _).alloc (Nat.le_refl _) _).trans (B.out.mono (by simp)) |>.alloc (by have := B.out.size; simp at this; omega) _⟩
abbrev spanV (a n : Int) : Value := .agg #[.int .i64 a, .int .i64 n]
abbrev partV (G : Gm) (p : Nat) : Value := spanV (G.off p) (G.cnt p)
theorem heap_low (w : World) (o p : Obj) : ((w.alloc o).alloc p).heap[w.heap.size]? = some o := by
  have h := heap_alloc_new w o
  have hb := (Below.refl (w.alloc o).heap.size (w.alloc o)).alloc (Nat.le_refl _) p
  rw [hb.block w.heap.size (by simp)]
  exact h
theorem gset2 {W : World} {g : Nat} {a b : Value} {t : TypeId} (h : W.heap[g]? = some (.cells #[a, b] t (0, 0))) (x y : Value) :
    ((W.setCell ⟨g, 0, none⟩ x).setCell ⟨g, 1, none⟩ y).heap[g]? = some (.cells #[x, y] t (0, 0)) := by
  have h1 := heap_setCell_same W g 0 _ t x h
  have h2 := heap_setCell_same _ g 1 _ t y h1
  exact h2
set_option maxHeartbeats 1000000 in
theorem span_any (G : Gm) (p : Nat) (x : Int) (hx : x = (p : Int)) (B : Nat) (w : World) (h : G.ok) (hp : p < 6) (hL : Laid w B G) :
    Calls Tryz.prog 143 #[.int .i64 x, .pointer (some ⟨B, 0, none⟩)] w fun e w' => e = .returned (partV G p) ∧ Below w.heap.size w w' := by
  subst hx
  have hc := cell_of_row w B p _ 227 (0, 0) hL
  have hs := sizesL_at G p hp
  rw [List.getElem?_toArray, hs] at hc
  have hoff := fun k (hk : k ≤ 6) => G.off_le h k hk
  have hcnt := G.cnt_le h p
  have hB := hL.lt
  have HL := Lib.hid hL
  have Hoff := Lib.hid hoff
  clear hL hs hoff
  go_enter Tryz.func143, Tryz.ntmps143
  go_wp2_with fail
  go_loopw [5, 11] (fun _ i wr => ∃ k : Nat, k ≤ p ∧ i = .int .i64 k ∧ wr.heap[w.heap.size]? = some (.cells #[.int .i64 0, .int .i64 0] 84 (0, 0)) ∧ wr.heap[w.heap.size + 1]? = some (.cells #[.int .i64 (G.off k : Int), .int .i64 (G.cnt p : Int)] 84 (0, 0)) ∧ Below w.heap.size w wr) (fun _ i _ => p - (Go.RowKit.intOf i).toNat)
  case atStart => exact ⟨0, Nat.zero_le _, rfl, heap_low _ _ _, by have := heap_alloc_new (w.alloc (.cells #[.int .i64 0, .int .i64 0] 84)) (.cells #[.int .i64 0, .int .i64 (G.cnt p : Int)] 84); simpa [Gm.off] using this, ((Below.refl _ _).alloc (Nat.le_refl _) _).alloc (by simp) _⟩
  case round =>
    obtain ⟨k, hk, rfl, hr, hv, hb⟩ := hrel
    have hLw : Laid wr B G := HL.out.after hb hB
    have r0 := cell_of_row wr w.heap.size 0 _ 84 (0, 0) hr
    have r1 := cell_of_row wr w.heap.size 1 _ 84 (0, 0) hr
    have r2 := frozen_of_row wr w.heap.size 0 _ 84 hr
    have r3 := frozen_of_row wr w.heap.size 1 _ 84 hr
    have v0 := cell_of_row wr (w.heap.size + 1) 0 _ 84 (0, 0) hv
    have v1 := cell_of_row wr (w.heap.size + 1) 1 _ 84 (0, 0) hv
    have v2 := frozen_of_row wr (w.heap.size + 1) 0 _ 84 hv
    have v3 := frozen_of_row wr (w.heap.size + 1) 1 _ 84 hv
    simp only [List.getElem?_toArray, List.getElem?_cons_zero, List.getElem?_cons_succ] at r0 r1 v0 v1
    have ho := Hoff.out k (by omega)
    have Hr := Lib.hid hr
    have Hv := Lib.hid hv
    by_cases hlt : k < p
    · have hck := cell_of_row wr B k _ 227 (0, 0) hLw
      rw [List.getElem?_toArray, sizesL_at G k (by omega)] at hck
      have hcl := G.cnt_le h k
      clear hr hv hLw
      go_wp2_with fail
      go_region
      go_wp2_with fail
      go_roundw
      case rel =>
        refine ⟨k + 1, by omega, by go_num, ?_, ?_, (hb.setCell (by simp) _).drew⟩
        · show (wr.setCell _ _).heap[w.heap.size]? = _
          rw [heap_setCell_other _ _ _ _ (by simp)]
          exact Hr.out
        · show (wr.setCell _ _).heap[w.heap.size + 1]? = _
          have := heap_setCell_same wr (w.heap.size + 1) 0 _ 84 (.int .i64 ((G.off k : Int) + (G.cnt k : Int))) Hv.out
          rw [this]
          simp [Gm.off_succ]
      case measure => simp [Go.RowKit.intOf]; omega
    · have : k = p := by omega
      subst this
      clear hr hv hLw
      go_wp2_with fail
      refine bodyPost_ret (v := partV G k) ?_ rfl ⟨rfl, (hb.setCell (Nat.le_refl _) _).setCell (Nat.le_refl _) _⟩
      exact results_cell_row rfl _ _ w.heap.size 84 _ (0, 0) _ rfl (gset2 Hr.out _ _) Tryz.underlying84 rfl (by kernel_rfl)
end Go.Proofs.YtnfiapjdkjbdhaaGreat
/- Layer 5 (geo): Part, Sectors, Inode, Block. -/
namespace Go.Proofs.YtnfiapjdkjbdhaaGreat
open Go.RowKit
set_option linter.unusedVariables false
set_option linter.unusedSimpArgs false
set_option maxRecDepth 10000
theorem results_row_tmp {fn : Func} {p q : Tmp} {ty : TypeId} {P : Program} (h : fn.results = #[.cell p ty, .tmp q]) (tmps : Array Value) (w : World) (g : Nat) (v : Value)
    (hp : tmps.getD p undef = .pointer (some ⟨g, 0, none⟩)) (hl : (loadVar ty ⟨g, 0, none⟩).run P w = .ok v w) :
    (results fn tmps).run P w = .ok (.tuple #[v, tmps.getD q undef]) w := by
  have hp' : tmps[p]?.getD undef = .pointer (some ⟨g, 0, none⟩) := by simpa using hp
  simp [results, h, hp', asAddr, hl]
theorem load_span (W : World) (g : Nat) (a n : Int) (h : W.heap[g]? = some (.cells #[.int .i64 a, .int .i64 n] 84 (0, 0))) : (loadVar 84 ⟨g, 0, none⟩).run Tryz.prog W = .ok (spanV a n) W :=
  run_loadVar_row W g 84 84 _ (0, 0) _ h Tryz.underlying84 rfl (by kernel_rfl)
theorem heap_new2 (w : World) (o p : Obj) : ((w.alloc o).alloc p).heap[w.heap.size + 1]? = some p := by
  have := heap_alloc_new (w.alloc o) p
  simpa using this
set_option maxHeartbeats 1000000 in
theorem part_ok (G : Gm) (p : Nat) (x : Int) (hx : x = (p : Int)) (w : World) (h : G.ok) (hp : p < 6) :
    Calls Tryz.prog 38 #[gv G, .int .i64 x] w fun e w' => e = .returned (.tuple #[partV G p, .int .i64 0]) ∧ Below w.heap.size w w' := by
  subst hx
  have HM := Lib.hid fun W => may_ok _ _ _ W (gm_mayI h)
  have HY := Lib.hid fun W => layout_any G W h
  have HI := Lib.hid fun W => within_in (p : Int) 0 5 W (by omega) (by omega)
  go_enter Tryz.func38, Tryz.ntmps38
  go_wp2_with fail
  with_reducible refine (HM.out _).mono ?_
  rintro e w1 ⟨rfl, hb⟩
  have B := Lib.hid hb
  obtain ⟨hc, hf⟩ := bcell hb
  clear hb
  go_wp2_with fail
  with_reducible refine (HI.out _).mono ?_
  rintro e w2 ⟨rfl, rfl⟩
  go_wp2_with fail
  with_reducible refine (HY.out _).mono ?_
  rintro e w2 ⟨bb, rfl, hL, hge, hb⟩
  have hz := B.out.size
  have B := Lib.hid (B.out.trans (hb.mono hz))
  clear hb hc hf
  obtain ⟨hc, hf⟩ := bcell B.out
  have HS := Lib.hid (span_any G p (p : Int) rfl bb w2 h hp hL)
  clear hL hge
  go_wp2_with fail
  with_reducible refine HS.out.mono ?_
  rintro e w3 ⟨rfl, hb⟩
  have hz2 := B.out.size
  have B := Lib.hid (B.out.trans (hb.mono hz2))
  clear hb hc hf
  obtain ⟨hc, hf⟩ := bcell B.out
  go_wp2_with fail
  have hrow := (B.out.block (w.heap.size + 1) (by simp)).trans (heap_new2 w _ _)
  refine bodyPost_ret (v := .tuple #[partV G p, .int .i64 0]) ?_ rfl ⟨rfl, (((((Below.refl _ _).alloc (Nat.le_refl _) _).alloc (by simp) _).trans (B.out.mono (by simp; omega))).setCell (by simp) _).setCell (by simp) _⟩
  exact results_row_tmp (p := 4) (q := 5) rfl _ _ (w.heap.size + 1) _ rfl (load_span _ _ _ _ (gset2 hrow _ _))
def noPart (i b j x : Int) : Prop := ¬ mayI i b j ∨ x < 0 ∨ 5 < x
set_option maxHeartbeats 1000000 in
theorem part_bad (i b j x : Int) (w : World) (h : noPart i b j x) :
    Calls Tryz.prog 38 #[geoV i b j, .int .i64 x] w fun e w' => e = .returned (.tuple #[spanV 0 0, .int .i64 2]) ∧ Below w.heap.size w w' := by
  by_cases hm : mayI i b j
  · have hx : x < 0 ∨ 5 < x := by rcases h with h | h; exact absurd hm h; exact h
    have HM := Lib.hid fun W => may_ok _ _ _ W hm
    have HI := Lib.hid fun W => within_out x 0 5 W hx
    clear h hx hm
    go_enter Tryz.func38, Tryz.ntmps38
    go_wp2_with fail
    with_reducible refine (HM.out _).mono ?_
    rintro e w1 ⟨rfl, hb⟩
    have B := Lib.hid hb
    obtain ⟨hc, hf⟩ := bcell hb
    clear hb
    go_wp2_with fail
    with_reducible refine (HI.out _).mono ?_
    rintro e w2 ⟨rfl, rfl⟩
    go_wp2_with fail
    have hrow := (B.out.block (w.heap.size + 1) (by simp)).trans (heap_new2 w _ _)
    refine bodyPost_ret (v := .tuple #[spanV 0 0, .int .i64 2]) ?_ rfl ⟨rfl, (((((Below.refl _ _).alloc (Nat.le_refl _) _).alloc (by simp) _).trans (B.out.mono (by simp; omega))).setCell (by simp) _).setCell (by simp) _⟩
    exact results_row_tmp (p := 4) (q := 5) rfl _ _ (w.heap.size + 1) _ rfl (load_span _ _ _ _ (gset2 hrow _ _))
  · have HM := Lib.hid fun W => may_bad _ _ _ W hm
    clear h hm
    go_enter Tryz.func38, Tryz.ntmps38
    go_wp2_with fail
    with_reducible refine (HM.out _).mono ?_
    rintro e w1 ⟨rfl, hb⟩
    have B := Lib.hid hb
    obtain ⟨hc, hf⟩ := bcell hb
    clear hb
    go_wp2_with fail
    have hrow := (B.out.block (w.heap.size + 1) (by simp)).trans (heap_new2 w _ _)
    refine bodyPost_ret (v := .tuple #[spanV 0 0, .int .i64 2]) ?_ rfl ⟨rfl, (((((Below.refl _ _).alloc (Nat.le_refl _) _).alloc (by simp) _).trans (B.out.mono (by simp; omega))).setCell (by simp) _).setCell (by simp) _⟩
    exact results_row_tmp (p := 4) (q := 5) rfl _ _ (w.heap.size + 1) _ rfl (load_span _ _ _ _ (gset2 hrow _ _))
set_option maxHeartbeats 1000000 in
theorem sectors_ok (G : Gm) (w : World) (h : G.ok) :
    Calls Tryz.prog 37 #[gv G] w fun e w' => e = .returned (.int .i64 (G.all : Int)) ∧ Below w.heap.size w w' := by
  have HP := Lib.hid fun W => part_ok G 5 5 rfl W h (by omega)
  have h1 := G.off_le h 5 (by omega)
  have h2 := G.cnt_le h 5
  go_enter Tryz.func37, Tryz.ntmps37
  go_wp2_with fail
  with_reducible refine (HP.out _).mono ?_
  rintro e w1 ⟨rfl, hb⟩
  have B := Lib.hid hb
  clear hb
  go_wp2_with fail
  go_ret
  exact ⟨by simp [Gm.all, Gm.off_succ], (((Below.refl _ _).alloc (Nat.le_refl _) _).trans (B.out.mono (by simp))).alloc (by have := B.out.size; simp at this; omega) _⟩
end Go.Proofs.YtnfiapjdkjbdhaaGreat
/- Layer 5 (geo): Inode, Block, Where. -/
namespace Go.Proofs.YtnfiapjdkjbdhaaGreat
open Go.RowKit
set_option linter.unusedVariables false
set_option linter.unusedSimpArgs false
set_option maxRecDepth 10000
theorem ret3_ii {a b c d : Int} {x : Value} (h : a = b) (k : c = d) : Ending.returned (.tuple #[.int .i64 a, .int .i64 c, x]) = .returned (.tuple #[.int .i64 b, .int .i64 d, x]) := by rw [h, k]
theorem ret2_i {a b : Int} {x : Value} (h : a = b) : Ending.returned (.tuple #[.int .i64 a, x]) = .returned (.tuple #[.int .i64 b, x]) := by rw [h]
set_option maxHeartbeats 1000000 in
theorem inode_ok (G : Gm) (k : Nat) (x : Int) (hx : x = ((k + 1 : Nat) : Int)) (w : World) (h : G.ok) (hk : k + 1 ≤ G.i) :
    Calls Tryz.prog 88 #[gv G, .int .u32 x] w fun e w' => e = .returned (.tuple #[.int .i64 ((G.off 4 + k / 2 : Nat) : Int), .int .i64 ((k % 2 * 32 : Nat) : Int), .int .i64 0]) ∧ Below w.heap.size w w' := by
  have h4 : G.i ≤ 256 := h.1.2
  have HP := Lib.hid fun W => part_ok G 4 4 rfl W h (by omega)
  have HI := Lib.hid fun W => within_in x 1 (G.i : Int) W (by omega) (by omega)
  have h1 := G.off_le h 4 (by omega)
  have h2 := G.cnt_le h 4
  have hx1 : 1 ≤ x := by omega
  have hx2 : x ≤ 256 := by omega
  have HX := Lib.hid hx
  clear hx
  go_enter Tryz.func88, Tryz.ntmps88
  go_wp2_with fail
  with_reducible refine (HP.out _).mono ?_
  rintro e w1 ⟨rfl, hb⟩
  have B := Lib.hid hb
  obtain ⟨hc, hf⟩ := bcell hb
  have hz : w.heap.size < w1.heap.size := by have := hb.size; simp at this; omega
  clear hb
  go_wp2_with fail
  with_reducible refine (HI.out _).mono ?_
  rintro e w2 ⟨rfl, rfl⟩
  go_wp2_with fail
  go_ret3
  have hX := HX.out
  exact ⟨ret3_ii (by omega) (by omega), (((Below.refl _ _).alloc (Nat.le_refl _) _).trans (B.out.mono (by simp))).alloc (by omega) _⟩
set_option maxHeartbeats 1000000 in
theorem inode_bad (i b j : Int) (x : Int) (w : World) (h : ¬ mayI i b j ∨ x < 1 ∨ i < x) (h0 : 0 ≤ x) (h9 : x < 4294967296) :
    Calls Tryz.prog 88 #[geoV i b j, .int .u32 x] w fun e w' => e = .returned (.tuple #[.int .i64 0, .int .i64 0, .int .i64 2]) ∧ Below w.heap.size w w' := by
  by_cases hm : mayI i b j
  · obtain ⟨G, hG, rfl, rfl, rfl⟩ := mayI_gm hm
    have HP := Lib.hid fun W => part_ok G 4 4 rfl W hG (by omega)
    have HI := Lib.hid fun W => within_out x 1 (G.i : Int) W (by rcases h with h | h; exact absurd hm h; exact h)
    clear h hm hG
    go_enter Tryz.func88, Tryz.ntmps88
    go_wp2_with fail
    with_reducible refine (HP.out _).mono ?_
    rintro e w1 ⟨rfl, hb⟩
    have B := Lib.hid hb
    obtain ⟨hc, hf⟩ := bcell hb
    have hz : w.heap.size < w1.heap.size := by have := hb.size; simp at this; omega
    clear hb
    go_wp2_with fail
    with_reducible refine (HI.out _).mono ?_
    rintro e w2 ⟨rfl, rfl⟩
    go_wp2_with fail
    go_ret3
    exact ⟨rfl, (((Below.refl _ _).alloc (Nat.le_refl _) _).trans (B.out.mono (by simp))).alloc (by omega) _⟩
  · have HP := Lib.hid fun W => part_bad i b j 4 W (.inl hm)
    clear h hm
    go_enter Tryz.func88, Tryz.ntmps88
    go_wp2_with fail
    with_reducible refine (HP.out _).mono ?_
    rintro e w1 ⟨rfl, hb⟩
    have B := Lib.hid hb
    obtain ⟨hc, hf⟩ := bcell hb
    have hz : w.heap.size < w1.heap.size := by have := hb.size; simp at this; omega
    clear hb
    go_wp2_with fail
    go_ret3
    exact ⟨rfl, (((Below.refl _ _).alloc (Nat.le_refl _) _).trans (B.out.mono (by simp))).alloc (by omega) _⟩
set_option maxHeartbeats 1000000 in
theorem block_ok (G : Gm) (k : Nat) (x : Int) (hx : x = ((k + 1 : Nat) : Int)) (w : World) (h : G.ok) (hk : k + 1 ≤ G.b) :
    Calls Tryz.prog 173 #[gv G, .int .u16 x] w fun e w' => e = .returned (.tuple #[.int .i64 ((G.off 5 + k : Nat) : Int), .int .i64 0]) ∧ Below w.heap.size w w' := by
  have h4 : G.b ≤ 1024 := h.2.1.2
  have HP := Lib.hid fun W => part_ok G 5 5 rfl W h (by omega)
  have HI := Lib.hid fun W => within_in x 1 (G.b : Int) W (by omega) (by omega)
  have h1 := G.off_le h 5 (by omega)
  have h2 := G.cnt_le h 5
  have hx1 : 1 ≤ x := by omega
  have hx2 : x ≤ 1024 := by omega
  have HX := Lib.hid hx
  clear hx
  go_enter Tryz.func173, Tryz.ntmps173
  go_wp2_with fail
  with_reducible refine (HP.out _).mono ?_
  rintro e w1 ⟨rfl, hb⟩
  have B := Lib.hid hb
  obtain ⟨hc, hf⟩ := bcell hb
  have hz : w.heap.size < w1.heap.size := by have := hb.size; simp at this; omega
  clear hb
  go_wp2_with fail
  with_reducible refine (HI.out _).mono ?_
  rintro e w2 ⟨rfl, rfl⟩
  go_wp2_with fail
  go_ret2
  have hX := HX.out
  exact ⟨ret2_i (by omega), (((Below.refl _ _).alloc (Nat.le_refl _) _).trans (B.out.mono (by simp))).alloc (by omega) _⟩
set_option maxHeartbeats 1000000 in
theorem block_bad (i b j : Int) (x : Int) (w : World) (h : ¬ mayI i b j ∨ x < 1 ∨ b < x) (h0 : 0 ≤ x) (h9 : x < 65536) :
    Calls Tryz.prog 173 #[geoV i b j, .int .u16 x] w fun e w' => e = .returned (.tuple #[.int .i64 0, .int .i64 2]) ∧ Below w.heap.size w w' := by
  by_cases hm : mayI i b j
  · obtain ⟨G, hG, rfl, rfl, rfl⟩ := mayI_gm hm
    have HP := Lib.hid fun W => part_ok G 5 5 rfl W hG (by omega)
    have HI := Lib.hid fun W => within_out x 1 (G.b : Int) W (by rcases h with h | h; exact absurd hm h; exact h)
    clear h hm hG
    go_enter Tryz.func173, Tryz.ntmps173
    go_wp2_with fail
    with_reducible refine (HP.out _).mono ?_
    rintro e w1 ⟨rfl, hb⟩
    have B := Lib.hid hb
    obtain ⟨hc, hf⟩ := bcell hb
    have hz : w.heap.size < w1.heap.size := by have := hb.size; simp at this; omega
    clear hb
    go_wp2_with fail
    with_reducible refine (HI.out _).mono ?_
    rintro e w2 ⟨rfl, rfl⟩
    go_wp2_with fail
    go_ret2
    exact ⟨rfl, (((Below.refl _ _).alloc (Nat.le_refl _) _).trans (B.out.mono (by simp))).alloc (by omega) _⟩
  · have HP := Lib.hid fun W => part_bad i b j 5 W (.inl hm)
    clear h hm
    go_enter Tryz.func173, Tryz.ntmps173
    go_wp2_with fail
    with_reducible refine (HP.out _).mono ?_
    rintro e w1 ⟨rfl, hb⟩
    have B := Lib.hid hb
    obtain ⟨hc, hf⟩ := bcell hb
    have hz : w.heap.size < w1.heap.size := by have := hb.size; simp at this; omega
    clear hb
    go_wp2_with fail
    go_ret2
    exact ⟨rfl, (((Below.refl _ _).alloc (Nat.le_refl _) _).trans (B.out.mono (by simp))).alloc (by omega) _⟩
set_option maxHeartbeats 1000000 in
theorem where_ok (G : Gm) (q : Nat) (n : Nat) (x : Int) (hx : x = (n : Int)) (w : World) (h : G.ok) (hq : q < 6) (hn1 : G.off q ≤ n) (hn2 : n < G.off (q + 1)) :
    Calls Tryz.prog 76 #[gv G, .int .i64 x] w fun e w' => e = .returned (.tuple #[.int .i64 (q : Int), .int .i64 ((n - G.off q : Nat) : Int), .int .i64 0]) ∧ Below w.heap.size w w' := by
  subst hx
  have HM := Lib.hid fun W => may_ok _ _ _ W (gm_mayI h)
  have HY := Lib.hid fun W => layout_any G W h
  have HSP := Lib.hid fun p B W hp hL => span_any G p (p : Int) rfl B W h hp hL
  have HO := Lib.hid (fun p (hp : p ≤ 6) => G.off_le h p hp)
  have HC := Lib.hid (fun p => G.cnt_le h p)
  have HOM := Lib.hid (fun p (hp : p < q) => G.off_mono (show p + 1 ≤ q by omega))
  have hq1 := G.off_le h (q + 1) (by omega)
  have HN := Lib.hid (And.intro hn1 hn2)
  clear hn2
  go_enter Tryz.func76, Tryz.ntmps76
  go_wp2_with fail
  with_reducible refine (HM.out _).mono ?_
  rintro e w1 ⟨rfl, hb⟩
  have B := Lib.hid hb
  obtain ⟨hc, hf⟩ := bcell hb
  clear hb
  go_wp2_with fail
  with_reducible refine (HY.out _).mono ?_
  rintro e w2 ⟨bb, rfl, hL, hge, hb⟩
  have HL := Lib.hid hL
  have hz1 := B.out.size
  have hz2 := hL.lt
  have B2 := Lib.hid (Below.refl w2.heap.size w2)
  have B := Lib.hid (B.out.trans (hb.mono hz1))
  clear hb hc hf hL hge
  simp at hz1
  go_wp2_with fail
  go_loopw [8, 9, 15] (fun _ _ i wr => ∃ k : Nat, k ≤ q ∧ i = .int .i64 k ∧ Below w2.heap.size w2 wr) (fun _ _ i _ => q - (Go.RowKit.intOf i).toNat)
  case atStart => exact ⟨0, Nat.zero_le _, rfl, Below.refl _ _⟩
  case round =>
    obtain ⟨k, hk, rfl, hb⟩ := hrel
    have hLw : Laid wr bb G := HL.out.after hb hz2
    have H3 := Lib.hid (HSP.out k bb wr (by omega) hLw)
    clear hLw
    have ho := HO.out k (by omega)
    have hcc := HC.out k
    by_cases hlt : k < q
    · have hom := HOM.out k hlt
      rw [Gm.off_succ] at hom
      have HI := Lib.hid fun W => within_out (n : Int) (G.off k : Int) ((G.off k : Int) + (G.cnt k : Int) - 1) W (by have := HN.out; omega)
      clear hom
      go_wp2_with fail
      with_reducible refine H3.out.mono ?_
      rintro e w3 ⟨rfl, hb3⟩
      have B3 := Lib.hid hb3
      clear hb3
      go_wp2_with fail
      with_reducible refine (HI.out _).mono ?_
      rintro e w4 ⟨rfl, rfl⟩
      go_wp2_with fail
      go_roundw
      case rel => exact ⟨k + 1, by omega, by go_num, (hb.trans (B3.out.mono hb.size)).alloc (by have := B3.out.size; have := hb.size; omega) _⟩
      case measure => simp [Go.RowKit.intOf]; omega
    · have hkq : k = q := by omega
      subst hkq
      have hN := HN.out
      rw [Gm.off_succ] at hN
      have HI := Lib.hid fun W => within_in (n : Int) (G.off k : Int) ((G.off k : Int) + (G.cnt k : Int) - 1) W (by omega) (by omega)
      clear hN
      go_wp2_with fail
      with_reducible refine H3.out.mono ?_
      rintro e w3 ⟨rfl, hb3⟩
      have B3 := Lib.hid hb3
      clear hb3
      go_wp2_with fail
      with_reducible refine (HI.out _).mono ?_
      rintro e w4 ⟨rfl, rfl⟩
      go_wp2_with fail
      go_quiet (fail)
      go_wp2_with fail
      go_ret3
      have hN := HN.out
      refine ⟨ret3_ii rfl (by rw [IntWalk.wrap64_in _ (by omega)]; omega), below_drewN ?_ _⟩
      have hz3 := B.out.size
      simp at hz3
      have e1 := ((Below.refl _ _).alloc (Nat.le_refl _) _).trans (B.out.mono (by simp))
      have e2 := e1.trans (hb.mono (by omega))
      have e3 := e2.trans (B3.out.mono (by have := hb.size; omega))
      exact e3.alloc (by have := B3.out.size; have := hb.size; omega) _
end Go.Proofs.YtnfiapjdkjbdhaaGreat
/- Layer 1 (octet), and the document's own answers: what each function answers, for every input. -/
namespace Go.Proofs.YtnfiapjdkjbdhaaGreat
open Go.RowKit
set_option linter.unusedVariables false
set_option linter.unusedSimpArgs false
set_option maxRecDepth 10000
theorem uint8Info : (Tryz.prog.info? 5).map (fun i => (i.zero, i.size, i.bytes)) = some (some (.int .u8 0), 1, 1) := by kernel_rfl
theorem make_bytes (n : Nat) (hn : n ≤ 1048576) : ∀ W : World, (Instr.makeSlice 53 (.int .i64 (n : Int)) (.int .i64 (n : Int))).run Tryz.prog W = .ok (.slice (some ⟨W.heap.size, 0, none⟩) n n) (W.alloc (.cells (byteCells (List.replicate n 0)) 5)) := fun W => by
  obtain ⟨i0, hi, hz0, hz1, hz2⟩ := info_parts uint8Info
  have h := run_make (P := Tryz.prog) W 53 5 i0 _ Tryz.underlying53 hi hz0 .i64 .i64 n n (by omega) (by omega) (by rw [hz2]; omega) (by omega)
  rw [hz1] at h
  simpa [Value.cells, made_bytes] using h
set_option maxHeartbeats 400000 in
theorem num_ok (v n : Nat) (w : World) (hv : v < 18446744073709551616) (hn : n ≤ 8) (hb : ((v : Int) / 2 ^ (8 * n) != 0) = false) :
    Calls Tryz.prog 129 #[.int .u64 v, .int .i64 n] w fun e w' => e = .returned (.tuple #[str (leB n v), .int .i64 0]) ∧ Below w.heap.size w w' := by
  have hmk := make_bytes n (by omega)
  go_enter Tryz.func129, Tryz.ntmps129
  go_wp2
  go_loopw [21] (fun i wr => ∃ k : Nat, k ≤ n ∧ i = .int .i64 k ∧ wr.heap[w.heap.size + 1 + 1]? = some (.cells (byteCells (leB k v ++ List.replicate (n - k) 0)) 5 (0, 0)) ∧ Below w.heap.size w wr) (fun i _ => n - (Go.RowKit.intOf i).toNat)
  case atStart =>
    refine ⟨0, Nat.zero_le _, rfl, ?_, (((Below.refl _ _).alloc (Nat.le_refl _) _).alloc (by simp) _).alloc (by simp; omega) _⟩
    exact heap_new _ _ _ (by simp)
  case round =>
    obtain ⟨k, hk, rfl, hg, hb2⟩ := hrel
    by_cases hlt : k < n
    · have hcell := cell_of_row wr (w.heap.size + 1 + 1) k _ 5 (0, 0) hg
      have hfr := frozen_of_row wr (w.heap.size + 1 + 1) k _ 5 hg
      have hget : (byteCells (leB k v ++ List.replicate (n - k) 0))[k]? = some (.int .u8 0) := by
        rw [byteCells_get _ _ (by simp [leB_length]; omega), List.getElem_append_right (by rw [leB_length]; omega)]
        simp
      rw [hget] at hcell
      have Hg := Lib.hid hg
      clear hg hget
      go_wp2
      go_roundw
      case rel =>
        refine ⟨k + 1, by omega, by go_num, ?_, ?_⟩
        · have hx : ((v : Int) / 2 ^ (8 * k) % 256) = ((UInt8.ofNat (v / 256 ^ k % 256)).toNat : Int) := by
            rw [UInt8.toNat_ofNat', pow256]
            simp only [Int.natCast_emod, Int.natCast_ediv, Int.natCast_pow]
            simp
          rw [blk_set_byte Hg.out _ _ hx, leB_fill _ _ _ hlt]
        · exact hb2.setCell (by simp; omega) _
      case measure => simp [Go.RowKit.intOf]; omega
    · have hkn : k = n := by omega
      subst hkn
      have hg' : wr.heap[w.heap.size + 1 + 1]? = some (.cells (byteCells (leB k v)) 5 (0, 0)) := by simpa using hg
      have hcv := conv_blk (P := Tryz.prog) 53 9 5 Tryz.underlying53 Tryz.underlying5 Tryz.underlying9 wr (w.heap.size + 1 + 1) k (leB k v) hg'
      rw [leB_length] at hcv
      clear hg hg'
      go_wp2
      go_ret2
      exact ⟨rfl, hb2⟩
end Go.Proofs.YtnfiapjdkjbdhaaGreat
/- Layer 1 (octet), continued. -/
namespace Go.Proofs.YtnfiapjdkjbdhaaGreat
open Go.RowKit
set_option linter.unusedVariables false
set_option linter.unusedSimpArgs false
set_option maxRecDepth 10000
set_option maxHeartbeats 400000 in
theorem get_ok (l : List UInt8) (w : World) (hl : l.length ≤ 8) :
    Calls Tryz.prog 67 #[str l] w fun e w' => e = .returned (.tuple #[.int .u64 (leV l), .int .i64 0]) ∧ Below w.heap.size w w' := by
  go_enter Tryz.func67, Tryz.ntmps67
  go_wp2
  go_loop [4, 12] (fun v i => ∃ k m : Nat, k ≤ l.length ∧ i = .int .i64 k ∧ v = .int .u64 m ∧ m = leV (l.take k)) (fun _ i => l.length - (Go.RowKit.intOf i).toNat)
  case atStart => exact ⟨0, 0, Nat.zero_le _, rfl, rfl, by simp [leV]⟩
  case round =>
    obtain ⟨k, m, hk, rfl, rfl, hm⟩ := hrel
    have Hm := Lib.hid hm
    by_cases hlt : k < l.length
    · have hm2 := leV_lt (l.take k)
      rw [← hm, List.length_take, Nat.min_eq_left hk] at hm2
      have hd := leV_take_succ l k hlt
      rw [← hm] at hd
      have Hd := Lib.hid hd
      have Hm2 := Lib.hid hm2
      clear hm hd hm2
      have hbyte := (l[k]).toNat_lt
      go_wp2
      go_round
      case rel =>
        refine ⟨k + 1, m + 256 ^ k * (l[k]).toNat, by omega, by go_num, ?_, Hd.out.symm⟩
        rw [or_step _ _ _ (by omega) hbyte Hm2.out]
      case measure => simp [Go.RowKit.intOf]; omega
    · clear hm
      go_wp2
      go_ret2
      have : k = l.length := by omega
      subst this
      exact ⟨ret2_u64 (by rw [Hm.out, List.take_length]), ((Below.refl _ _).alloc (Nat.le_refl _) _).alloc (by simp) _⟩
set_option maxHeartbeats 400000 in
theorem cut_far (l : List UInt8) (n : Int) (w : World) (hs : l.length ≤ maxLen) (hn2 : (l.length : Int) < n) :
    Calls Tryz.prog 66 #[str l, .int .i64 n] w fun e w' => e = .returned (.tuple #[str [], str [], .int .i64 6]) ∧ Below w.heap.size w w' := by
  unfold maxLen at hs
  go_enter Tryz.func66, Tryz.ntmps66
  go_wp2
  go_ret3
  exact ⟨rfl, ((Below.refl _ _).alloc (Nat.le_refl _) _).alloc (by simp) _⟩
theorem ret3_str {a b c d : ByteArray} {x : Value} (h : a = b) (k : c = d) : Ending.returned (.tuple #[.string a, .string c, x]) = .returned (.tuple #[.string b, .string d, x]) := by rw [h, k]
set_option maxHeartbeats 400000 in
theorem cut_ok (l : List UInt8) (i : Int) (n : Nat) (w : World) (hs : l.length ≤ maxLen) (hi : i = n) (hn2 : n ≤ l.length) :
    Calls Tryz.prog 66 #[str l, .int .i64 i] w fun e w' => e = .returned (.tuple #[str (l.take n), str (l.drop n), .int .i64 0]) ∧ Below w.heap.size w w' := by
  subst hi
  unfold maxLen at hs
  go_enter Tryz.func66, Tryz.ntmps66
  go_wp2
  go_quiet (fail)
  go_wp2
  go_ret3
  exact ⟨ret3_str (by simp) (by simp), below_drewN (((Below.refl _ _).alloc (Nat.le_refl _) _).alloc (by simp) _) _⟩
theorem cons_append (x : UInt8) (l : List UInt8) : Value.string ((⟨#[x]⟩ : ByteArray) ++ ⟨l.toArray⟩) = str (x :: l) := str_append [x] l
set_option maxHeartbeats 400000 in
theorem text8_ok (l : List UInt8) (w : World) (hl : l.length ≤ 255) :
    Calls Tryz.prog 206 #[str l] w fun e w' => e = .returned (.tuple #[str (UInt8.ofNat l.length :: l), .int .i64 0]) ∧ Below w.heap.size w w' := by
  have hcv := fun W n g hg => conv_one (P := Tryz.prog) 53 9 5 Tryz.underlying53 Tryz.underlying5 Tryz.underlying9 W n g hg
  go_enter Tryz.func206, Tryz.ntmps206
  go_wp2
  go_ret2
  exact ⟨ret2_str (by simp), (((Below.refl _ _).alloc (Nat.le_refl _) _).alloc (by simp) _).alloc (by simp; omega) _⟩
end Go.Proofs.YtnfiapjdkjbdhaaGreat
/- Layer 1 (octet), continued: Read8, Bare, Pad. -/
namespace Go.Proofs.YtnfiapjdkjbdhaaGreat
open Go.RowKit
set_option linter.unusedVariables false
set_option linter.unusedSimpArgs false
set_option maxRecDepth 10000
set_option maxHeartbeats 400000 in
theorem read8_short (b : UInt8) (r : List UInt8) (w : World) (hs : (b :: r).length ≤ maxLen) (h : r.length < b.toNat) :
    Calls Tryz.prog 208 #[str (b :: r)] w fun e w' => e = .returned (.tuple #[str [], str [], .int .i64 6]) ∧ Below w.heap.size w w' := by
  have hr : r.length ≤ maxLen := by simp only [List.length_cons] at hs; omega
  have hbt := b.toNat_lt
  go_enter Tryz.func208, Tryz.ntmps208
  go_wp2_with fail
  refine (cut_ok (b :: r) 1 1 _ hs rfl (by simp)).mono ?_
  rintro e w1 ⟨rfl, hb1⟩
  go_wp2_with fail
  refine (cut_far r _ _ hr (by simpa using h)).mono ?_
  rintro e w2 ⟨rfl, hb2⟩
  go_wp2_with fail
  go_ret3
  exact ⟨rfl, chain hb1 hb2⟩
set_option maxHeartbeats 400000 in
theorem read8_ok (b : UInt8) (r : List UInt8) (w : World) (hs : (b :: r).length ≤ maxLen) (h : b.toNat ≤ r.length) :
    Calls Tryz.prog 208 #[str (b :: r)] w fun e w' => e = .returned (.tuple #[str (r.take b.toNat), str (r.drop b.toNat), .int .i64 0]) ∧ Below w.heap.size w w' := by
  have hr : r.length ≤ maxLen := by simp only [List.length_cons] at hs; omega
  have hbt := b.toNat_lt
  go_enter Tryz.func208, Tryz.ntmps208
  go_wp2_with fail
  refine (cut_ok (b :: r) 1 1 _ hs rfl (by simp)).mono ?_
  rintro e w1 ⟨rfl, hb1⟩
  go_wp2_with fail
  refine (cut_ok r _ b.toNat _ hr rfl h).mono ?_
  rintro e w2 ⟨rfl, hb2⟩
  go_wp2_with fail
  go_ret3
  exact ⟨rfl, chain hb1 hb2⟩
end Go.Proofs.YtnfiapjdkjbdhaaGreat
/- Layer 1 (octet), continued: Bare. -/
namespace Go.Proofs.YtnfiapjdkjbdhaaGreat
open Go.RowKit
set_option linter.unusedVariables false
set_option linter.unusedSimpArgs false
set_option maxRecDepth 10000
end Go.Proofs.YtnfiapjdkjbdhaaGreat
/- A block of bytes, by its cells: '[]byte(s)', a store into it, 'string(b)'. -/
namespace Go.Proofs.YtnfiapjdkjbdhaaGreat
open Go.RowKit
set_option linter.unusedVariables false
set_option linter.unusedSimpArgs false
set_option maxRecDepth 10000
def Bytes (W : World) (g : Nat) (l : List UInt8) : Prop := ∀ j (h : j < l.length), W.cell? ⟨g, j, none⟩ = some (.int .u8 (l[j].toNat : Int)) ∧ W.frozen? ⟨g, j, none⟩ = false
theorem bytes_of_string {P : Program} (W : World) (src dst e : TypeId) (l : List UInt8) (hs : P.underlying src = some .string) (hd : P.underlying dst = some (.slice e)) (he : P.underlying e = some (.int .u8)) :
    ∃ cap W', (convert src dst (str l)).run P W = .ok (.slice (some ⟨W.heap.size, 0, none⟩) l.length cap) W' ∧ Bytes W' W.heap.size l ∧ Below W.heap.size W W' ∧ W'.heap.size = W.heap.size + 1 := by
  have h := run_bytes_of_string (P := P) W src dst e ⟨l.toArray⟩ hs hd he
  have hsz : (⟨l.toArray⟩ : ByteArray).size = l.length := by simp [ByteArray.size]
  rw [hsz] at h
  generalize grownCap W l.length 0 e = cap at h
  have hg := heap_alloc_new W.drew (.cells (bytesRow ⟨l.toArray⟩ cap) e ((bytesRow ⟨l.toArray⟩ cap).size, (bytesRow ⟨l.toArray⟩ cap).size + 1))
  have hg' : W.drew.heap.size = W.heap.size := rfl
  rw [hg'] at hg
  refine ⟨cap, _, h, fun j hj => ⟨?_, ?_⟩, (Below.refl _ _).drew.alloc (Nat.le_refl _) _, by simp⟩
  · rw [cell_of_row _ _ j _ e _ hg, bytesRow_at _ _ _ (by simpa using hj)]
    simp
  · have hne : j < (bytesRow ⟨l.toArray⟩ cap).size := by
      have := bytesRow_at ⟨l.toArray⟩ cap j (by simpa using hj)
      exact (Array.getElem?_eq_some_iff.1 this).1
    unfold World.frozen?
    rw [hg]
    simp
    omega
theorem Bytes.set {W : World} {g : Nat} {l : List UInt8} (h : Bytes W g l) (j : Nat) (n : Int) (x : UInt8) (hx : n = (x.toNat : Int)) (hj : j < l.length) : Bytes (W.setCell ⟨g, j, none⟩ (.int .u8 n)) g (l.set j x) := by
  subst hx
  intro i hi
  have hi' : i < l.length := by simpa using hi
  refine ⟨?_, by rw [World.frozen?_setCell]; exact (h i hi').2⟩
  by_cases e : j = i
  · subst e
    rw [List.getElem_set_self]
    exact World.cell?_setCell_same' W ⟨g, j, none⟩ _ (by rw [(h j hj).1]; rfl)
  · rw [List.getElem_set_ne e, World.cell?_setCell_other _ _ _ _ (by intro e2; injection e2 with _ e2; exact e e2)]
    exact (h i hi').1
theorem Bytes.below {W W' : World} {n g : Nat} {l : List UInt8} (h : Bytes W g l) (hb : Below n W W') (hg : g < n) : Bytes W' g l := fun j hj =>
  ⟨(hb.cell (p := ⟨g, j, none⟩) hg).trans (h j hj).1, (hb.frozen (p := ⟨g, j, none⟩) hg).trans (h j hj).2⟩
theorem Bytes.after {W W' : World} {g : Nat} {l : List UInt8} (h : Bytes W g l) (hb : Below W.heap.size W W') : Bytes W' g l := fun j hj =>
  have hg : g < W.heap.size := World.block_lt_of_cell? W _ (h j hj).1
  ⟨(hb.cell (p := ⟨g, j, none⟩) hg).trans (h j hj).1, (hb.frozen (p := ⟨g, j, none⟩) hg).trans (h j hj).2⟩
theorem Bytes.drew {W : World} {g : Nat} {l : List UInt8} (h : Bytes W g l) : Bytes W.drew g l := h
theorem string_of_bytes {P : Program} (src dst e : TypeId) (hs : P.underlying src = some (.slice e)) (he : P.underlying e = some (.int .u8)) (hd : P.underlying dst = some .string) (W : World) (g cap : Nat) (l : List UInt8) (h : Bytes W g l) :
    (convert src dst (.slice (some ⟨g, 0, none⟩) l.length cap)).run P W = .ok (str l) W :=
  run_convert_bytes_back W src dst e ⟨g, 0, none⟩ cap l hs he hd fun j hj => by
    have := (h j hj).1
    simp only [Addr.add, Nat.zero_add]
    by_cases h0 : j = 0
    · subst h0; simpa using this
    · simpa [h0] using this
theorem bytes_made {W : World} {g : Nat} {l : List UInt8} {e : TypeId} (h : W.heap[g]? = some (.cells (byteCells l) e (0, 0))) : Bytes W g l := fun j hj =>
  ⟨by rw [cell_of_row W g j _ e (0, 0) h, byteCells_get l j hj], frozen_of_row W g j _ e h⟩
end Go.Proofs.YtnfiapjdkjbdhaaGreat
/- Inodes and blocks of blocks as bytes: plain mathematics, no program. -/
namespace Go.Proofs.YtnfiapjdkjbdhaaGreat
structure Im where
  k : Nat
  n : Nat
  z : Nat
  d0 : Nat
  d1 : Nat
  d2 : Nat
  d3 : Nat
  i : Nat
deriving DecidableEq
def Im.nought : Im := ⟨0, 0, 0, 0, 0, 0, 0, 0⟩
def Im.fits (x : Im) : Prop := x.k < 256 ∧ x.n < 65536 ∧ x.z < 4294967296 ∧ x.d0 < 65536 ∧ x.d1 < 65536 ∧ x.d2 < 65536 ∧ x.d3 < 65536 ∧ x.i < 65536
def Im.bl (x : Im) : List Nat := [x.d0, x.d1, x.d2, x.d3, x.i]
def pagesN (z : Nat) : Nat := (z + 63) / 64
def inside (z : Nat) (l : List Nat) : Prop := ∀ j b, l[j]? = some b → b = 0 ∨ 64 * j < z
def once (l : List Nat) : Prop := (l.filter (· != 0)).Nodup
instance (l : List Nat) : Decidable (once l) := by unfold once; exact inferInstance
def Im.may (x : Im) : Prop := if x.k = 0 then x = Im.nought else x.k ≤ 2 ∧ x.n ≤ 200 ∧ x.z ≤ 2304 ∧ (x.k = 2 → x.z % 64 = 0) ∧ inside x.z x.bl ∧ once x.bl
noncomputable instance (x : Im) : Decidable x.may := Classical.propDecidable _
def Im.putL (x : Im) : List UInt8 := leB 1 x.k ++ leB 1 0 ++ leB 2 x.n ++ leB 4 x.z ++ (leB 2 x.d0 ++ leB 2 x.d1 ++ leB 2 x.d2 ++ leB 2 x.d3 ++ leB 2 x.i) ++ List.replicate 14 0
theorem putL_length (x : Im) : x.putL.length = 32 := by simp [Im.putL, leB_length]
def num2 (l : List UInt8) (j : Nat) : Nat := leV ((l.drop (2 * j)).take 2)
def getI (l : List UInt8) : Im := ⟨num2 l 0 % 256, num2 l 1, num2 l 2 + 65536 * num2 l 3, num2 l 4, num2 l 5, num2 l 6, num2 l 7, num2 l 8⟩
theorem num2_lt (l : List UInt8) (j : Nat) : num2 l j < 65536 := by
  have h := leV_lt ((l.drop (2 * j)).take 2)
  have h2 : ((l.drop (2 * j)).take 2).length ≤ 2 := by simp; omega
  have h3 : (256 : Nat) ^ ((l.drop (2 * j)).take 2).length ≤ 256 ^ 2 := Nat.pow_le_pow_right (by omega) h2
  unfold num2
  omega
theorem getI_fits (l : List UInt8) : (getI l).fits := by
  have h := num2_lt l
  have h2 := h 2
  have h3 := h 3
  exact ⟨Nat.mod_lt _ (by omega), h _, by show _ + _ < _; omega, h _, h _, h _, h _, h _⟩
theorem getI_put {x : Im} (h : x.fits) : getI x.putL = x := by
  obtain ⟨k, n, z, d0, d1, d2, d3, i⟩ := x
  obtain ⟨h1, h2, h3, h4, h5, h6, h7, h8⟩ := h
  simp only at h1 h2 h3 h4 h5 h6 h7 h8
  simp [getI, num2, Im.putL, leB, leV, List.replicate]
  omega
noncomputable def getL (l : List UInt8) : Option Im := if (getI l).may ∧ (getI l).putL = l then some (getI l) else none
theorem getL_put {x : Im} (hf : x.fits) (h : x.may) : getL x.putL = some x := by
  unfold getL
  rw [getI_put hf, if_pos ⟨h, rfl⟩]
theorem nought_may : Im.nought.may := by simp [Im.may, Im.nought]
theorem nought_fits : Im.nought.fits := by simp [Im.fits, Im.nought]
def catL (l : List Nat) : List UInt8 := (l.map (leB 2)).flatten
theorem catL_length (l : List Nat) : (catL l).length = 2 * l.length := by
  induction l with
  | nil => rfl
  | cons a l ih => simp only [catL, List.map_cons, List.flatten_cons, List.length_append, leB_length, List.length_cons] at ih ⊢; omega
theorem catL_append (l r : List Nat) : catL (l ++ r) = catL l ++ catL r := by simp [catL]
theorem catL_zero (n : Nat) : catL (List.replicate n 0) = List.replicate (2 * n) 0 := by
  induction n with
  | zero => rfl
  | succ n ih =>
    rw [List.replicate_succ, show (0 : Nat) :: List.replicate n 0 = [0] ++ List.replicate n 0 from rfl, catL_append, ih]
    have : 2 * (n + 1) = 2 * n + 1 + 1 := by omega
    rw [this, List.replicate_succ, List.replicate_succ]
    rfl
def tellL (l : List Nat) : List UInt8 := catL l ++ List.replicate (64 - 2 * l.length) 0
theorem tellL_length (l : List Nat) (h : l.length ≤ 32) : (tellL l).length = 64 := by simp [tellL, catL_length]; omega
theorem tellL_eq (l : List Nat) : tellL l = catL (l ++ List.replicate (32 - l.length) 0) := by
  rw [catL_append, catL_zero, tellL]
  congr 2
  omega
def numsL (s : List UInt8) : List Nat := (List.range (s.length / 2)).map (num2 s)
theorem numsL_length (s : List UInt8) : (numsL s).length = s.length / 2 := by simp [numsL]
theorem num2_cat (l : List Nat) (r : List UInt8) (j : Nat) (h : j < l.length) (hl : ∀ x ∈ l, x < 65536) : num2 (catL l ++ r) j = l[j] := by
  induction l generalizing j with
  | nil => simp at h
  | cons a l ih =>
    have ha : a < 256 ^ 2 := hl a (by simp)
    cases j with
    | zero =>
      simp only [num2, catL, List.map_cons, List.flatten_cons, Nat.mul_zero, List.drop_zero, List.getElem_cons_zero, List.append_assoc]
      rw [List.take_left' (leB_length _ _), leV_leB _ _ ha]
    | succ j =>
      have e : num2 (catL (a :: l) ++ r) (j + 1) = num2 (catL l ++ r) j := by
        simp only [num2, catL, List.map_cons, List.flatten_cons, List.append_assoc]
        rw [show 2 * (j + 1) = 2 + 2 * j by omega, ← List.drop_drop, List.drop_left' (leB_length _ _)]
      rw [e, ih j (by simpa using h) fun x hx => hl x (by simp [hx])]
      rfl
theorem numsL_cat (l : List Nat) (hl : ∀ x ∈ l, x < 65536) : numsL (catL l) = l := by
  apply List.ext_getElem
  · simp [numsL, catL_length]
  · intro j h1 h2
    have := num2_cat l [] j h2 hl
    simpa [numsL] using this
theorem nums_tell {l : List Nat} (hl : ∀ x ∈ l, x < 65536) : numsL (tellL l) = l ++ List.replicate (32 - l.length) 0 := by
  rw [tellL_eq, numsL_cat]
  intro x hx
  rcases List.mem_append.1 hx with hx | hx
  · exact hl x hx
  · rw [(List.mem_replicate.1 hx).2]; omega
theorem partsL_map2 : ∀ (f : Nat) (s : List UInt8), s.length ≤ f → ∀ n, s.length = 2 * n → (partsL 2 f s).map leV = numsL s := by
  intro f
  induction f with
  | zero => intro s h n _; have : s = [] := List.eq_nil_of_length_eq_zero (by omega); subst this; rfl
  | succ f ih =>
    intro s h n hn
    by_cases h0 : s = []
    · subst h0; rw [partsL_nil]; rfl
    · have hp : 0 < s.length := List.length_pos_iff.2 h0
      have e : numsL s = leV (s.take 2) :: numsL (s.drop 2) := by
        apply List.ext_getElem
        · simp [numsL]; omega
        · intro j h1 h2
          cases j with
          | zero => simp [numsL, num2]
          | succ j => simp [numsL, num2, List.drop_drop, show 2 + 2 * j = 2 * (j + 1) by omega]
      rw [partsL, if_neg h0, List.map_cons, ih (s.drop 2) (by simp; omega) (n - 1) (by simp; omega), e]
end Go.Proofs.YtnfiapjdkjbdhaaGreat
namespace Go.Proofs.YtnfiapjdkjbdhaaGreat
open Go.RowKit
set_option linter.unusedVariables false
set_option linter.unusedSimpArgs false
set_option maxRecDepth 10000
abbrev w16 (n : Nat) : Value := .int .u16 (n : Int)
abbrev Im.v (x : Im) : Value := .agg #[.int .u8 x.k, w16 x.n, .int .u32 x.z, w16 x.d0, w16 x.d1, w16 x.d2, w16 x.d3, w16 x.i]
abbrev fiveV (a b c d e : Nat) : Value := .agg #[w16 a, w16 b, w16 c, w16 d, w16 e]
theorem copy_cells (W : World) (b g o dl dc sl sc : Nat) (cs : List Value) (hn : cs.length = Nat.min sl dl) (h1 : ∀ v ∈ cs, v.oneCell' = true)
    (hsrc : ∀ j v, cs[j]? = some v → W.cell? ⟨g, o + j, none⟩ = some v) (old : Array Value) (t : TypeId) (hb : W.heap[b]? = some (.cells old t (0, 0))) (hsz : cs.length ≤ old.size) :
    (Builtin.copy_ #[75, 75] 3 #[.slice (some ⟨b, 0, none⟩) dl dc, .slice (some ⟨g, o, none⟩) sl sc]).run Tryz.prog W = .ok (goInt cs.length) (W.setCells b 0 cs) :=
  run_copy_cells W 75 75 3 38 b 0 dl dc ⟨g, o, none⟩ sl sc cs Tryz.underlying75 (by kernel_rfl) hn
    (fun j v hj => by
      have := hsrc j v hj
      unfold Addr.add
      split
      · rename_i e; subst e; simpa using this
      · exact this)
    (fun j hj => by
      rw [cell_of_row W b (0 + j) old t (0, 0) hb]
      simp; omega)
    (fun j hj => frozen_of_row W b _ old t hb) h1
set_option maxHeartbeats 400000 in
theorem pages_any (z : Nat) (w : World) (hz : z < 4294967296) :
    Calls Tryz.prog 72 #[.int .u32 z] w fun e w' => e = .returned (.int .i64 (pagesN z)) ∧ w' = w := by
  unfold pagesN
  go_enter Tryz.func72, Tryz.ntmps72
  go_wp2
  go_ret
  refine ⟨congrArg (fun n => Ending.returned (.int .i64 n)) ?_, rfl⟩
  omega
set_option maxHeartbeats 400000 in
theorem sized_ok (l : List UInt8) (n : Nat) (w : World) (hn : n ≤ 1000) (h : l.length = n) :
    Calls Tryz.prog 134 #[str l, .int .i64 n] w fun e w' => e = .returned (.int .i64 0) ∧ w' = w := by
  go_enter Tryz.func134, Tryz.ntmps134
  go_wp2
  go_ret
  exact ⟨rfl, rfl⟩
theorem four_src {W : World} {g o : Nat} {a b c d : Value} (h0 : W.cell? ⟨g, o, none⟩ = some a) (h1 : W.cell? ⟨g, o + 1, none⟩ = some b) (h2 : W.cell? ⟨g, o + 2, none⟩ = some c) (h3 : W.cell? ⟨g, o + 3, none⟩ = some d) :
    ∀ j v, [a, b, c, d][j]? = some v → W.cell? ⟨g, o + j, none⟩ = some v := fun j v hj => by
  match j, hj with
  | 0, hj => simp at hj; subst hj; exact h0
  | 1, hj => simp at hj; subst hj; exact h1
  | 2, hj => simp at hj; subst hj; exact h2
  | 3, hj => simp at hj; subst hj; exact h3
abbrev five0 : Array Value := #[.int .u16 0, .int .u16 0, .int .u16 0, .int .u16 0, .int .u16 0]
def fillA (c : Array Value) : Nat → List Value → Array Value
  | _, [] => c
  | o, v :: r => fillA (c.setIfInBounds o v) (o + 1) r
theorem setCells_new (w : World) (t : TypeId) : ∀ (cs : List Value) (o : Nat) (c : Array Value), (w.alloc (.cells c t)).setCells w.heap.size o cs = w.alloc (.cells (fillA c o cs) t)
  | [], _, _ => rfl
  | v :: r, o, c => by rw [World.setCells, World.setCell_alloc_new, setCells_new w t r (o + 1), fillA]
theorem setCells_drew (b : Nat) : ∀ (cs : List Value) (o : Nat) (w : World), w.drew.setCells b o cs = (w.setCells b o cs).drew
  | [], _, _ => rfl
  | v :: r, o, w => by
    rw [World.setCells, World.setCells, ← setCells_drew b r (o + 1)]
    rfl
theorem cell_alloc_old {W : World} (o : Obj) {a : Addr} {v : Value} (h : W.cell? a = some v) : (W.alloc o).drew.cell? a = some v :=
  ((((Below.refl _ _).alloc (Nat.le_refl _) o).drew).cell (p := a) (World.block_lt_of_cell? W _ h)).trans h
theorem run_copy_new (W : World) (g o dl dc sl sc n : Nat) (t : TypeId) (cs : List Value) (old : Array Value) (hn : cs.length = Nat.min sl dl) (h1 : ∀ v ∈ cs, v.oneCell' = true)
    (hsrc : ∀ j v, cs[j]? = some v → W.cell? ⟨g, o + j, none⟩ = some v) (hsz : cs.length ≤ old.size) (hW : n = W.heap.size) :
    (Builtin.copy_ #[75, 75] 3 #[.slice (some ⟨n, 0, none⟩) dl dc, .slice (some ⟨g, o, none⟩) sl sc]).run Tryz.prog (W.alloc (.cells old t)).drew = .ok (goInt cs.length) (W.alloc (.cells (fillA old 0 cs) t)).drew := by
  subst hW
  rw [copy_cells (W.alloc (.cells old t)).drew W.heap.size g o dl dc sl sc cs hn h1 (fun j v hj => cell_alloc_old _ (hsrc j v hj)) old t (heap_alloc_new W _) hsz, setCells_drew, setCells_new]
theorem heap_mid (w : World) (A B C : Obj) : (((w.alloc A).alloc B).alloc C).drew.heap[w.heap.size + 1]? = some B := by
  show (((w.alloc A).alloc B).alloc C).heap[w.heap.size + 1]? = some B
  rw [heap_alloc_old _ _ (by simp)]
  have := heap_alloc_new (w.alloc A) B
  simpa using this
set_option maxHeartbeats 1000000 in
theorem named_any (x : Im) (w : World) :
    Calls Tryz.prog 90 #[x.v] w fun e w' => e = .returned (fiveV x.d0 x.d1 x.d2 x.d3 x.i) ∧ Below w.heap.size w w' := by
  have hcp : ∀ W : World, W.cell? ⟨w.heap.size, 3, none⟩ = some (w16 x.d0) → W.cell? ⟨w.heap.size, 4, none⟩ = some (w16 x.d1) → W.cell? ⟨w.heap.size, 5, none⟩ = some (w16 x.d2) → W.cell? ⟨w.heap.size, 6, none⟩ = some (w16 x.d3) → w.heap.size + 1 + 1 = W.heap.size →
    (Builtin.copy_ #[75, 75] 3 #[.slice (some ⟨w.heap.size + 1 + 1, 0, none⟩) 5 5, .slice (some ⟨w.heap.size, 3, none⟩) 4 4]).run Tryz.prog (W.alloc (.cells five0 170)).drew =
      .ok (goInt 4) (W.alloc (.cells #[w16 x.d0, w16 x.d1, w16 x.d2, w16 x.d3, .int .u16 0] 170)).drew := fun W h0 h1 h2 h3 hs =>
    run_copy_new W w.heap.size 3 5 5 4 4 _ 170 [w16 x.d0, w16 x.d1, w16 x.d2, w16 x.d3] five0 rfl (by simp [Value.oneCell']) (four_src h0 h1 h2 h3) (by simp [five0]) hs
  go_enter Tryz.func90, Tryz.ntmps90
  go_wp2_with fail
  go_region
  go_wp2
  refine bodyPost_ret (v := fiveV x.d0 x.d1 x.d2 x.d3 x.i) ?_ rfl ⟨rfl, ?_⟩
  · exact results_cell_row rfl _ _ (w.heap.size + 1) 170 _ (0, 0) _ rfl (heap_mid _ _ _ _) Tryz.underlying170 rfl (by kernel_rfl)
  · exact ((((Below.refl _ _).alloc (Nat.le_refl _) _).alloc (by simp) _).alloc (by simp; omega) _).drew
def keptL (n : Nat) (a b c d e : Nat) : Value := fiveV (if 0 < n then a else 0) (if 1 < n then b else 0) (if 2 < n then c else 0) (if 3 < n then d else 0) (if 4 < n then e else 0)
theorem five_src {W : World} {g : Nat} {a b c d e : Value} (h0 : W.cell? ⟨g, 0, none⟩ = some a) (h1 : W.cell? ⟨g, 1, none⟩ = some b) (h2 : W.cell? ⟨g, 2, none⟩ = some c) (h3 : W.cell? ⟨g, 3, none⟩ = some d) (h4 : W.cell? ⟨g, 4, none⟩ = some e) (n : Nat) :
    ∀ j v, ([a, b, c, d, e].take n)[j]? = some v → W.cell? ⟨g, 0 + j, none⟩ = some v := fun j v hj => by
  rw [Nat.zero_add]
  rw [List.getElem?_take] at hj
  split at hj
  · match j, hj with
    | 0, hj => simp at hj; subst hj; exact h0
    | 1, hj => simp at hj; subst hj; exact h1
    | 2, hj => simp at hj; subst hj; exact h2
    | 3, hj => simp at hj; subst hj; exact h3
    | 4, hj => simp at hj; subst hj; exact h4
    | j + 5, hj => simp at hj
  · cases hj
set_option maxHeartbeats 2000000 in
theorem iWithin_any (a b c d e z : Nat) (w : World) (hz : z < 4294967296) :
    Calls Tryz.prog 193 #[fiveV a b c d e, .int .u32 z] w fun f w' => f = .returned (keptL (pagesN z) a b c d e) ∧ Below w.heap.size w w' := by
  have hP := fun W => pages_any z W hz
  obtain ⟨m, hm⟩ : ∃ m, m = min (pagesN z) 5 := ⟨_, rfl⟩
  have hm5 : m ≤ 5 := by omega
  have hmi : (if (5 : Int) < ((pagesN z : Nat) : Int) then (5 : Int) else ((pagesN z : Nat) : Int)) = (m : Int) := by split <;> omega
  have hK : keptL (pagesN z) a b c d e = keptL m a b c d e := by
    have : ∀ j, j < 5 → ((j < pagesN z) = (j < m)) := fun j hj => by rw [hm]; simp only [eq_iff_iff]; omega
    simp only [keptL, this 0 (by omega), this 1 (by omega), this 2 (by omega), this 3 (by omega), this 4 (by omega)]
  rw [hK]
  clear hK
  have hcp : ∀ W : World, W.cell? ⟨w.heap.size, 0, none⟩ = some (w16 a) → W.cell? ⟨w.heap.size, 1, none⟩ = some (w16 b) → W.cell? ⟨w.heap.size, 2, none⟩ = some (w16 c) → W.cell? ⟨w.heap.size, 3, none⟩ = some (w16 d) → W.cell? ⟨w.heap.size, 4, none⟩ = some (w16 e) → w.heap.size + 1 + 1 = W.heap.size →
    (Builtin.copy_ #[75, 75] 3 #[.slice (some ⟨w.heap.size + 1 + 1, 0, none⟩) 5 5, .slice (some ⟨w.heap.size, 0, none⟩) m 5]).run Tryz.prog (W.alloc (.cells five0 170)).drew =
      .ok (goInt m) (W.alloc (.cells (keptL m a b c d e).cells 170)).drew := fun W h0 h1 h2 h3 h4 hs => by
    have hl : ([w16 a, w16 b, w16 c, w16 d, w16 e].take m).length = m := by simp; omega
    have := run_copy_new W w.heap.size 0 5 5 m 5 _ 170 ([w16 a, w16 b, w16 c, w16 d, w16 e].take m) five0 (by rw [hl]; exact (Nat.min_eq_left hm5).symm) (fun v hv => by have := List.mem_of_mem_take hv; simp at this; rcases this with rfl | rfl | rfl | rfl | rfl <;> rfl) (five_src h0 h1 h2 h3 h4 m) (by rw [hl]; exact hm5) hs
    rw [this, hl]
    congr 3
    match m, hm5 with
    | 0, _ | 1, _ | 2, _ | 3, _ | 4, _ | 5, _ => rfl
  have hc : (keptL m a b c d e).cells = #[w16 (if 0 < m then a else 0), w16 (if 1 < m then b else 0), w16 (if 2 < m then c else 0), w16 (if 3 < m then d else 0), w16 (if 4 < m then e else 0)] := rfl
  rw [hc] at hcp
  have HP := Lib.hid hP
  clear hP
  unfold keptL
  generalize (if 0 < m then a else 0) = a' at *
  generalize (if 1 < m then b else 0) = b' at *
  generalize (if 2 < m then c else 0) = c' at *
  generalize (if 3 < m then d else 0) = d' at *
  generalize (if 4 < m then e else 0) = e' at *
  generalize pagesN z = q at *
  clear hc hm
  have h6 : m = 0 ∨ m = 1 ∨ m = 2 ∨ m = 3 ∨ m = 4 ∨ m = 5 := by omega
  clear hm5
  rcases h6 with rfl | rfl | rfl | rfl | rfl | rfl
  all_goals
    go_enter Tryz.func193, Tryz.ntmps193
    go_wp2_with fail
    refine still_tail 5 (by kernel_rfl) (by kernel_rfl) ?_
    simp only [List.take_succ_cons, List.take_zero, List.drop_succ_cons, List.drop_zero]
    repeat still_step
    still_call (HP.out _)
    repeat still_step
    refine wpStill_nil ?_
    go_wp2
    refine bodyPost_ret (v := fiveV a' b' c' d' e') ?_ rfl ⟨rfl, ?_⟩
    · exact results_cell_row rfl _ _ (w.heap.size + 1) 170 _ (0, 0) _ rfl (heap_mid _ _ _ _) Tryz.underlying170 rfl (by kernel_rfl)
    · exact ((((Below.refl _ _).alloc (Nat.le_refl _) _).alloc (by simp) _).alloc (by simp; omega) _).drew
end Go.Proofs.YtnfiapjdkjbdhaaGreat
/- Layer 7 (inode), the document's own helpers: two, at, blocks. -/
namespace Go.Proofs.YtnfiapjdkjbdhaaGreat
open Go.RowKit
set_option linter.unusedVariables false
set_option linter.unusedSimpArgs false
set_option maxRecDepth 10000
def U16s (w : World) (v : Value) (l : List Nat) : Prop :=
  ∃ A c, v = .slice A l.length c ∧ ∀ (j n : Nat), l[j]? = some n → ∃ a : Addr, A = some a ∧ w.cell? (a.add j) = some (w16 n)
theorem U16s.below {w w' : World} {v : Value} {l : List Nat} (h : U16s w v l) (hb : Below w.heap.size w w') : U16s w' v l := by
  obtain ⟨A, c, hv, hc⟩ := h
  refine ⟨A, c, hv, fun j n hj => ?_⟩
  obtain ⟨a, hA, hcell⟩ := hc j n hj
  exact ⟨a, hA, (hb.cell (World.block_lt_of_cell? w _ hcell)).trans hcell⟩
theorem U16s.drew {w : World} {v : Value} {l : List Nat} (h : U16s w v l) : U16s w.drew v l := h
theorem u16s_row {w : World} {g n c : Nat} {l : List Nat} {t : TypeId} {cs : Array Value} {fr : Nat × Nat} (hg : w.heap[g]? = some (.cells cs t fr)) (hl : l.length = n) (hc : ∀ j m : Nat, l[j]? = some m → cs[j]? = some (w16 m)) : U16s w (.slice (some ⟨g, 0, none⟩) n c) l := by
  subst hl
  refine ⟨some ⟨g, 0, none⟩, c, rfl, fun j m hj => ⟨_, rfl, ?_⟩⟩
  have h := cell_of_row w g j cs t fr hg
  have e : (⟨g, 0, none⟩ : Addr).add j = ⟨g, j, none⟩ := by unfold Addr.add; split <;> simp_all
  rw [e, h, hc j m hj]
theorem bl_at (x : Im) (a b c d e : Value) (ha : a = w16 x.d0) (hb : b = w16 x.d1) (hc : c = w16 x.d2) (hd : d = w16 x.d3) (he : e = w16 x.i) : ∀ j m : Nat, x.bl[j]? = some m → #[a, b, c, d, e][j]? = some (w16 m) := fun j m hj => by
  subst ha hb hc hd he
  match j, hj with
  | 0, hj | 1, hj | 2, hj | 3, hj | 4, hj => simp [Im.bl] at hj; subst hj; rfl
  | j + 5, hj => simp [Im.bl] at hj
end Go.Proofs.YtnfiapjdkjbdhaaGreat
/- Rows that a call makes for itself: append of one, and what is read. -/
namespace Go.Proofs.YtnfiapjdkjbdhaaGreat
open Go.RowKit
set_option linter.unusedVariables false
set_option linter.unusedSimpArgs false
set_option maxRecDepth 10000
theorem grown_of_below {w w' : World} (h : Below w.heap.size w w') (row : Option Nat) : w.grownBy w' row := ⟨h.os, h.tape, h.output, h.size, fun i hi _ => h.block i hi⟩
theorem own_below {w w' : World} {base : Nat} {e : TypeId} {size : Nat} {v : Value} {n : Nat} {xs : List Value} (h : w.ownsRow base e size v n xs) (hb : Below w.heap.size w w') : w'.ownsRow base e size v n xs :=
  h.kept (grown_of_below hb none) (by cases hv : v.ownBlock <;> simp)
theorem wpList_append_one {P : Program} {w0 W0 : World} {ops : Array Oper} {rest : List Oper} {o : Oper} {a : Act} {Q : Exit → Act → World → Prop} (hgd : o.guard = none) (s x : Operand) (t : TypeId)
    (ho : o.op = .call { callee := .builtin .append, args := #[s, x], argTypes := #[t, t] })
    (e : TypeId) (z : Value) (bytes : Nat) (ht : P.underlying t = some (.slice e)) (hinfo : (P.info? e).map (fun i => (i.zero, i.size, i.bytes)) = some (some z, 1, bytes)) (hzs : z.cells.size = 1)
    (v : Value) (n : Nat) (xs : List Value) (hs : a.eval s = v) (hown : w0.ownsRow W0.heap.size e 1 v n xs)
    (u : Value) (g c : Nat) (hx : a.eval x = .slice (some ⟨g, 0, none⟩) 1 c) (hg : g = w0.heap.size) (hu : u.oneCell' = true)
    (h63 : n + 1 ≤ maxLen) (hbytes : (n + 1) * bytes ≤ 140737488355328) (hbel : Below W0.heap.size W0 w0)
    (h : ∀ v' w', w'.ownsRow W0.heap.size e 1 v' (n + 1) (xs ++ [u]) → Below W0.heap.size W0 w' → wpList P ops Q rest (a.put o.dst v') w') : wpList P ops Q (o :: rest) a (w0.alloc (.cells #[u] e)) := by
  obtain ⟨i0, hi, hz0, hz1, hz2⟩ := info_parts hinfo
  refine wpList_append_own _ hgd s x t ho W0.heap.size e i0 z 1 bytes ht hi hz0 hz1 hz2 hzs (by omega) v n xs hs (hown.alloc _) ⟨g, 0, none⟩ 1 c [u] hx rfl ?_ ?_ h63 hbytes ?_ ?_
  · intro j u' hj
    match j, hj with
    | 0, hj => simp at hj; subst hj hg; simp [Addr.add]
  · intro u' hu'
    simp at hu'
    subst hu'
    exact hu
  · have := hbel.size
    simp
    omega
  · intro v' w' hown' hgrow _
    refine h v' w' hown' ((hbel.alloc hbel.size _).grown hgrow (by have := hbel.size; simp; omega) ?_)
    intro k hk
    exact (hown.lt k hk).1
theorem addr_add0 (g j : Nat) : (⟨g, 0, none⟩ : Addr).add j = ⟨g, j, none⟩ := by unfold Addr.add; split <;> simp_all
def Row (w : World) (v : Value) (xs : List Value) : Prop :=
  ∃ A c, v = .slice A xs.length c ∧ ∀ j u, xs[j]? = some u → ∃ g, A = some ⟨g, 0, none⟩ ∧ w.cell? ⟨g, j, none⟩ = some u
theorem row_of_own {w : World} {base : Nat} {e : TypeId} {v : Value} {n : Nat} {xs : List Value} (h : w.ownsRow base e 1 v n xs) : Row w v xs := by
  have hl : xs.length = n := by have := h.1; omega
  subst hl
  rcases h.2 with ⟨rfl, h0⟩ | ⟨g, cap, cur, hv, hrest⟩
  · refine ⟨none, 0, by rw [h0], fun j u hj => ?_⟩
    have := (List.getElem?_eq_some_iff.1 hj).1
    omega
  · refine ⟨some ⟨g, 0, none⟩, cap, hv, fun j u hj => ⟨g, rfl, ?_⟩⟩
    have := h.cells (g := g) (by rw [hv]; rfl) j u hj
    rwa [addr_add0] at this
end Go.Proofs.YtnfiapjdkjbdhaaGreat
namespace Go.Proofs.YtnfiapjdkjbdhaaGreat
open Go.RowKit Go.Lib
set_option linter.unusedVariables false
set_option linter.unusedSimpArgs false
set_option maxRecDepth 10000
theorem num16Info : (Tryz.prog.info? 38).map (fun i => (i.zero, i.size, i.bytes)) = some (some (.int .u16 0), 1, 2) := by kernel_rfl
abbrev numV (l : List Nat) : List Value := l.map fun n => w16 n
theorem numV_length (l : List Nat) : (numV l).length = l.length := List.length_map _
theorem numV_append (a b : List Nat) : numV (a ++ b) = numV a ++ numV b := List.map_append
theorem numV_at {l : List Nat} {j n : Nat} (h : l[j]? = some n) : (numV l)[j]? = some (w16 n) := by simp [h]
theorem numV_one (l : List Nat) : ∀ u ∈ numV l, u.oneCell' = true := by
  intro u hu
  obtain ⟨n, -, rfl⟩ := List.mem_map.1 hu
  rfl
theorem u16s_own {w : World} {base : Nat} {v : Value} {n : Nat} {l : List Nat} (h : w.ownsRow base 38 1 v n (numV l)) : U16s w v l := by
  obtain ⟨A, c, hv, hc⟩ := row_of_own h
  rw [numV_length] at hv
  refine ⟨A, c, hv, fun j m hj => ?_⟩
  obtain ⟨g, rfl, hg⟩ := hc j _ (numV_at hj)
  exact ⟨_, rfl, by rw [addr_add0]; exact hg⟩
theorem wpList_append_run {P : Program} {ops : Array Oper} {rest : List Oper} {o : Oper} {a : Act} {w : World} {Q : Exit → Act → World → Prop} (hg : o.guard = none) (s x : Operand) (t tn : TypeId)
    (hop : o.op = Op.call { callee := Callee.builtin Builtin.append, args := #[s, x], argTypes := #[t, tn] }) (u v : Value) (hs : a.eval s = u) (hx : a.eval x = v) (v' : Value) (w' : World)
    (hrun : (Builtin.append_ #[t, tn] o.type #[u, v]).run P w = .ok v' w') (h : wpList P ops Q rest (a.put o.dst v') w') : wpList P ops Q (o :: rest) a w := by
  refine wpList_plain hg fun K hK' => ?_
  unfold Oper.wp
  simp [execOp, hop, resolve, invoke, builtin, hs, hx, hrun, Result.andThen]
  exact hK' _ _ h
theorem grow_pos (n : Nat) (w : World) (h0 : 0 < n) (hn : n ≤ 100000) :
    Calls Tryz.prog 224 #[.slice none 0 0, .int .i64 (n : Int)] w fun e w' => ∃ cap, e = .returned (.slice (some ⟨w.heap.size, 0, none⟩) 0 cap) ∧ n ≤ cap ∧ w'.ownsRow w.heap.size 38 1 (.slice (some ⟨w.heap.size, 0, none⟩) 0 cap) 0 [] ∧ Below w.heap.size w w' := by
  obtain ⟨i0, hi, hz0, hz1, hz2⟩ := info_parts num16Info
  have hap := run_append_nil_zeros (P := Tryz.prog) w 75 3 75 38 i0 (.int .u16 0) .i64 .i64 Tryz.underlying75 Tryz.underlying3 hi hz0 n h0 (by omega) (by omega) (by rw [hz2]; omega)
  have hge := grownCap_ge w n 0 38
  have hle := grownCap_le_maxLen w n 0 38 (by unfold maxLen; omega)
  generalize grownCap w n 0 38 = cap at *
  have hown : (w.drew.alloc (.cells (Builtin.zeroCells (Value.int .u16 0).cells n ++ Builtin.zeroCells (Value.int .u16 0).cells (cap - n)) 38)).ownsRow w.heap.size 38 1 (.slice (some ⟨w.heap.size, 0, none⟩) 0 cap) 0 [] :=
    World.ownsRow_made w.drew _ cap (Nat.le_refl _) hle (by simp [Builtin.zeroCells, Value.cells]; omega)
  have hbel : Below w.heap.size w (w.drew.alloc (.cells (Builtin.zeroCells (Value.int .u16 0).cells n ++ Builtin.zeroCells (Value.int .u16 0).cells (cap - n)) 38)) := ((Below.refl _ w).drew).alloc (Nat.le_refl _) _
  generalize Builtin.zeroCells (Value.int .u16 0).cells n ++ Builtin.zeroCells (Value.int .u16 0).cells (cap - n) = cs at *
  have HO := Lib.hid hown
  have HB := Lib.hid hbel
  unfold maxLen at hle
  clear hown hbel hi
  go_enter Tryz.func224, Tryz.ntmps224
  go_wp2_with (at_builtin; refine wpList_append_run rfl _ _ _ _ rfl _ _ rfl rfl _ _ hap ?_)
  go_ret
  exact ⟨cap, rfl, hge, HO.out, HB.out⟩
def sumLen (vs : List (Value × List Nat)) (k : Nat) : Nat := ((vs.take k).flatMap (·.2)).length
theorem sumLen_succ (vs : List (Value × List Nat)) (k : Nat) (v : Value) (l : List Nat) (h : vs[k]? = some (v, l)) : (vs.take (k + 1)).flatMap (·.2) = (vs.take k).flatMap (·.2) ++ l := by
  obtain ⟨hk, he⟩ := List.getElem?_eq_some_iff.1 h
  rw [List.take_succ_eq_append_getElem hk, List.flatMap_append, he]
  simp
theorem sumLen_le (vs : List (Value × List Nat)) (h : ∀ p ∈ vs, p.2.length ≤ 100) : ∀ k, sumLen vs k ≤ 100 * k := by
  intro k
  induction k with
  | zero => simp [sumLen]
  | succ k ih =>
    by_cases hk : k < vs.length
    · have h1 := sumLen_succ vs k vs[k].1 vs[k].2 (List.getElem?_eq_getElem hk)
      have h2 := h vs[k] (List.getElem_mem _)
      unfold sumLen at ih ⊢
      rw [h1, List.length_append]
      omega
    · unfold sumLen at ih ⊢
      rw [List.take_of_length_le (by omega)]
      rw [List.take_of_length_le (by omega)] at ih
      omega
set_option maxHeartbeats 1000000 in
theorem concat_any (vs : List (Value × List Nat)) (B c : Nat) (w : World) (hB : ∀ j v l, vs[j]? = some (v, l) → w.cell? ⟨B, j, none⟩ = some v ∧ U16s w v l ∧ ∀ m c, v = .slice none m c → c = 0) (hn : vs.length ≤ 10) (hl : ∀ p ∈ vs, p.2.length ≤ 100) (h0 : 0 < (vs.flatMap (·.2)).length) :
    Calls Tryz.prog 196 #[.slice (some ⟨B, 0, none⟩) vs.length c] w fun e w' => ∃ c2, e = .returned (.slice (some ⟨w.heap.size, 0, none⟩) (vs.flatMap (·.2)).length c2) ∧ U16s w' (.slice (some ⟨w.heap.size, 0, none⟩) (vs.flatMap (·.2)).length c2) (vs.flatMap (·.2)) ∧ Below w.heap.size w w' := by
  have hle := sumLen_le vs hl
  have hall : vs.flatMap (·.2) = (vs.take vs.length).flatMap (·.2) := by rw [List.take_length]
  have HLE := Lib.hid hle
  have HB := Lib.hid hB
  clear hB hle hl
  go_enter Tryz.func196, Tryz.ntmps196
  go_wp2_with fail
  go_loopw [3, 11] (fun s i wr => ∃ k : Nat, k ≤ vs.length ∧ s = .int .i64 (sumLen vs k : Int) ∧ i = .int .i64 k ∧ w = wr) (fun _ i _ => vs.length - (Go.RowKit.intOf i).toNat)
  case atStart => exact ⟨0, Nat.zero_le _, by simp [sumLen], rfl, rfl⟩
  case round =>
    obtain ⟨k, hk, rfl, rfl, rfl⟩ := hrel
    by_cases hlt : k < vs.length
    · obtain ⟨p, hp⟩ : ∃ p, p = vs[k] := ⟨_, rfl⟩
      obtain ⟨v, l⟩ := p
      obtain ⟨x0, hu, -⟩ := HB.out k v l (by rw [hp]; exact List.getElem?_eq_getElem hlt)
      obtain ⟨A, c2, rfl, -⟩ := hu
      have h1 := HLE.out k
      have h2 := HLE.out (k + 1)
      have hsum : sumLen vs (k + 1) = sumLen vs k + l.length := by
        unfold sumLen
        rw [sumLen_succ vs k _ l (by rw [hp]; exact List.getElem?_eq_getElem hlt), List.length_append]
      have HS := Lib.hid hsum
      have hlen : sumLen vs k + l.length ≤ 1000 := by omega
      have hI : (k : Int) < (vs.length : Int) := by omega
      clear h1 h2 hsum hp
      generalize hm : sumLen vs k = m at *
      have HM := Lib.hid hm
      clear hm
      go_wp2_with fail
      go_roundw
      case rel => exact ⟨k + 1, by omega, by rw [HS.out]; simp, by simp, by trivial⟩
      case measure => simp [Go.RowKit.intOf]; omega
    · obtain rfl : k = vs.length := by omega
      have hpos : 0 < sumLen vs vs.length := by unfold sumLen; rw [← hall]; exact h0
      have hbig : sumLen vs vs.length ≤ 1000 := by have := HLE.out vs.length; omega
      have HG := Lib.hid (grow_pos (sumLen vs vs.length) w hpos (by omega))
      have HT := Lib.hid (show (vs.flatMap (·.2)).length = sumLen vs vs.length by unfold sumLen; rw [← hall])
      have hmono : ∀ k v l, vs[k]? = some (v, l) → sumLen vs k + l.length ≤ sumLen vs vs.length := fun k v l h => by
        have h1 := congrArg List.length (sumLen_succ vs k v l h)
        have h2 : (vs.take (k + 1)).flatMap (·.2) ++ (vs.drop (k + 1)).flatMap (·.2) = vs.flatMap (·.2) := by rw [← List.flatMap_append, List.take_append_drop]
        have h3 := congrArg List.length h2
        rw [List.length_append] at h1 h3
        unfold sumLen
        rw [List.take_length]
        omega
      have HMo := Lib.hid hmono
      clear hmono
      generalize hN : sumLen vs vs.length = N at *
      have HN := Lib.hid hN
      clear hN h0 hall
      go_wp2_with fail
      refine HG.out.mono ?_
      rintro e w1 ⟨cap, rfl, hcap, hown, hb1⟩
      have HO := Lib.hid hown
      have HB1 := Lib.hid hb1
      have hsz1 := hb1.size
      clear hown hb1
      generalize hg : w.heap.size = g at *
      go_wp2_with fail
      go_loopw [6, 27] (fun s i wr => ∃ k : Nat, k ≤ vs.length ∧ s = .slice (some ⟨g, 0, none⟩) (sumLen vs k) cap ∧ i = .int .i64 k ∧ wr.ownsRow g 38 1 (.slice (some ⟨g, 0, none⟩) (sumLen vs k) cap) (sumLen vs k) (numV ((vs.take k).flatMap (·.2))) ∧ Below g w wr) (fun _ i _ => vs.length - (Go.RowKit.intOf i).toNat)
      case atStart => exact ⟨0, Nat.zero_le _, rfl, rfl, HO.out, HB1.out⟩
      case round =>
        obtain ⟨k, hk, rfl, rfl, hown, hb⟩ := hrel
        by_cases hlt : k < vs.length
        · obtain ⟨p, hp⟩ : ∃ p, p = vs[k] := ⟨_, rfl⟩
          obtain ⟨v, l⟩ := p
          have hk2 : vs[k]? = some (v, l) := by rw [hp]; exact List.getElem?_eq_getElem hlt
          obtain ⟨x0, hu, hnil⟩ := HB.out k v l hk2
          have x1 := (hb.cell (p := ⟨B, k, none⟩) (by have := World.block_lt_of_cell? w _ x0; rw [← hg]; exact this)).trans x0
          have hu2 : U16s wr v l := by
            obtain ⟨A, c2, hv, hc⟩ := hu
            refine ⟨A, c2, hv, fun j n hj => ?_⟩
            obtain ⟨a, hA, hcell⟩ := hc j n hj
            exact ⟨a, hA, (hb.cell (by have := World.block_lt_of_cell? w _ hcell; rw [← hg]; exact this)).trans hcell⟩
          obtain ⟨A, c2, rfl, hcs⟩ := hu2
          have HCS := Lib.hid hcs
          have hsucc := sumLen_succ vs k _ l hk2
          have hs1 : sumLen vs (k + 1) = sumLen vs k + l.length := by unfold sumLen; rw [hsucc, List.length_append]
          have hroom : sumLen vs k + l.length ≤ cap := Nat.le_trans (HMo.out k _ l hk2) hcap
          have hI : (k : Int) < (vs.length : Int) := by omega
          have HSU := Lib.hid hsucc
          have HS1 := Lib.hid hs1
          have HOw := Lib.hid hown
          have HBw := Lib.hid hb
          clear hsucc hs1 hown hb hcs hu x0 hp hk2
          generalize hm : sumLen vs k = m at *
          clear hm
          obtain ⟨i0, hi, hz0, hz1, hz2⟩ := info_parts num16Info
          have hnone : A = none → l.length = 0 ∧ c2 = 0 := fun e => by
            subst e
            refine ⟨?_, hnil _ _ rfl⟩
            cases l with
            | nil => rfl
            | cons n r => obtain ⟨a, h1, -⟩ := HCS.out 0 n rfl; cases h1
          have hnews : ∀ ad, A = some ad → ∀ j u, (numV l)[j]? = some u → wr.cell? (ad.add j) = some u := fun ad e j u hj => by
            subst e
            rw [List.getElem?_map, Option.map_eq_some_iff] at hj
            obtain ⟨n, hn, rfl⟩ := hj
            obtain ⟨a, h1, h2⟩ := HCS.out j n hn
            cases h1
            exact h2
          have HNone := Lib.hid hnone
          have HNews := Lib.hid hnews
          have HI0 := Lib.hid hi
          clear hnone hnews hnil hi hz0 hz2
          go_wp2_with (at_builtin; refine wpList_append_fits_any _ rfl _ _ _ rfl g 38 i0 1 Tryz.underlying75 HI0.out hz1 g m cap _ rfl HOw.out A _ _ (numV l) rfl (by rw [numV_length, Nat.mul_one]) HNone.out HNews.out (numV_one l) hroom ?_; intro w2 hown2 hgr)
          have HOw2 := Lib.hid hown2
          have HBw2 := Lib.hid (HBw.out.grown hgr (by have := HBw.out.size; omega) (fun k hk => by cases hk; exact Nat.le_refl _))
          clear hown2 hgr
          go_wp2_with fail
          go_roundw
          case rel => exact ⟨k + 1, by omega, by rw [HS1.out], by simp, by rw [HS1.out, HSU.out, numV_append]; exact HOw2.out, HBw2.out⟩
          case measure => simp [Go.RowKit.intOf]; omega
        · obtain rfl : k = vs.length := by omega
          have HOw := Lib.hid hown
          have HBw := Lib.hid hb
          clear hown hb
          go_wp2_with fail
          go_ret
          rw [hg, HT.out, ← HN.out]
          refine ⟨_, rfl, ?_, HBw.out⟩
          have := u16s_own HOw.out
          rwa [List.take_length] at this
theorem isPage_any (n : Int) (w : World) : Calls Tryz.prog 152 #[.int .i64 n] w fun e w' => e = .returned (.bool (decide (0 ≤ n ∧ n < 36))) ∧ w = w' := by
  by_cases h0 : 0 ≤ n
  · by_cases h1 : n < 36
    · rw [decide_eq_true (show 0 ≤ n ∧ n < 36 from ⟨h0, h1⟩)]
      go_enter Tryz.func152, Tryz.ntmps152
      go_wp2_with fail
      go_ret
      exact ⟨rfl, rfl⟩
    · rw [decide_eq_false (show ¬ (0 ≤ n ∧ n < 36) by omega)]
      go_enter Tryz.func152, Tryz.ntmps152
      go_wp2_with fail
      go_ret
      exact ⟨rfl, rfl⟩
  · rw [decide_eq_false (show ¬ (0 ≤ n ∧ n < 36) by omega)]
    go_enter Tryz.func152, Tryz.ntmps152
    go_wp2_with fail
    go_ret
    exact ⟨rfl, rfl⟩
end Go.Proofs.YtnfiapjdkjbdhaaGreat
namespace Go.Proofs.YtnfiapjdkjbdhaaGreat
open Go.RowKit Go.Lib
set_option linter.unusedVariables false
set_option linter.unusedSimpArgs false
set_option maxRecDepth 10000
def GeoAt (W : World) (p : Nat) (i b j : Int) : Prop := W.heap[p]? = some (.cells #[.int .i64 i, .int .i64 b, .int .i64 j] 23 (0, 0))
theorem GeoAt.below {W W' : World} {p : Nat} {i b j : Int} (h : GeoAt W p i b j) (hb : Below W.heap.size W W') : GeoAt W' p i b j := (hb.block p (Array.getElem?_eq_some_iff.1 h).1).trans h
theorem GeoAt.lt {W : World} {p : Nat} {i b j : Int} (h : GeoAt W p i b j) : p < W.heap.size := (Array.getElem?_eq_some_iff.1 h).1
def oddB (i b j : Int) (n : Nat) : Bool := decide (n ≠ 0 ∧ (¬ mayI i b j ∨ b < (n : Int)))
instance (i b j : Int) : Decidable (mayI i b j) := by unfold mayI; infer_instance
theorem strange_any (p : Nat) (i b j : Int) (n : Nat) (hn : n < 65536) (w : World) (h : GeoAt w p i b j) :
    Calls Tryz.prog 195 #[w16 n, .pointer (some ⟨p, 0, none⟩)] w fun e w' => e = .returned (.bool (oddB i b j n)) ∧ Below w.heap.size w w' := by
  have c0 : w.cell? ⟨p, 0, none⟩ = some (.int .i64 i) := cell_of_row w p 0 _ 23 (0, 0) h
  have c1 : w.cell? ⟨p, 1, none⟩ = some (.int .i64 b) := cell_of_row w p 1 _ 23 (0, 0) h
  have c2 : w.cell? ⟨p, 2, none⟩ = some (.int .i64 j) := cell_of_row w p 2 _ 23 (0, 0) h
  have H := Lib.hid h
  by_cases hok : mayI i b j ∧ 1 ≤ n ∧ (n : Int) ≤ b
  · obtain ⟨hm, h1, h2⟩ := hok
    have ho : oddB i b j n = false := by unfold oddB; rw [decide_eq_false]; rintro ⟨-, h3 | h3⟩; exact h3 hm; omega
    obtain ⟨G, hG, rfl, rfl, rfl⟩ := mayI_gm hm
    have HB := Lib.hid fun W => block_ok G (n - 1) (n : Int) (by omega) W hG (by omega)
    rw [ho]
    have hne : ((n : Int) != 0) = true := by simp; omega
    clear ho hm h
    go_enter Tryz.func195, Tryz.ntmps195
    go_wp2_with fail
    refine (HB.out _).mono ?_
    rintro e w1 ⟨rfl, hb⟩
    go_wp2_with fail
    go_ret
    exact ⟨rfl, hb⟩
  · have ho : oddB i b j n = (n != 0) := by
      unfold oddB
      by_cases h0 : n = 0
      · subst h0; simp
      · rw [decide_eq_true]
        · simp [h0]
        · refine ⟨h0, ?_⟩
          by_cases hm : mayI i b j
          · exact .inr (Int.not_le.1 fun h => hok ⟨hm, Nat.pos_of_ne_zero h0, h⟩)
          · exact .inl hm
    have HB := Lib.hid fun W => block_bad i b j (n : Int) W (by
      by_cases hm : mayI i b j
      · rcases Nat.eq_zero_or_pos n with h0 | h0
        · right; omega
        · exact .inr (.inr (Int.not_le.1 fun h => hok ⟨hm, h0, h⟩))
      · exact .inl hm) (by omega) (by omega)
    rw [ho]
    have hne : ((n : Int) != 0) = (n != 0) := by rw [Bool.eq_iff_iff]; simp
    clear ho h hok
    cases hz : n != 0
    · rw [hz] at hne
      go_enter Tryz.func195, Tryz.ntmps195
      go_wp2_with fail
      refine (HB.out _).mono ?_
      rintro e w1 ⟨rfl, hb⟩
      go_wp2_with fail
      go_ret
      exact ⟨rfl, hb⟩
    · rw [hz] at hne
      go_enter Tryz.func195, Tryz.ntmps195
      go_wp2_with fail
      refine (HB.out _).mono ?_
      rintro e w1 ⟨rfl, hb⟩
      go_wp2_with fail
      go_ret
      exact ⟨rfl, hb⟩
theorem oddIndex_any (p : Nat) (i b j : Int) (l : List Nat) (v : Value) (w : World) (h : GeoAt w p i b j) (hv : U16s w v l) (hl : l.length ≤ 1000) (hn : ∀ n ∈ l, n < 65536) :
    Calls Tryz.prog 225 #[v, .func (.func 195) #[] #[.pointer (some ⟨p, 0, none⟩)]] w fun e w' => (∃ x : Int, e = .returned (.int .i64 x) ∧ decide (0 ≤ x) = l.any (oddB i b j)) ∧ Below w.heap.size w w' := by
  have HG := Lib.hid h
  obtain ⟨A, c, rfl, hc⟩ := hv
  have HC := Lib.hid hc
  have HN := Lib.hid hn
  clear h hc hn
  go_enter Tryz.func225, Tryz.ntmps225
  go_wp2_with fail
  go_loopw [5, 8] (fun _ i' wr => ∃ k : Nat, k ≤ l.length ∧ i' = .int .i64 k ∧ (l.take k).any (oddB i b j) = false ∧ Below w.heap.size w wr) (fun _ i' _ => l.length - (Go.RowKit.intOf i').toNat)
  case atStart => exact ⟨0, Nat.zero_le _, rfl, by simp, Below.refl _ _⟩
  case round =>
    obtain ⟨k, hk, rfl, hany, hb⟩ := hrel
    by_cases hlt : k < l.length
    · obtain ⟨n, hne⟩ : ∃ n, n = l[k] := ⟨_, rfl⟩
      obtain ⟨a, rfl, x0⟩ := HC.out k n (by rw [hne]; exact List.getElem?_eq_getElem hlt)
      have x1 := (hb.cell (World.block_lt_of_cell? w _ x0)).trans x0
      have HS := Lib.hid fun V (hV : Below wr.heap.size wr V) => strange_any p i b j n (by rw [hne]; exact HN.out _ (List.getElem_mem _)) V (((HG.out.below hb)).below hV)
      have htake : (l.take (k + 1)).any (oddB i b j) = oddB i b j n := by rw [List.take_succ_eq_append_getElem hlt, List.any_append, hany, ← hne]; simp
      have hmem : oddB i b j n = true → l.any (oddB i b j) = true := fun e => List.any_eq_true.2 ⟨n, by rw [hne]; exact List.getElem_mem _, e⟩
      have HT := Lib.hid htake
      have HM := Lib.hid hmem
      have HB := Lib.hid hb
      have hI : (k : Int) < (l.length : Int) := by omega
      clear htake hmem hb x0 hne hany
      generalize ho : oddB i b j n = q at *
      clear ho
      cases q
      · go_wp2_with fail
        refine (HS.out _ (Below.refl _ _)).mono ?_
        rintro e w1 ⟨rfl, hb1⟩
        have HB1 := Lib.hid (HB.out.trans (hb1.mono HB.out.size))
        clear hb1
        go_wp2_with fail
        go_roundw
        case rel => exact ⟨k + 1, by omega, by simp, HT.out, HB1.out⟩
        case measure => simp [Go.RowKit.intOf]; omega
      · go_wp2_with fail
        refine (HS.out _ (Below.refl _ _)).mono ?_
        rintro e w1 ⟨rfl, hb1⟩
        have HB1 := Lib.hid (HB.out.trans (hb1.mono HB.out.size))
        clear hb1
        go_wp2_with fail
        go_ret
        exact ⟨⟨_, rfl, by rw [HM.out trivial]; simp⟩, HB1.out⟩
    · obtain rfl : k = l.length := by omega
      rw [List.take_length] at hany
      have HA := Lib.hid hany
      have HB := Lib.hid hb
      clear hany hb
      go_wp2_with fail
      go_ret
      exact ⟨⟨_, rfl, by rw [HA.out]; decide⟩, HB.out⟩
theorem oddContains_any (p : Nat) (i b j : Int) (l : List Nat) (v : Value) (w : World) (h : GeoAt w p i b j) (hv : U16s w v l) (hl : l.length ≤ 1000) (hn : ∀ n ∈ l, n < 65536) :
    Calls Tryz.prog 197 #[v, .func (.func 195) #[] #[.pointer (some ⟨p, 0, none⟩)]] w fun e w' => e = .returned (.bool (l.any (oddB i b j))) ∧ Below w.heap.size w w' := by
  have H := Lib.hid (oddIndex_any p i b j l v w h hv hl hn)
  clear h hv hn
  generalize l.any (oddB i b j) = q at *
  go_enter Tryz.func197, Tryz.ntmps197
  go_wp2_with fail
  refine H.out.mono ?_
  rintro e w1 ⟨⟨x, rfl, hx⟩, hb⟩
  cases q
  · go_wp2_with fail
    go_ret
    exact ⟨rfl, hb⟩
  · go_wp2_with fail
    go_ret
    exact ⟨rfl, hb⟩
end Go.Proofs.YtnfiapjdkjbdhaaGreat
/- Layer 9 (bmap): what is asked of all, ahead of all else. -/
namespace Go.Proofs.YtnfiapjdkjbdhaaGreat
open Go.RowKit Go.Lib
set_option linter.unusedVariables false
set_option linter.unusedSimpArgs false
set_option maxRecDepth 10000
def askB (i b j : Int) (x : Im) (m : Bool) (pl : List Nat) : Bool := decide (mayI i b j) && !((pl ++ x.bl).any (oddB i b j)) && m
theorem below_of_drew {w w' : World} (h : Below w.drew.heap.size w.drew w') : Below w.heap.size w w' := ⟨h.os, h.tape, h.output, h.size, h.block⟩
theorem heap_two (w : World) (o p : Obj) : ((w.alloc o).alloc p).heap[w.heap.size]? = some o ∧ ((w.alloc o).alloc p).heap[w.heap.size + 1]? = some p := by
  refine ⟨?_, by simpa using heap_alloc_new (w.alloc o) p⟩
  rw [heap_alloc_old _ _ (by simp)]
  exact heap_alloc_new w o
theorem refusal_cat (W : World) (A : Option Addr) (c : Nat) (pl : List Nat) (x : Im) (B : Nat) (k n z : Value) (hp : U16s W (.slice A pl.length c) pl) (hnil : A = none → c = 0) (hl : pl.length ≤ 1)
    (hh : W.heap[B]? = some (.cells #[k, n, z, w16 x.d0, w16 x.d1, w16 x.d2, w16 x.d3, w16 x.i] 41 (0, 0))) :
    Calls Tryz.prog 196 #[.slice (some ⟨W.heap.size + 1, 0, none⟩) 3 3]
      ((W.alloc (.cells #[w16 x.i] 38)).alloc (.cells #[.slice A pl.length c, .slice (some ⟨B, 3, none⟩) 4 4, .slice (some ⟨W.heap.size, 0, none⟩) 1 1] 75)).drew
      fun e w' => ∃ v, e = .returned v ∧ U16s w' v (pl ++ x.bl) ∧ Below W.heap.size W w' := by
  obtain ⟨h0, h1⟩ := heap_two W (.cells #[w16 x.i] 38) (.cells #[.slice A pl.length c, .slice (some ⟨B, 3, none⟩) 4 4, .slice (some ⟨W.heap.size, 0, none⟩) 1 1] 75)
  have hb : Below W.heap.size W ((W.alloc (.cells #[w16 x.i] 38)).alloc (.cells #[.slice A pl.length c, .slice (some ⟨B, 3, none⟩) 4 4, .slice (some ⟨W.heap.size, 0, none⟩) 1 1] 75)) := ((Below.refl _ W).alloc (Nat.le_refl _) _).alloc (by simp) _
  have hB := (hb.block B (Array.getElem?_eq_some_iff.1 hh).1).trans hh
  have hp2 := hp.below hb
  generalize ((W.alloc (.cells #[w16 x.i] 38)).alloc (.cells #[.slice A pl.length c, .slice (some ⟨B, 3, none⟩) 4 4, .slice (some ⟨W.heap.size, 0, none⟩) 1 1] 75)) = V at *
  refine (concat_any [(.slice A pl.length c, pl), (.slice (some ⟨B, 3, none⟩) 4 4, [x.d0, x.d1, x.d2, x.d3]), (.slice (some ⟨W.heap.size, 0, none⟩) 1 1, [x.i])] (W.heap.size + 1) 3 V.drew ?_ (by simp) ?_ (by simp)).mono ?_
  · intro j v l hj
    match j, hj with
    | 0, hj =>
      cases hj
      exact ⟨cell_of_row V _ 0 _ _ _ h1, hp2, fun m c' e => by cases e; exact hnil rfl⟩
    | 1, hj =>
      cases hj
      refine ⟨cell_of_row V _ 1 _ _ _ h1, ⟨_, _, rfl, fun j n hj => ⟨_, rfl, ?_⟩⟩, fun m c' e => by cases e⟩
      match j, hj with
      | 0, hj => cases hj; exact cell_of_row V B 3 _ _ _ hB
      | 1, hj => cases hj; exact cell_of_row V B 4 _ _ _ hB
      | 2, hj => cases hj; exact cell_of_row V B 5 _ _ _ hB
      | 3, hj => cases hj; exact cell_of_row V B 6 _ _ _ hB
    | 2, hj =>
      cases hj
      refine ⟨cell_of_row V _ 2 _ _ _ h1, ⟨_, _, rfl, fun j n hj => ⟨_, rfl, ?_⟩⟩, fun m c' e => by cases e⟩
      match j, hj with
      | 0, hj => cases hj; exact cell_of_row V W.heap.size 0 _ _ _ h0
  · intro p hp
    rcases List.mem_cons.1 hp with rfl | hp
    · show pl.length ≤ 100; omega
    rcases List.mem_cons.1 hp with rfl | hp
    · simp
    rcases List.mem_cons.1 hp with rfl | hp
    · simp
    cases hp
  · rintro e w' ⟨c2, rfl, hu, hb2⟩
    refine ⟨_, rfl, ?_, hb.trans ((below_of_drew hb2).mono hb.size)⟩
    have e : (List.flatMap (·.2) [(Value.slice A pl.length c, pl), (.slice (some ⟨B, 3, none⟩) 4 4, [x.d0, x.d1, x.d2, x.d3]), (.slice (some ⟨W.heap.size, 0, none⟩) 1 1, [x.i])]) = pl ++ x.bl := by
      simp [List.flatMap_cons, Im.bl]
    rw [e] at hu ⊢
    exact hu
set_option maxHeartbeats 1000000 in
theorem bref_any (tb : Nat) (i b j : Int) (x : Im) (hx : x.fits) (m : Bool) (pv : Value) (pl : List Nat) (w : World) (hp : U16s w pv pl) (hnil : ∀ m c, pv = .slice none m c → c = 0) (hl : pl.length ≤ 1) (hpl : ∀ n ∈ pl, n < 65536) :
    Calls Tryz.prog 154 #[.pointer (some ⟨tb, 0, none⟩), geoV i b j, x.v, .bool m, pv] w fun e w' => e = .returned (.int .i64 (if askB i b j x m pl then 0 else 2)) ∧ Below w.heap.size w w' := by
  obtain ⟨r, hr⟩ : ∃ r : Int, r = if askB i b j x m pl then 0 else 2 := ⟨_, rfl⟩
  rw [← hr]
  have HR2 := Lib.hid hr
  clear hr
  have HP := Lib.hid hp
  obtain ⟨A, c, rfl, -⟩ := hp
  have HNil := Lib.hid (fun e => hnil _ _ (by rw [e]) : A = none → c = 0)
  clear hnil
  go_enter Tryz.func154, Tryz.ntmps154
  go_wp2_with fail
  have hh : ((w.alloc (.cells #[.int .i64 i, .int .i64 b, .int .i64 j] 23)).alloc (.cells #[.int .u8 x.k, w16 x.n, .int .u32 x.z, w16 x.d0, w16 x.d1, w16 x.d2, w16 x.d3, w16 x.i] 41)).heap[w.heap.size + 1]? = some (.cells #[.int .u8 x.k, w16 x.n, .int .u32 x.z, w16 x.d0, w16 x.d1, w16 x.d2, w16 x.d3, w16 x.i] 41 (0, 0)) := by
    have := heap_alloc_new (w.alloc (.cells #[.int .i64 i, .int .i64 b, .int .i64 j] 23)) (.cells #[.int .u8 x.k, w16 x.n, .int .u32 x.z, w16 x.d0, w16 x.d1, w16 x.d2, w16 x.d3, w16 x.i] 41)
    simpa using this
  generalize hW : ((w.alloc (.cells #[.int .i64 i, .int .i64 b, .int .i64 j] 23)).alloc (.cells #[.int .u8 x.k, w16 x.n, .int .u32 x.z, w16 x.d0, w16 x.d1, w16 x.d2, w16 x.d3, w16 x.i] 41)) = W0 at *
  have k7 : W0.cell? ⟨w.heap.size + 1, 7, none⟩ = some (w16 x.i) := cell_of_row _ _ 7 _ _ _ hh
  have hG : GeoAt W0 w.heap.size i b j := by
    have := (heap_two w (.cells #[.int .i64 i, .int .i64 b, .int .i64 j] 23) (.cells #[.int .u8 x.k, w16 x.n, .int .u32 x.z, w16 x.d0, w16 x.d1, w16 x.d2, w16 x.d3, w16 x.i] 41)).1
    rw [hW] at this
    exact this
  have hB0 : Below w.heap.size w W0 := by rw [← hW]; exact ((Below.refl _ _).alloc (Nat.le_refl _) _).alloc (by simp) _
  have HC := Lib.hid (refusal_cat W0 A c pl x (w.heap.size + 1) _ _ _ (HP.out.below hB0) HNil.out hl hh)
  have HG := Lib.hid hG
  have HB0 := Lib.hid hB0
  clear hG hB0 hh hW
  have hlt7 : w.heap.size + 1 < W0.heap.size := World.block_lt_of_cell? W0 _ k7
  go_region_held3 (fun W' => W'.cell? ⟨w.heap.size + 1, 7, none⟩ = some (w16 x.i)) (first | exact k7 | go_keep) (first | (go_at_call 196; ((with_reducible refine (HC.out).mono ?_); rintro e w1 ⟨v, rfl, hu, hb⟩; have HU := Lib.hid hu; have k7 := (hb.cell (p := ⟨w.heap.size + 1, 7, none⟩) hlt7).trans k7; have HB := Lib.hid hb; clear hu hb)))
  have HG1 := Lib.hid (HG.out.below HB.out)
  clear k7
  have hbel : ∀ V, Below w1.heap.size w1 V → Below w.heap.size w V := fun V hV => (HB0.out.trans (HB.out.mono HB0.out.size)).trans (hV.mono (Nat.le_trans HB0.out.size HB.out.size))
  have HBel := Lib.hid hbel
  have HN := Lib.hid (show ∀ n ∈ pl ++ x.bl, n < 65536 by
    intro n hn
    rcases List.mem_append.1 hn with h | h
    · exact hpl n h
    · obtain ⟨-, -, -, h0, h1, h2, h3, h4⟩ := hx
      simp only [Im.bl, List.mem_cons, List.not_mem_nil, or_false] at h
      rcases h with rfl | rfl | rfl | rfl | rfl <;> assumption)
  have hlen : (pl ++ x.bl).length ≤ 1000 := by rw [List.length_append]; show pl.length + 5 ≤ 1000; omega
  have HCon := Lib.hid (fun V (hV : Below w1.heap.size w1 V) => oddContains_any w.heap.size i b j (pl ++ x.bl) v V (HG1.out.below hV) (HU.out.below hV) hlen HN.out)
  have c0 : w1.cell? ⟨w.heap.size, 0, none⟩ = some (.int .i64 i) := cell_of_row w1 _ 0 _ 23 (0, 0) HG1.out
  have c1 : w1.cell? ⟨w.heap.size, 1, none⟩ = some (.int .i64 b) := cell_of_row w1 _ 1 _ 23 (0, 0) HG1.out
  have c2 : w1.cell? ⟨w.heap.size, 2, none⟩ = some (.int .i64 j) := cell_of_row w1 _ 2 _ 23 (0, 0) HG1.out
  have hask : askB i b j x m pl = (decide (mayI i b j) && !((pl ++ x.bl).any (oddB i b j)) && m) := rfl
  have HR := Lib.hid hask
  clear hbel HC HG HU HB HB0 HP HNil hask hlen
  generalize (pl ++ x.bl).any (oddB i b j) = q at *
  by_cases hm : mayI i b j
  · have HM := Lib.hid fun V => may_ok i b j V hm
    rw [decide_eq_true hm] at HR
    clear hm
    cases q
    · cases m
      · go_wp2_with fail
        refine (HM.out _).mono ?_
        rintro e w2 ⟨rfl, hb2⟩
        have HB2 := Lib.hid hb2
        clear hb2
        go_wp2_with fail
        refine (HCon.out _ HB2.out).mono ?_
        rintro e w3 ⟨rfl, hb3⟩
        have HB3 := Lib.hid (HB2.out.trans (hb3.mono HB2.out.size))
        clear hb3
        go_wp2_with fail
        go_ret
        exact ⟨by rw [HR2.out, HR.out]; rfl, HBel.out _ HB3.out⟩
      · go_wp2_with fail
        refine (HM.out _).mono ?_
        rintro e w2 ⟨rfl, hb2⟩
        have HB2 := Lib.hid hb2
        clear hb2
        go_wp2_with fail
        refine (HCon.out _ HB2.out).mono ?_
        rintro e w3 ⟨rfl, hb3⟩
        have HB3 := Lib.hid (HB2.out.trans (hb3.mono HB2.out.size))
        clear hb3
        go_wp2_with fail
        go_ret
        exact ⟨by rw [HR2.out, HR.out]; rfl, HBel.out _ HB3.out⟩
    · go_wp2_with fail
      refine (HM.out _).mono ?_
      rintro e w2 ⟨rfl, hb2⟩
      have HB2 := Lib.hid hb2
      clear hb2
      go_wp2_with fail
      refine (HCon.out _ HB2.out).mono ?_
      rintro e w3 ⟨rfl, hb3⟩
      have HB3 := Lib.hid (HB2.out.trans (hb3.mono HB2.out.size))
      clear hb3
      go_wp2_with fail
      go_ret
      exact ⟨by rw [HR2.out, HR.out]; rfl, HBel.out _ HB3.out⟩
  · have HM := Lib.hid fun V => may_bad i b j V hm
    rw [decide_eq_false hm] at HR
    clear hm
    go_wp2_with fail
    refine (HM.out _).mono ?_
    rintro e w2 ⟨rfl, hb2⟩
    have HB2 := Lib.hid hb2
    clear hb2
    go_wp2_with fail
    go_ret
    exact ⟨by rw [HR2.out, HR.out]; rfl, HBel.out _ HB2.out⟩
end Go.Proofs.YtnfiapjdkjbdhaaGreat
