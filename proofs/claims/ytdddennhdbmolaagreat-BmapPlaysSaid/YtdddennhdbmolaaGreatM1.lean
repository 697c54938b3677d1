/- Words that all of this seat's walks use: no claim by itself. -/
import Derived.Test.YtdddennhdbmolaaGreatRows
import Derived.WalkKit
import Derived.WalkSpells
import Derived.WalkLawsBesides
import Derived.Below
import Derived.Lib.Hide
import Derived.Outline
import Derived.Deep.QuietTactic
import Derived.BigQuiet
import Derived.Laws.BytesString
import Derived.Laws.IdiomStrings
namespace Go.Proofs.YtdddennhdbmolaaGreat
open Go.RowKit
set_option linter.unusedVariables false
set_option linter.unusedSimpArgs false
set_option maxRecDepth 10000
/-- A text as a value. -/
abbrev str (l : List UInt8) : Value := .string ⟨l.toArray⟩
/-- The length of the text in a slot: for a loop's measure. -/
def lenOf : Value → Nat | .string b => b.size | _ => 0
theorem below_drewN {B : Nat} {a w : World} (h : Below B a w) (n : Nat) : Below B a (w.drewN n) := ⟨h.os, h.tape, h.output, h.size, h.block⟩
theorem str_of (s : ByteArray) : Value.string s = str s.data.toList := by
  cases s; rfl
theorem extract_take (l : List UInt8) (n : Nat) : (⟨l.toArray⟩ : ByteArray).extract 0 n = ⟨(l.take n).toArray⟩ := by
  apply ByteArray.ext
  simp [ByteArray.data_extract]
theorem extract_drop (l : List UInt8) (n : Nat) : (⟨l.toArray⟩ : ByteArray).extract n l.length = ⟨(l.drop n).toArray⟩ := by
  apply ByteArray.ext
  simp [ByteArray.data_extract, List.take_of_length_le]
@[go_sem] theorem extract_mid (l : List UInt8) (a b : Nat) : (⟨l.toArray⟩ : ByteArray).extract a b = ⟨((l.take b).drop a).toArray⟩ := by
  apply ByteArray.ext
  simp [ByteArray.data_extract, List.drop_take]
theorem str_snoc (l : List UInt8) (x : UInt8) : Value.string ((⟨l.toArray⟩ : ByteArray) ++ ⟨#[x]⟩) = str (l ++ [x]) := congrArg Value.string (ByteArray.mk_append_mk l [x])
theorem str_append (l r : List UInt8) : Value.string ((⟨l.toArray⟩ : ByteArray) ++ ⟨r.toArray⟩) = str (l ++ r) := congrArg Value.string (ByteArray.mk_append_mk l r)
theorem ret_str {a b : ByteArray} (h : a = b) : Ending.returned (.string a) = .returned (.string b) := by rw [h]
theorem ret2_str {a b : ByteArray} {x : Value} (h : a = b) : Ending.returned (.tuple #[.string a, x]) = .returned (.tuple #[.string b, x]) := by rw [h]
theorem ret2_u64 {a b : Int} {x : Value} (h : a = b) : Ending.returned (.tuple #[.int .u64 a, x]) = .returned (.tuple #[.int .u64 b, x]) := by rw [h]
theorem u64_wrap (n : Int) (h0 : 0 ≤ n) (h1 : n < 18446744073709551616) : IntKind.u64.wrap n = n := IntWalk.u64_in n ⟨h0, by omega⟩
theorem u8_wrap (n : Int) (h0 : 0 ≤ n) (h1 : n < 256) : IntKind.u8.wrap n = n := IntWalk.u8_in n ⟨h0, by omega⟩
/- The walk's own forms: a byte of a text; bytes as numbers. -/
@[go_sem] theorem bytes_index (l : List UInt8) (i : Nat) (h : i < (⟨l.toArray⟩ : ByteArray).size) : (⟨l.toArray⟩ : ByteArray)[i]'h = l[i]'(by simpa using (show i < l.toArray.size from h)) := rfl
@[go_sem] theorem first_byte (b : UInt8) (r : List UInt8) (h : 0 < (b :: r).length) : (b :: r)[0]'h = b := rfl
@[go_sem] theorem texts_join (a b : List UInt8) : (⟨a.toArray⟩ : ByteArray) ++ ⟨b.toArray⟩ = ⟨(a ++ b).toArray⟩ := ByteArray.mk_append_mk a b
@[go_sem] theorem byte_i64 (b : UInt8) : wrap64 (b.toNat : Int) = (b.toNat : Int) := by have := b.toNat_lt; exact IntWalk.wrap64_in _ (by omega)
@[go_sem] theorem byte_u64 (b : UInt8) : IntKind.u64.wrap (b.toNat : Int) = (b.toNat : Int) := by have := b.toNat_lt; exact u64_wrap _ (by omega) (by omega)
theorem byte_ne0 (b : UInt8) (h : b ≠ 0) : (((b.toNat : Int)) == 0) = false := by
  rw [beq_eq_false_iff_ne]
  intro h2
  exact h (UInt8.toNat_inj.1 (by simpa using Int.ofNat.inj h2))
theorem byte_ne0' (b : UInt8) (h : b ≠ 0) : (((b.toNat : Int)) != 0) = true := by rw [bne, byte_ne0 b h]; rfl
theorem bytes_get (l : List UInt8) (j : Nat) (h : j < l.length) : (⟨l.toArray⟩ : ByteArray)[j]'(show j < l.toArray.size by simpa using h) = l[j] := rfl
/-- The cells of bytes. -/
abbrev byteCells (l : List UInt8) : Array Value := (l.map fun b => Value.int .u8 (b.toNat : Int)).toArray
theorem chain {w a b : World} (h : Below w.heap.size w a) (k : Below a.heap.size a b) : Below w.heap.size w b := h.trans (k.mono h.size)
theorem or_step (m k b : Nat) (hk : k < 8) (hb : b < 256) (hm : m < 256 ^ k) :
    bits .or .u64 (m : Int) (IntKind.u64.wrap ((b : Int) * 2 ^ (8 * k))) = ((m + 256 ^ k * b : Nat) : Int) := by
  have h1 : 256 ^ k ≤ 256 ^ 7 := Nat.pow_le_pow_right (by omega) (by omega)
  have h2 : 256 ^ k * b ≤ 256 ^ 7 * 255 := Nat.mul_le_mul h1 (by omega)
  have h3 : (256 : Nat) ^ k = 2 ^ (8 * k) := by rw [Nat.pow_mul]
  have h4 : ((b : Int) * 2 ^ (8 * k)) = ((256 ^ k * b : Nat) : Int) := by
    rw [h3]; simp [Int.mul_comm]
  rw [h4, u64_wrap _ (by omega) (by
    have : 256 ^ 7 * 255 < 18446744073709551616 := by decide
    omega)]
  have h5 : (256 : Nat) ^ 7 * 255 < 18446744073709551616 := by decide
  rw [u64_or_nat _ _ (by
    have : (256 : Nat) ^ 7 < 18446744073709551616 := by decide
    omega) (by omega), Nat.or_comm, nat_join (8 * k) _ _ (by rw [h3]; exact Nat.mul_mod_right _ _) (by rw [← h3]; exact hm), Nat.add_comm]
theorem heap_new (w : World) (o : Obj) (n : Nat) (h : n = w.heap.size) : (w.alloc o).heap[n]? = some o := by subst h; exact heap_alloc_new w o
theorem byteCells_get (l : List UInt8) (j : Nat) (h : j < l.length) : (byteCells l)[j]? = some (.int .u8 (l[j].toNat : Int)) := by
  simp [h]
theorem byteCells_set (l : List UInt8) (j : Nat) (x : UInt8) : (byteCells l).setIfInBounds j (.int .u8 (x.toNat : Int)) = byteCells (l.set j x) := by
  apply Array.ext'
  simp
theorem blk_set_byte {W : World} {g e j : Nat} {l : List UInt8} (h : W.heap[g]? = some (.cells (byteCells l) e (0, 0))) (n : Int) (x : UInt8) (hx : n = (x.toNat : Int)) :
    (W.setCell ⟨g, j, none⟩ (.int .u8 n)).heap[g]? = some (.cells (byteCells (l.set j x)) e (0, 0)) := by
  subst hx
  rw [heap_setCell_same W g j _ e _ h, byteCells_set]
/-- 'string(b)' of a block of bytes, whatever its length. -/
theorem conv_blk {P : Program} (src dst e : TypeId) (hs : P.underlying src = some (.slice e)) (he : P.underlying e = some (.int .u8)) (hd : P.underlying dst = some .string) (W : World) (g cap : Nat) (l : List UInt8)
    (hg : W.heap[g]? = some (.cells (byteCells l) e (0, 0))) :
    (convert src dst (.slice (some ⟨g, 0, none⟩) l.length cap)).run P W = .ok (str l) W :=
  run_convert_bytes_back W src dst e ⟨g, 0, none⟩ cap l hs he hd fun j hj => by
    have := cell_of_row W g j _ e (0, 0) hg
    simp only [Addr.add, Nat.zero_add]
    by_cases h : j = 0
    · subst h; simp [this, hj]
    · simp [h, this, hj]
/-- A block of noughts. -/
theorem made_bytes (n : Nat) : madeCells #[Value.int .u8 0] n = byteCells (List.replicate n 0) := by
  apply Array.ext'
  rw [toList_madeCells_one]
  simp
/-- 'string([]byte{x})'. -/
theorem conv_one {P : Program} (src dst e : TypeId) (hs : P.underlying src = some (.slice e)) (he : P.underlying e = some (.int .u8)) (hd : P.underlying dst = some .string) (W : World) (n : Int) (g : Nat) (hg : g = W.heap.size) :
    (convert src dst (.slice (some ⟨g, 0, none⟩) 1 1)).run P (W.alloc (.cells #[.int .u8 n] e)) = .ok (.string ⟨#[UInt8.ofNat n.toNat]⟩) (W.alloc (.cells #[.int .u8 n] e)) := by
  subst hg
  rw [run_convert_bytes_string _ src dst e _ 1 1 hs he hd]
  have hl := run_loadCells_list (P := P) (W.alloc (.cells #[.int .u8 n] e)) ⟨W.heap.size, 0, none⟩ [.int .u8 n] (fun j v hj => by
    match j, hj with
    | 0, hj => simp at hj; subst hj; simp [Addr.add])
  rw [run_bytesToString _ _ 1 1 [n] (by simpa using hl)]
  rfl
end Go.Proofs.YtdddennhdbmolaaGreat
/- Numbers as bytes, the lowest first: plain mathematics, no program. -/
namespace Go.Proofs.YtdddennhdbmolaaGreat
/-- n bytes of v, the lowest first. -/
def leB : Nat → Nat → List UInt8
  | 0, _ => []
  | n + 1, v => UInt8.ofNat (v % 256) :: leB n (v / 256)
/-- The number whose bytes these are. -/
def leV : List UInt8 → Nat
  | [] => 0
  | b :: r => b.toNat + 256 * leV r
theorem leB_length (n v : Nat) : (leB n v).length = n := by
  induction n generalizing v with
  | zero => rfl
  | succ n ih => simp [leB, ih]
theorem leV_lt (l : List UInt8) : leV l < 256 ^ l.length := by
  induction l with
  | nil => simp [leV]
  | cons b r ih =>
    have hb := b.toNat_lt
    simp only [leV, List.length_cons, Nat.pow_succ]
    omega
theorem leV_leB (n v : Nat) (h : v < 256 ^ n) : leV (leB n v) = v := by
  induction n generalizing v with
  | zero => simp at h; subst h; rfl
  | succ n ih =>
    have h1 : v / 256 < 256 ^ n := by
      rw [Nat.pow_succ] at h
      exact Nat.div_lt_of_lt_mul (by rw [Nat.mul_comm]; exact h)
    simp only [leB, leV, ih _ h1, UInt8.toNat_ofNat']
    omega
theorem leV_leB_mod (n v : Nat) : leV (leB n v) = v % 256 ^ n := by
  induction n generalizing v with
  | zero => simp [leB, leV, Nat.mod_one]
  | succ n ih =>
    have h1 : 256 ^ (n + 1) = 256 * 256 ^ n := by rw [Nat.pow_succ, Nat.mul_comm]
    simp only [leB, leV, ih, UInt8.toNat_ofNat']
    rw [h1, Nat.mod_mul]
    omega
theorem leB_leV (l : List UInt8) : leB l.length (leV l) = l := by
  induction l with
  | nil => rfl
  | cons b r ih =>
    have hb := b.toNat_lt
    have h1 : (b.toNat + 256 * leV r) / 256 = leV r := by omega
    have h2 : (b.toNat + 256 * leV r) % 256 = b.toNat := by omega
    simp only [List.length_cons, leB, leV, h1, h2, ih]
    simp
theorem leB_snoc (n v : Nat) : leB (n + 1) v = leB n v ++ [UInt8.ofNat (v / 256 ^ n % 256)] := by
  induction n generalizing v with
  | zero => simp [leB]
  | succ n ih =>
    rw [leB, ih]
    simp only [leB, List.cons_append, Nat.div_div_eq_div_mul, Nat.pow_succ]
    rw [Nat.mul_comm 256 (256 ^ n)]
theorem leB_fill (n k v : Nat) (h : k < n) : (leB k v ++ List.replicate (n - k) 0).set k (UInt8.ofNat (v / 256 ^ k % 256)) = leB (k + 1) v ++ List.replicate (n - (k + 1)) 0 := by
  rw [leB_snoc, List.set_append_right _ _ (by rw [leB_length]; omega), leB_length, Nat.sub_self]
  obtain ⟨m, hm⟩ : ∃ m, n - k = m + 1 := ⟨n - k - 1, by omega⟩
  have : n - (k + 1) = m := by omega
  rw [hm, this, List.replicate_succ, List.set_cons_zero]
  simp
theorem leV_snoc (l : List UInt8) (b : UInt8) : leV (l ++ [b]) = leV l + 256 ^ l.length * b.toNat := by
  induction l with
  | nil => simp [leV]
  | cons c r ih =>
    simp only [List.cons_append, leV, ih, List.length_cons, Nat.pow_succ, Nat.mul_add]
    rw [Nat.mul_comm (256 ^ r.length) 256, Nat.mul_assoc]
    omega
theorem leV_take_succ (l : List UInt8) (k : Nat) (h : k < l.length) : leV (l.take (k + 1)) = leV (l.take k) + 256 ^ k * (l[k]).toNat := by
  rw [List.take_succ_eq_append_getElem h, leV_snoc, List.length_take, Nat.min_eq_left (by omega)]
theorem leV_drop (l : List UInt8) (k : Nat) (h : k < l.length) : leV (l.drop k) = (l[k]).toNat + 256 * leV (l.drop (k + 1)) := by
  rw [List.drop_eq_getElem_cons h, leV]
theorem pow256 (k : Nat) : 256 ^ k = 2 ^ (8 * k) := by
  rw [Nat.pow_mul]
/-- The text without the noughts at its end. -/
def bareL (l : List UInt8) : List UInt8 := (l.reverse.dropWhile (· == 0)).reverse
/-- Where the noughts at the end begin. -/
theorem bareL_eq (l : List UInt8) (e : Nat) (he : e ≤ l.length) (hz : ∀ i (h : i < l.length), e ≤ i → l[i] = 0) (hn : ∀ h : e - 1 < l.length, 0 < e → l[e - 1] ≠ 0) : bareL l = l.take e := by
  have hsplit : l = l.take e ++ l.drop e := (List.take_append_drop e l).symm
  have hdrop : l.drop e = List.replicate (l.length - e) 0 := by
    apply List.ext_getElem
    · simp
    · intro i h1 h2
      simp only [List.getElem_drop, List.getElem_replicate]
      exact hz _ _ (by omega)
  unfold bareL
  conv => lhs; rw [hsplit, hdrop, List.reverse_append, List.reverse_replicate]
  rw [List.dropWhile_append_of_pos (by intro a ha; simp at ha; simp [ha.2])]
  rcases Nat.eq_zero_or_pos e with h0 | h0
  · subst h0; simp
  · have h1 := hn (by omega) h0
    have h2 : l.take e = l.take (e - 1) ++ [l[e - 1]'(by omega)] := by
      have := List.take_succ_eq_append_getElem (l := l) (i := e - 1) (by omega)
      rwa [Nat.sub_add_cancel h0] at this
    rw [h2, List.reverse_append]
    simp [h1]
theorem bareL_nil : bareL [] = [] := rfl
theorem bareL_snoc0 (l : List UInt8) : bareL (l ++ [0]) = bareL l := by simp [bareL]
theorem bareL_snoc (l : List UInt8) (b : UInt8) (h : b ≠ 0) : bareL (l ++ [b]) = l ++ [b] := by simp [bareL, h]
theorem bareL_pad (l : List UInt8) (n : Nat) : bareL (l ++ List.replicate n 0) = bareL l := by
  induction n with
  | zero => simp
  | succ n ih => rw [List.replicate_succ', ← List.append_assoc, bareL_snoc0, ih]
theorem snoc_ind {P : List UInt8 → Prop} (h0 : P []) (h1 : ∀ l b, P l → P (l ++ [b])) (l : List UInt8) : P l := by
  have : ∀ r : List UInt8, P r.reverse := by
    intro r
    induction r with
    | nil => exact h0
    | cons b r ih => rw [List.reverse_cons]; exact h1 _ _ ih
  simpa using this l.reverse
/-- A text is what is bare of it, padded. -/
theorem bareL_back (l : List UInt8) : (bareL l).length ≤ l.length ∧ bareL l ++ List.replicate (l.length - (bareL l).length) 0 = l := by
  refine snoc_ind (P := fun l => (bareL l).length ≤ l.length ∧ bareL l ++ List.replicate (l.length - (bareL l).length) 0 = l) ?_ ?_ l
  · simp [bareL]
  · intro l b ih
    by_cases h : b = 0
    · subst h
      rw [bareL_snoc0]
      refine ⟨by simp; omega, ?_⟩
      have h2 : (l ++ [(0 : UInt8)]).length - (bareL l).length = l.length - (bareL l).length + 1 := by simp; omega
      rw [h2, List.replicate_succ', ← List.append_assoc, ih.2]
    · rw [bareL_snoc _ _ h]; simp
theorem bareL_idem (l : List UInt8) : bareL (bareL l) = bareL l := by
  have h := congrArg bareL (bareL_back l).2
  rw [bareL_pad] at h
  exact h
/-- The text in parts of n bytes. -/
def partsL (n : Nat) : Nat → List UInt8 → List (List UInt8)
  | 0, _ => []
  | f + 1, l => if l = [] then [] else l.take n :: partsL n f (l.drop n)
theorem partsL_nil (n f : Nat) : partsL n f [] = [] := by cases f <;> simp [partsL]
theorem partsL_step (n f : Nat) (l : List UInt8) (hn : 0 < n) (hf : l.length ≤ f) (hl : l ≠ []) : partsL n f l = l.take n :: partsL n f (l.drop n) := by
  have key : ∀ f (l : List UInt8), l.length ≤ f → ∀ g, l.length ≤ g → partsL n f l = partsL n g l := by
    intro f
    induction f with
    | zero =>
      intro l h g _
      have : l = [] := List.eq_nil_of_length_eq_zero (by omega)
      subst this
      rw [partsL_nil, partsL_nil]
    | succ f ih =>
      intro l h g hg
      by_cases hl : l = []
      · subst hl; rw [partsL_nil, partsL_nil]
      · have hp : 0 < l.length := List.length_pos_iff.2 hl
        cases g with
        | zero => omega
        | succ g =>
          simp only [partsL, hl, if_false]
          rw [ih (l.drop n) (by simp; omega) g (by simp; omega)]
  have hp : 0 < l.length := List.length_pos_iff.2 hl
  cases f with
  | zero => omega
  | succ f =>
    rw [partsL, if_neg hl]
    rw [key f (l.drop n) (by simp; omega) (f + 1) (by simp; omega)]
theorem partsL_flat (n : Nat) (hn : 0 < n) : ∀ f (l : List UInt8), l.length ≤ f → (partsL n f l).flatten = l := by
  intro f
  induction f with
  | zero => intro l h; have : l = [] := List.eq_nil_of_length_eq_zero (by omega); subst this; rfl
  | succ f ih =>
    intro l h
    by_cases hl : l = []
    · subst hl; rw [partsL_nil]; rfl
    · have hp : 0 < l.length := List.length_pos_iff.2 hl
      rw [partsL, if_neg hl, List.flatten_cons, ih _ (by simp; omega), List.take_append_drop]
theorem partsL_each (n : Nat) (hn : 0 < n) : ∀ f (l : List UInt8), l.length ≤ f → ∀ k (h : k < (partsL n f l).length),
    (partsL n f l)[k] ≠ [] ∧ ((partsL n f l)[k]).length ≤ n ∧ (k + 1 < (partsL n f l).length → ((partsL n f l)[k]).length = n) := by
  intro f
  induction f with
  | zero => intro l _ k h; simp [partsL] at h
  | succ f ih =>
    intro l hl k h
    by_cases h0 : l = []
    · subst h0; simp [partsL_nil] at h
    · have hp : 0 < l.length := List.length_pos_iff.2 h0
      have he : partsL n (f + 1) l = l.take n :: partsL n f (l.drop n) := by rw [partsL, if_neg h0]
      simp only [he] at h ⊢
      cases k with
      | zero =>
        refine ⟨?_, by simp; omega, ?_⟩
        · intro e
          simp only [List.getElem_cons_zero, List.take_eq_nil_iff] at e
          rcases e with e | e
          · omega
          · exact h0 e
        · intro h2
          simp only [List.getElem_cons_zero, List.length_take]
          by_cases h3 : n ≤ l.length
          · omega
          · have hd : partsL n f (l.drop n) = [] := by rw [List.drop_of_length_le (by omega), partsL_nil]
            simp [hd] at h2
      | succ k =>
        have h' : k < (partsL n f (l.drop n)).length := by simpa using h
        have := ih (l.drop n) (by simp; omega) k h'
        simpa using this
/-- The parts of a text. -/
def parts (n : Nat) (l : List UInt8) : List (List UInt8) := partsL n l.length l
end Go.Proofs.YtdddennhdbmolaaGreat
/- Layer 1 (octet), and the document's own answers: what each function answers, for every input. -/
namespace Go.Proofs.YtdddennhdbmolaaGreat
open Go.RowKit
set_option linter.unusedVariables false
set_option linter.unusedSimpArgs false
set_option maxRecDepth 10000
/-- Nothing that was there has turned. -/
abbrev Quiet (w : World) (w' : World) : Prop := Below w.heap.size w w'
set_option maxHeartbeats 400000 in
theorem num_bad (v : Nat) (n : Int) (w : World) (hv : v < 18446744073709551616) (hn : n < 0 ∨ 8 < n) :
    Calls Tryz.prog 100 #[.int .u64 v, .int .i64 n] w fun e w' => e = .returned (.tuple #[str [], .int .i64 2]) ∧ Below w.heap.size w w' := by
  rcases hn with hn | hn
  all_goals
    go_enter Tryz.func100, Tryz.ntmps100
    go_wp2
    go_ret2
    exact ⟨rfl, ((Below.refl _ _).alloc (Nat.le_refl _) _).alloc (by simp) _⟩
set_option maxHeartbeats 400000 in
theorem num_big (v n : Nat) (w : World) (hv : v < 18446744073709551616) (hn : n ≤ 8) (hb : ((v : Int) / 2 ^ (8 * n) != 0) = true) :
    Calls Tryz.prog 100 #[.int .u64 v, .int .i64 n] w fun e w' => e = .returned (.tuple #[str [], .int .i64 2]) ∧ Below w.heap.size w w' := by
  go_enter Tryz.func100, Tryz.ntmps100
  go_wp2
  go_ret2
  exact ⟨rfl, ((Below.refl _ _).alloc (Nat.le_refl _) _).alloc (by simp) _⟩
theorem uint8Info : (Tryz.prog.info? 5).map (fun i => (i.zero, i.size, i.bytes)) = some (some (.int .u8 0), 1, 1) := by kernel_rfl
/-- 'make([]byte, n)'. -/
theorem make_bytes (n : Nat) (hn : n ≤ 1048576) : ∀ W : World, (Instr.makeSlice 89 (.int .i64 (n : Int)) (.int .i64 (n : Int))).run Tryz.prog W = .ok (.slice (some ⟨W.heap.size, 0, none⟩) n n) (W.alloc (.cells (byteCells (List.replicate n 0)) 5)) := fun W => by
  obtain ⟨i0, hi, hz0, hz1, hz2⟩ := info_parts uint8Info
  have h := run_make (P := Tryz.prog) W 89 5 i0 _ Tryz.underlying89 hi hz0 .i64 .i64 n n (by omega) (by omega) (by rw [hz2]; omega) (by omega)
  rw [hz1] at h
  simpa [Value.cells, made_bytes] using h
set_option maxHeartbeats 400000 in
theorem num_ok (v n : Nat) (w : World) (hv : v < 18446744073709551616) (hn : n ≤ 8) (hb : ((v : Int) / 2 ^ (8 * n) != 0) = false) :
    Calls Tryz.prog 100 #[.int .u64 v, .int .i64 n] w fun e w' => e = .returned (.tuple #[str (leB n v), .int .i64 0]) ∧ Below w.heap.size w w' := by
  have hmk := make_bytes n (by omega)
  go_enter Tryz.func100, Tryz.ntmps100
  go_wp2
  go_loopw [21] (fun i wr => ∃ k : Nat, k ≤ n ∧ i = .int .i64 k ∧ wr.heap[w.heap.size + 1 + 1]? = some (.cells (byteCells (leB k v ++ List.replicate (n - k) 0)) 5 (0, 0)) ∧ Below w.heap.size w wr) (fun i _ => n - (intOf i).toNat)
  case atStart =>
    refine ⟨0, Nat.zero_le _, rfl, ?_, (((Below.refl _ _).alloc (Nat.le_refl _) _).alloc (by simp) _).alloc (by simp; omega) _⟩
    exact heap_new _ _ _ (by simp)
  case round =>
    obtain ⟨k, hk, rfl, hg, hb2⟩ := hrel
    by_cases hlt : k < n
    · have hcell := cell_of_row wr (w.heap.size + 1 + 1) k _ 5 (0, 0) hg
      have hfr := frozen_of_row wr (w.heap.size + 1 + 1) k _ 5 hg
      have hget : (byteCells (leB k v ++ List.replicate (n - k) 0))[k]? = some (.int .u8 0) := by
        rw [byteCells_get _ _ (by simp [leB_length]; omega), List.getElem_append_right (by rw [leB_length]; omega)]
        simp
      rw [hget] at hcell
      have Hg := Lib.hid hg
      clear hg hget
      go_wp2
      go_roundw
      case rel =>
        refine ⟨k + 1, by omega, by go_num, ?_, ?_⟩
        · have hx : ((v : Int) / 2 ^ (8 * k) % 256) = ((UInt8.ofNat (v / 256 ^ k % 256)).toNat : Int) := by
            rw [UInt8.toNat_ofNat', pow256]
            simp only [Int.natCast_emod, Int.natCast_ediv, Int.natCast_pow]
            simp
          rw [blk_set_byte Hg.out _ _ hx, leB_fill _ _ _ hlt]
        · exact hb2.setCell (by simp; omega) _
      case measure => simp [intOf]; omega
    · have hkn : k = n := by omega
      subst hkn
      have hg' : wr.heap[w.heap.size + 1 + 1]? = some (.cells (byteCells (leB k v)) 5 (0, 0)) := by simpa using hg
      have hcv := conv_blk (P := Tryz.prog) 89 9 5 Tryz.underlying89 Tryz.underlying5 Tryz.underlying9 wr (w.heap.size + 1 + 1) k (leB k v) hg'
      rw [leB_length] at hcv
      clear hg hg'
      go_wp2
      go_ret2
      exact ⟨rfl, hb2⟩
end Go.Proofs.YtdddennhdbmolaaGreat
/- Layer 1 (octet), continued. -/
namespace Go.Proofs.YtdddennhdbmolaaGreat
open Go.RowKit
set_option linter.unusedVariables false
set_option linter.unusedSimpArgs false
set_option maxRecDepth 10000
set_option maxHeartbeats 400000 in
theorem get_long (l : List UInt8) (w : World) (hs : l.length ≤ maxLen) (hl : 8 < l.length) :
    Calls Tryz.prog 97 #[str l] w fun e w' => e = .returned (.tuple #[.int .u64 0, .int .i64 5]) ∧ Below w.heap.size w w' := by
  unfold maxLen at hs
  go_enter Tryz.func97, Tryz.ntmps97
  go_wp2
  go_ret2
  exact ⟨rfl, ((Below.refl _ _).alloc (Nat.le_refl _) _).alloc (by simp) _⟩
set_option maxHeartbeats 400000 in
theorem get_ok (l : List UInt8) (w : World) (hl : l.length ≤ 8) :
    Calls Tryz.prog 97 #[str l] w fun e w' => e = .returned (.tuple #[.int .u64 (leV l), .int .i64 0]) ∧ Below w.heap.size w w' := by
  go_enter Tryz.func97, Tryz.ntmps97
  go_wp2
  go_loop [4, 12] (fun v i => ∃ k m : Nat, k ≤ l.length ∧ i = .int .i64 k ∧ v = .int .u64 m ∧ m = leV (l.take k)) (fun _ i => l.length - (intOf i).toNat)
  case atStart => exact ⟨0, 0, Nat.zero_le _, rfl, rfl, by simp [leV]⟩
  case round =>
    obtain ⟨k, m, hk, rfl, rfl, hm⟩ := hrel
    have Hm := Lib.hid hm
    by_cases hlt : k < l.length
    · have hm2 := leV_lt (l.take k)
      rw [← hm, List.length_take, Nat.min_eq_left hk] at hm2
      have hd := leV_take_succ l k hlt
      rw [← hm] at hd
      have Hd := Lib.hid hd
      have Hm2 := Lib.hid hm2
      clear hm hd hm2
      have hbyte := (l[k]).toNat_lt
      go_wp2
      go_round
      case rel =>
        refine ⟨k + 1, m + 256 ^ k * (l[k]).toNat, by omega, by go_num, ?_, Hd.out.symm⟩
        rw [or_step _ _ _ (by omega) hbyte Hm2.out]
      case measure => simp [intOf]; omega
    · clear hm
      go_wp2
      go_ret2
      have : k = l.length := by omega
      subst this
      exact ⟨ret2_u64 (by rw [Hm.out, List.take_length]), ((Below.refl _ _).alloc (Nat.le_refl _) _).alloc (by simp) _⟩
set_option maxHeartbeats 400000 in
theorem cut_neg (l : List UInt8) (n : Int) (w : World) (hn : n < 0) :
    Calls Tryz.prog 114 #[str l, .int .i64 n] w fun e w' => e = .returned (.tuple #[str [], str [], .int .i64 2]) ∧ Below w.heap.size w w' := by
  go_enter Tryz.func114, Tryz.ntmps114
  go_wp2
  go_ret3
  exact ⟨rfl, Below.refl _ _⟩
set_option maxHeartbeats 400000 in
theorem cut_far (l : List UInt8) (n : Int) (w : World) (hs : l.length ≤ maxLen) (hn2 : (l.length : Int) < n) :
    Calls Tryz.prog 114 #[str l, .int .i64 n] w fun e w' => e = .returned (.tuple #[str [], str [], .int .i64 6]) ∧ Below w.heap.size w w' := by
  unfold maxLen at hs
  go_enter Tryz.func114, Tryz.ntmps114
  go_wp2
  go_ret3
  exact ⟨rfl, ((Below.refl _ _).alloc (Nat.le_refl _) _).alloc (by simp) _⟩
theorem ret3_str {a b c d : ByteArray} {x : Value} (h : a = b) (k : c = d) : Ending.returned (.tuple #[.string a, .string c, x]) = .returned (.tuple #[.string b, .string d, x]) := by rw [h, k]
set_option maxHeartbeats 400000 in
theorem cut_ok (l : List UInt8) (i : Int) (n : Nat) (w : World) (hs : l.length ≤ maxLen) (hi : i = n) (hn2 : n ≤ l.length) :
    Calls Tryz.prog 114 #[str l, .int .i64 i] w fun e w' => e = .returned (.tuple #[str (l.take n), str (l.drop n), .int .i64 0]) ∧ Below w.heap.size w w' := by
  subst hi
  unfold maxLen at hs
  go_enter Tryz.func114, Tryz.ntmps114
  go_wp2
  go_quiet (fail)
  go_wp2
  go_ret3
  exact ⟨ret3_str (by simp) (by simp), below_drewN (((Below.refl _ _).alloc (Nat.le_refl _) _).alloc (by simp) _) _⟩
theorem cons_append (x : UInt8) (l : List UInt8) : Value.string ((⟨#[x]⟩ : ByteArray) ++ ⟨l.toArray⟩) = str (x :: l) := str_append [x] l
theorem cons_append' (x : UInt8) (l : List UInt8) : (⟨#[x]⟩ : ByteArray) ++ ⟨l.toArray⟩ = ⟨(x :: l).toArray⟩ := by
  have := str_append [x] l
  injection this
end Go.Proofs.YtdddennhdbmolaaGreat
/- Layer 1 (octet), continued: Read8, Bare, Pad. -/
namespace Go.Proofs.YtdddennhdbmolaaGreat
open Go.RowKit
set_option linter.unusedVariables false
set_option linter.unusedSimpArgs false
set_option maxRecDepth 10000
end Go.Proofs.YtdddennhdbmolaaGreat
/- Layer 1 (octet), continued: Bare. -/
namespace Go.Proofs.YtdddennhdbmolaaGreat
open Go.RowKit
set_option linter.unusedVariables false
set_option linter.unusedSimpArgs false
set_option maxRecDepth 10000
end Go.Proofs.YtdddennhdbmolaaGreat
/- CRC-32, bit by bit: plain mathematics, no program. -/
namespace Go.Proofs.YtdddennhdbmolaaGreat
/-- What a register is combined with where a 1 leaves it. -/
def poly : BitVec 32 := 0xedb88320#32
/-- One bit. -/
def st1 (c : BitVec 32) : BitVec 32 := if c.getLsbD 0 then (c >>> 1) ^^^ poly else c >>> 1
/-- So many bits 0. -/
def stn : Nat → BitVec 32 → BitVec 32
  | 0, c => c
  | n + 1, c => stn n (st1 c)
theorem xor_swap (a b p q : BitVec 32) : (a ^^^ b) ^^^ (p ^^^ q) = (a ^^^ p) ^^^ (b ^^^ q) := by
  rw [BitVec.xor_assoc, BitVec.xor_assoc]; congr 1
  rw [← BitVec.xor_assoc, ← BitVec.xor_assoc, BitVec.xor_comm b p]
theorem st1_xor (a b : BitVec 32) : st1 (a ^^^ b) = st1 a ^^^ st1 b := by
  unfold st1
  rw [BitVec.getLsbD_xor, BitVec.ushiftRight_xor_distrib]
  cases a.getLsbD 0 <;> cases b.getLsbD 0 <;> simp
  · exact BitVec.xor_assoc _ _ _
  · rw [BitVec.xor_assoc, BitVec.xor_assoc, BitVec.xor_comm poly]
  · rw [xor_swap]; simp
theorem stn_xor (n : Nat) (a b : BitVec 32) : stn n (a ^^^ b) = stn n a ^^^ stn n b := by
  induction n generalizing a b with
  | zero => rfl
  | succ n ih => simp only [stn, st1_xor, ih]
theorem stn_add (m n : Nat) (c : BitVec 32) : stn (m + n) c = stn n (stn m c) := by
  induction m generalizing c with
  | zero => simp [stn]
  | succ m ih => rw [Nat.succ_add]; simp only [stn, ih]
theorem st1_zero (c : BitVec 32) (h : st1 c = 0#32) : c = 0#32 := by
  unfold st1 at h
  split at h
  · exfalso
    have := congrArg (fun x => x.getLsbD 31) h
    simp [poly] at this
  · rename_i h0
    apply BitVec.eq_of_getLsbD_eq
    intro i hi
    cases i with
    | zero => simpa using h0
    | succ i =>
      have := congrArg (fun x => x.getLsbD i) h
      simp at this
      rw [Nat.add_comm]; simp [this]
theorem stn_zero (n : Nat) (c : BitVec 32) (h : stn n c = 0#32) : c = 0#32 := by
  induction n generalizing c with
  | zero => exact h
  | succ n ih => exact st1_zero c (ih _ h)
theorem stn_inj (n : Nat) (a b : BitVec 32) (h : stn n a = stn n b) : a = b := by
  have h2 : stn n (a ^^^ b) = 0#32 := by rw [stn_xor, h]; simp
  have := stn_zero n _ h2
  exact BitVec.xor_eq_zero_iff.1 this
/-- Bits 0 go out. -/
theorem stn_shift (k : Nat) (x : BitVec 32) (h : ∀ i, i < k → x.getLsbD i = false) : stn k x = x >>> k := by
  induction k generalizing x with
  | zero => simp [stn]
  | succ k ih =>
    have h0 : st1 x = x >>> 1 := by unfold st1; rw [h 0 (by omega)]; rfl
    rw [stn, h0, ih]
    · rw [← BitVec.shiftRight_add, Nat.add_comm]
    · intro i hi
      rw [BitVec.getLsbD_ushiftRight]
      exact h _ (by omega)
/-- A byte as a register's low bits. -/
def low (b : UInt8) : BitVec 32 := BitVec.ofNat 32 b.toNat
theorem low_getLsbD (b : UInt8) (i : Nat) : (low b).getLsbD i = b.toNat.testBit i := by
  unfold low
  rw [BitVec.getLsbD_ofNat]
  by_cases h : i < 32
  · simp [h]
  · have := b.toNat_lt
    rw [Nat.testBit_lt_two_pow]
    · simp
    · exact Nat.lt_of_lt_of_le this (Nat.pow_le_pow_right (n := 2) (by omega) (show 8 ≤ i by omega))
theorem low_xor (a b : UInt8) : low (a ^^^ b) = low a ^^^ low b := by
  apply BitVec.eq_of_getLsbD_eq
  intro i hi
  rw [BitVec.getLsbD_xor, low_getLsbD, low_getLsbD, low_getLsbD]
  simp
/-- The register behind all bytes of a text. -/
def crcL (c : BitVec 32) : List UInt8 → BitVec 32
  | [] => c
  | b :: r => crcL (stn 8 (c ^^^ low b)) r
theorem crcL_append (c : BitVec 32) (l m : List UInt8) : crcL c (l ++ m) = crcL (crcL c l) m := by
  induction l generalizing c with
  | nil => rfl
  | cons b r ih => exact ih _
theorem crcL_snoc (c : BitVec 32) (l : List UInt8) (b : UInt8) : crcL c (l ++ [b]) = stn 8 (crcL c l ^^^ low b) := crcL_append c l [b]
theorem crcL_lin (c d : BitVec 32) (l : List UInt8) : crcL (c ^^^ d) l = crcL c l ^^^ stn (8 * l.length) d := by
  induction l generalizing c d with
  | nil => rfl
  | cons b r ih =>
    have h : (c ^^^ d) ^^^ low b = (c ^^^ low b) ^^^ d := by rw [BitVec.xor_assoc, BitVec.xor_comm d, ← BitVec.xor_assoc]
    rw [crcL, h, stn_xor, ih, List.length_cons, Nat.mul_succ, Nat.add_comm, stn_add]
    rfl
theorem crcL_both (c d : BitVec 32) (l m : List UInt8) (h : l.length = m.length) : crcL (c ^^^ d) (List.zipWith (· ^^^ ·) l m) = crcL c l ^^^ crcL d m := by
  induction l generalizing c d m with
  | nil => cases m with
    | nil => rfl
    | cons => simp at h
  | cons b r ih =>
    cases m with
    | nil => simp at h
    | cons x m =>
      rw [List.zipWith_cons_cons, crcL, crcL, crcL, low_xor, xor_swap, stn_xor]
      exact ih _ _ m (by simpa using h)
/-- By a table: a byte goes out, what it does comes in. -/
theorem stn8_table (c : BitVec 32) (b : UInt8) : stn 8 (c ^^^ low b) = (c >>> 8) ^^^ stn 8 (low (UInt8.ofNat c.toNat ^^^ b)) := by
  have h1 : c ^^^ low b = (c ^^^ low (UInt8.ofNat c.toNat)) ^^^ low (UInt8.ofNat c.toNat ^^^ b) := by
    rw [low_xor, BitVec.xor_assoc]
    congr 1
    rw [← BitVec.xor_assoc]
    simp
  have hlow : ∀ i, (low (UInt8.ofNat c.toNat)).getLsbD i = (decide (i < 8) && c.getLsbD i) := by
    intro i
    rw [low_getLsbD, UInt8.toNat_ofNat']
    rw [Nat.testBit_mod_two_pow]
    rfl
  rw [h1, stn_xor, stn_shift]
  · congr 1
    apply BitVec.eq_of_getLsbD_eq
    intro i hi
    have h8 : ¬ 8 + i < 8 := by omega
    simp [hlow, h8]
  · intro i hi
    simp [hlow, hi]
/-- One bit of a byte. -/
theorem stn8_bit : ∀ k : Fin 8, stn 8 (low (1 <<< UInt8.ofNat k.val)) = stn (8 - k.val) 1#32 := by decide +kernel
theorem crcL_flip (c : BitVec 32) (l : List UInt8) (k : Nat) (h : k / 8 < l.length) :
    crcL c (l.set (k / 8) (l[k / 8] ^^^ 1 <<< UInt8.ofNat (k % 8))) = crcL c l ^^^ stn (8 * l.length - k) 1#32 := by
  induction l generalizing c k with
  | nil => simp at h
  | cons x r ih =>
    by_cases h8 : k < 8
    · have h0 : k / 8 = 0 := Nat.div_eq_of_lt h8
      have h1 : k % 8 = k := Nat.mod_eq_of_lt h8
      simp only [h0, h1, List.set_cons_zero, List.getElem_cons_zero]
      rw [crcL, crcL, low_xor, ← BitVec.xor_assoc, stn_xor, crcL_lin, stn8_bit ⟨k, h8⟩, ← stn_add, List.length_cons]
      congr 2
      show 8 - k + 8 * r.length = _
      omega
    · have h0 : k / 8 = (k - 8) / 8 + 1 := by omega
      have h1 : k % 8 = (k - 8) % 8 := by omega
      simp only [h0, h1, List.set_cons_succ, List.getElem_cons_succ]
      rw [crcL, crcL, ih _ (k - 8) (by simp [h0] at h; omega), List.length_cons]
      congr 2
      omega
/-- Bits i and below of p. -/
def part (p i : Nat) : BitVec 32 := BitVec.ofNat 32 (p % 2 ^ i)
theorem part_step1 (p i : Nat) (hi : i < 32) (h : p / 2 ^ i % 2 = 1) : part p (i + 1) = part p i ^^^ (1#32 <<< i) := by
  apply BitVec.eq_of_getLsbD_eq
  intro j hj
  have ht : p.testBit i = true := by rw [Nat.testBit_eq_decide_div_mod_eq]; simp [h]
  simp only [part, BitVec.getLsbD_xor, BitVec.getLsbD_ofNat, Nat.testBit_mod_two_pow, hj, decide_true, Bool.true_and, BitVec.getLsbD_shiftLeft]
  by_cases h1 : j < i
  · have h3 : j < i + 1 := by omega
    simp [h1, h3]
  · by_cases h2 : j = i
    · subst h2; simp [ht]
    · have h3 : ¬ j < i + 1 := by omega
      have h4 : Nat.testBit 1 (j - i) = false := Nat.testBit_lt_two_pow (Nat.one_lt_two_pow (by omega))
      simp [h1, h3, h4]
theorem part_step0 (p i : Nat) (h : p / 2 ^ i % 2 ≠ 1) : part p (i + 1) = part p i := by
  have ht : p.testBit i = false := by rw [Nat.testBit_eq_decide_div_mod_eq]; simp; omega
  apply BitVec.eq_of_getLsbD_eq
  intro j hj
  simp only [part, BitVec.getLsbD_ofNat, Nat.testBit_mod_two_pow, hj, decide_true, Bool.true_and]
  by_cases h1 : j < i
  · have h3 : j < i + 1 := by omega
    simp [h1, h3]
  · by_cases h2 : j = i
    · subst h2; simp [ht]
    · have h3 : ¬ j < i + 1 := by omega
      simp [h1, h3]
theorem stn_bit (i : Nat) (hi : i < 32) : stn i (1#32 <<< i) = 1#32 := by
  rw [stn_shift]
  · apply BitVec.eq_of_getLsbD_eq
    intro j hj
    rw [BitVec.getLsbD_ushiftRight, BitVec.getLsbD_shiftLeft]
    have h1 : ¬ i + j < i := by omega
    by_cases h2 : i + j < 32
    · simp [h2, BitVec.getLsbD_one]
    · have h3 : ¬ j = 0 := by omega
      simp [h2, BitVec.getLsbD_one, h3]
  · intro j hj
    simp [BitVec.getLsbD_shiftLeft, hj]
theorem burst_step1 (p i N : Nat) (hi : i < 32) (hN : 32 ≤ N) (h : p / 2 ^ i % 2 = 1) : stn N (part p (i + 1)) = stn N (part p i) ^^^ stn (N - i) 1#32 := by
  rw [part_step1 p i hi h, stn_xor]
  congr 1
  have h2 : N = i + (N - i) := by omega
  conv => lhs; rw [h2, stn_add, stn_bit i hi]
/-- What the four bytes of a seal do to a register. -/
theorem crcL_le4 (c : BitVec 32) (a b d e : UInt8) : crcL c [a, b, d, e] = stn 32 (c ^^^ (low a ^^^ (low b <<< 8 ^^^ (low d <<< 16 ^^^ low e <<< 24)))) := by
  have hb : ∀ (x : UInt8) (k : Nat), k ≤ 24 → stn k (low x <<< k) = low x := by
    intro x k hk
    rw [stn_shift]
    · apply BitVec.eq_of_getLsbD_eq
      intro j hj
      rw [BitVec.getLsbD_ushiftRight, BitVec.getLsbD_shiftLeft]
      have h1 : ¬ k + j < k := by omega
      have h4 : k + j - k = j := by omega
      by_cases h2 : k + j < 32
      · simp [h2]
      · have h3 : (low x).getLsbD j = false := by
          rw [low_getLsbD]
          apply Nat.testBit_lt_two_pow
          exact Nat.lt_of_lt_of_le x.toNat_lt (Nat.pow_le_pow_right (n := 2) (by omega) (show 8 ≤ j by omega))
        simp [h2, h3]
    · intro j hj
      simp [BitVec.getLsbD_shiftLeft, hj]
  simp only [crcL]
  have h32 : ∀ x, stn 32 x = stn 8 (stn 8 (stn 8 (stn 8 x))) := fun x => by rw [← stn_add, ← stn_add, ← stn_add]
  rw [h32]
  have e8 : stn 8 (low b <<< 8) = low b := hb b 8 (by omega)
  have e16 : stn 8 (stn 8 (low d <<< 16)) = low d := by rw [← stn_add]; exact hb d 16 (by omega)
  have e24 : stn 8 (stn 8 (stn 8 (low e <<< 24))) = low e := by rw [← stn_add, ← stn_add]; exact hb e 24 (by omega)
  simp only [stn_xor, e8, e16, e24, BitVec.xor_assoc]
theorem low_part (v : BitVec 32) (k i : Nat) (hk : k ≤ 24) : (low (UInt8.ofNat (v.toNat / 2 ^ k % 256)) <<< k).getLsbD i = (decide (k ≤ i) && (decide (i < k + 8) && v.getLsbD i)) := by
  rw [BitVec.getLsbD_shiftLeft, low_getLsbD, UInt8.toNat_ofNat', Nat.testBit_mod_two_pow, show (256 : Nat) = 2 ^ 8 from rfl, Nat.testBit_mod_two_pow, Nat.testBit_div_two_pow]
  by_cases h1 : k ≤ i
  · have h2 : ¬ i < k := by omega
    have h3 : i - k + k = i := by omega
    by_cases h4 : i < k + 8
    · have h5 : i - k < 8 := by omega
      have h6 : i < 32 := by omega
      simp [h1, h2, h3, h4, h5, h6, BitVec.testBit_toNat]
    · have h5 : ¬ i - k < 8 := by omega
      simp [h4, h5]
  · have h2 : i < k := by omega
    simp [h1, h2]
/-- The bytes of a register, the lowest first. -/
def four (v : BitVec 32) : List UInt8 := [UInt8.ofNat (v.toNat % 256), UInt8.ofNat (v.toNat / 256 % 256), UInt8.ofNat (v.toNat / 65536 % 256), UInt8.ofNat (v.toNat / 16777216 % 256)]
theorem crcL_four (c v : BitVec 32) : crcL c (four v) = stn 32 (c ^^^ v) := by
  unfold four
  rw [crcL_le4]
  congr 2
  apply BitVec.eq_of_getLsbD_eq
  intro i hi
  have h0 := low_part v 0 i (by omega)
  have h1 := low_part v 8 i (by omega)
  have h2 := low_part v 16 i (by omega)
  have h3 := low_part v 24 i (by omega)
  simp only [Nat.pow_zero, Nat.div_one, BitVec.shiftLeft_zero] at h0
  simp only [BitVec.getLsbD_xor]
  rw [h0, show (256 : Nat) = 2 ^ 8 from rfl, h1, show (65536 : Nat) = 2 ^ 16 from rfl, h2, show (16777216 : Nat) = 2 ^ 24 from rfl, h3]
  by_cases a : i < 8
  · have b1 : ¬ 8 ≤ i := by omega
    have b2 : ¬ 16 ≤ i := by omega
    have b3 : ¬ 24 ≤ i := by omega
    simp [a, b1, b2, b3]
  · by_cases b : i < 16
    · have b1 : 8 ≤ i := by omega
      have b2 : ¬ 16 ≤ i := by omega
      have b3 : ¬ 24 ≤ i := by omega
      simp [a, b, b1, b2, b3]
    · by_cases d : i < 24
      · have b2 : 16 ≤ i := by omega
        have b3 : ¬ 24 ≤ i := by omega
        simp [a, b, d, b2, b3]
      · have b3 : 24 ≤ i := by omega
        simp [a, b, d, b3, hi]
/-- The bytes of a text's sum. -/
def sealL (l : List UInt8) : List UInt8 := four (~~~ (crcL 0xffffffff#32 l))
theorem sealL_length (l : List UInt8) : (sealL l).length = 4 := rfl
/-- What a whole sealed text leaves. -/
def residue : BitVec 32 := stn 32 0xffffffff#32
theorem ones_all : 0xffffffff#32 = BitVec.allOnes 32 := by decide
theorem sealed_residue (l : List UInt8) : crcL 0xffffffff#32 (l ++ sealL l) = residue := by
  rw [crcL_append, sealL, crcL_four]
  unfold residue
  congr 1
  generalize crcL (4294967295#32) l = x
  rw [ones_all]
  apply BitVec.eq_of_getLsbD_eq
  intro i hi
  rw [BitVec.getLsbD_xor, BitVec.getLsbD_not, BitVec.getLsbD_allOnes]
  cases x.getLsbD i <;> simp [hi]
theorem four_inj (a b : BitVec 32) (h : four a = four b) : a = b := by
  have h1 := crcL_four 0#32 a
  have h2 := crcL_four 0#32 b
  rw [h, h2] at h1
  have := stn_inj 32 _ _ h1
  simpa using this.symm
theorem four_of (q : List UInt8) (h : q.length = 4) : ∃ v, q = four v := by
  match q, h with
  | [a, b, d, e], _ =>
    refine ⟨BitVec.ofNat 32 (a.toNat + 256 * (b.toNat + 256 * (d.toNat + 256 * e.toNat))), ?_⟩
    have ha := a.toNat_lt
    have hb := b.toNat_lt
    have hd := d.toNat_lt
    have he := e.toNat_lt
    have e1 : ∀ x : UInt8, UInt8.ofNat x.toNat = x := fun x => UInt8.ofNat_toNat
    unfold four
    rw [BitVec.toNat_ofNat, Nat.mod_eq_of_lt (a := a.toNat + 256 * (b.toNat + 256 * (d.toNat + 256 * e.toNat))) (by omega)]
    have f0 : (a.toNat + 256 * (b.toNat + 256 * (d.toNat + 256 * e.toNat))) % 256 = a.toNat := by omega
    have f1 : (a.toNat + 256 * (b.toNat + 256 * (d.toNat + 256 * e.toNat))) / 256 % 256 = b.toNat := by omega
    have f2 : (a.toNat + 256 * (b.toNat + 256 * (d.toNat + 256 * e.toNat))) / 65536 % 256 = d.toNat := by omega
    have f3 : (a.toNat + 256 * (b.toNat + 256 * (d.toNat + 256 * e.toNat))) / 16777216 % 256 = e.toNat := by omega
    rw [f0, f1, f2, f3, e1, e1, e1, e1]
/-- Whose sum fits is what leaves the residue. -/
theorem fits_residue (l q : List UInt8) (hq : q.length = 4) : q = sealL l ↔ crcL 0xffffffff#32 (l ++ q) = residue := by
  constructor
  · rintro rfl; exact sealed_residue l
  · intro h
    obtain ⟨v, rfl⟩ := four_of q hq
    rw [crcL_append, crcL_four] at h
    have h2 := stn_inj 32 _ _ h
    unfold sealL
    congr 1
    generalize crcL 0xffffffff#32 l = x at h2
    have h3 : v = x ^^^ 0xffffffff#32 := by
      rw [← h2, ← BitVec.xor_assoc, BitVec.xor_self, BitVec.zero_xor]
    rw [h3, ones_all]
    exact BitVec.xor_allOnes
end Go.Proofs.YtdddennhdbmolaaGreat
