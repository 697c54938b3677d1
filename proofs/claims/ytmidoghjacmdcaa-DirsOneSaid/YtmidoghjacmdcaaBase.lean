/- Words that all of this seat's walks use: no claim by itself. -/
import Derived.Test.YtmidoghjacmdcaaRows
import Derived.WalkKit
import Derived.WalkSpells
import Derived.WalkLawsBesides
import Derived.Below
import Derived.Lib.Hide
import Derived.Outline
import Derived.Deep.QuietTactic
import Derived.BigQuiet
import Derived.Laws.BytesString
import Derived.Laws.IdiomStrings
namespace Go.Proofs.Ytmidoghjacmdcaa
open Go.RowKit
set_option linter.unusedVariables false
set_option linter.unusedSimpArgs false
set_option maxRecDepth 10000
/-- A text as a value. -/
abbrev str (l : List UInt8) : Value := .string ⟨l.toArray⟩
/-- The length of the text in a slot: for a loop's measure. -/
def lenOf : Value → Nat | .string b => b.size | _ => 0
theorem below_drewN {B : Nat} {a w : World} (h : Below B a w) (n : Nat) : Below B a (w.drewN n) := ⟨h.os, h.tape, h.output, h.size, h.block⟩
theorem str_of (s : ByteArray) : Value.string s = str s.data.toList := by
  cases s; rfl
theorem extract_take (l : List UInt8) (n : Nat) : (⟨l.toArray⟩ : ByteArray).extract 0 n = ⟨(l.take n).toArray⟩ := by
  apply ByteArray.ext
  simp [ByteArray.data_extract]
theorem extract_drop (l : List UInt8) (n : Nat) : (⟨l.toArray⟩ : ByteArray).extract n l.length = ⟨(l.drop n).toArray⟩ := by
  apply ByteArray.ext
  simp [ByteArray.data_extract, List.take_of_length_le]
@[go_sem] theorem extract_mid (l : List UInt8) (a b : Nat) : (⟨l.toArray⟩ : ByteArray).extract a b = ⟨((l.take b).drop a).toArray⟩ := by
  apply ByteArray.ext
  simp [ByteArray.data_extract, List.drop_take]
theorem str_snoc (l : List UInt8) (x : UInt8) : Value.string ((⟨l.toArray⟩ : ByteArray) ++ ⟨#[x]⟩) = str (l ++ [x]) := congrArg Value.string (ByteArray.mk_append_mk l [x])
theorem str_append (l r : List UInt8) : Value.string ((⟨l.toArray⟩ : ByteArray) ++ ⟨r.toArray⟩) = str (l ++ r) := congrArg Value.string (ByteArray.mk_append_mk l r)
theorem ret_str {a b : ByteArray} (h : a = b) : Ending.returned (.string a) = .returned (.string b) := by rw [h]
theorem ret2_str {a b : ByteArray} {x : Value} (h : a = b) : Ending.returned (.tuple #[.string a, x]) = .returned (.tuple #[.string b, x]) := by rw [h]
theorem ret2_u64 {a b : Int} {x : Value} (h : a = b) : Ending.returned (.tuple #[.int .u64 a, x]) = .returned (.tuple #[.int .u64 b, x]) := by rw [h]
theorem u64_wrap (n : Int) (h0 : 0 ≤ n) (h1 : n < 18446744073709551616) : IntKind.u64.wrap n = n := IntWalk.u64_in n ⟨h0, by omega⟩
theorem u8_wrap (n : Int) (h0 : 0 ≤ n) (h1 : n < 256) : IntKind.u8.wrap n = n := IntWalk.u8_in n ⟨h0, by omega⟩
/- The walk's own forms: a byte of a text; bytes as numbers. -/
@[go_sem] theorem bytes_index (l : List UInt8) (i : Nat) (h : i < (⟨l.toArray⟩ : ByteArray).size) : (⟨l.toArray⟩ : ByteArray)[i]'h = l[i]'(by simpa using (show i < l.toArray.size from h)) := rfl
@[go_sem] theorem first_byte (b : UInt8) (r : List UInt8) (h : 0 < (b :: r).length) : (b :: r)[0]'h = b := rfl
@[go_sem] theorem texts_join (a b : List UInt8) : (⟨a.toArray⟩ : ByteArray) ++ ⟨b.toArray⟩ = ⟨(a ++ b).toArray⟩ := ByteArray.mk_append_mk a b
@[go_sem] theorem byte_i64 (b : UInt8) : wrap64 (b.toNat : Int) = (b.toNat : Int) := by have := b.toNat_lt; exact IntWalk.wrap64_in _ (by omega)
@[go_sem] theorem byte_u64 (b : UInt8) : IntKind.u64.wrap (b.toNat : Int) = (b.toNat : Int) := by have := b.toNat_lt; exact u64_wrap _ (by omega) (by omega)
theorem byte_ne0 (b : UInt8) (h : b ≠ 0) : (((b.toNat : Int)) == 0) = false := by
  rw [beq_eq_false_iff_ne]
  intro h2
  exact h (UInt8.toNat_inj.1 (by simpa using Int.ofNat.inj h2))
theorem byte_ne0' (b : UInt8) (h : b ≠ 0) : (((b.toNat : Int)) != 0) = true := by rw [bne, byte_ne0 b h]; rfl
theorem bytes_get (l : List UInt8) (j : Nat) (h : j < l.length) : (⟨l.toArray⟩ : ByteArray)[j]'(show j < l.toArray.size by simpa using h) = l[j] := rfl
/-- The cells of bytes. -/
abbrev byteCells (l : List UInt8) : Array Value := (l.map fun b => Value.int .u8 (b.toNat : Int)).toArray
theorem chain {w a b : World} (h : Below w.heap.size w a) (k : Below a.heap.size a b) : Below w.heap.size w b := h.trans (k.mono h.size)
theorem or_step (m k b : Nat) (hk : k < 8) (hb : b < 256) (hm : m < 256 ^ k) :
    bits .or .u64 (m : Int) (IntKind.u64.wrap ((b : Int) * 2 ^ (8 * k))) = ((m + 256 ^ k * b : Nat) : Int) := by
  have h1 : 256 ^ k ≤ 256 ^ 7 := Nat.pow_le_pow_right (by omega) (by omega)
  have h2 : 256 ^ k * b ≤ 256 ^ 7 * 255 := Nat.mul_le_mul h1 (by omega)
  have h3 : (256 : Nat) ^ k = 2 ^ (8 * k) := by rw [Nat.pow_mul]
  have h4 : ((b : Int) * 2 ^ (8 * k)) = ((256 ^ k * b : Nat) : Int) := by
    rw [h3]; simp [Int.mul_comm]
  rw [h4, u64_wrap _ (by omega) (by
    have : 256 ^ 7 * 255 < 18446744073709551616 := by decide
    omega)]
  have h5 : (256 : Nat) ^ 7 * 255 < 18446744073709551616 := by decide
  rw [u64_or_nat _ _ (by
    have : (256 : Nat) ^ 7 < 18446744073709551616 := by decide
    omega) (by omega), Nat.or_comm, nat_join (8 * k) _ _ (by rw [h3]; exact Nat.mul_mod_right _ _) (by rw [← h3]; exact hm), Nat.add_comm]
theorem heap_new (w : World) (o : Obj) (n : Nat) (h : n = w.heap.size) : (w.alloc o).heap[n]? = some o := by subst h; exact heap_alloc_new w o
theorem byteCells_get (l : List UInt8) (j : Nat) (h : j < l.length) : (byteCells l)[j]? = some (.int .u8 (l[j].toNat : Int)) := by
  simp [h]
theorem byteCells_set (l : List UInt8) (j : Nat) (x : UInt8) : (byteCells l).setIfInBounds j (.int .u8 (x.toNat : Int)) = byteCells (l.set j x) := by
  apply Array.ext'
  simp
theorem blk_set_byte {W : World} {g e j : Nat} {l : List UInt8} (h : W.heap[g]? = some (.cells (byteCells l) e (0, 0))) (n : Int) (x : UInt8) (hx : n = (x.toNat : Int)) :
    (W.setCell ⟨g, j, none⟩ (.int .u8 n)).heap[g]? = some (.cells (byteCells (l.set j x)) e (0, 0)) := by
  subst hx
  rw [heap_setCell_same W g j _ e _ h, byteCells_set]
/-- 'string(b)' of a block of bytes, whatever its length. -/
theorem conv_blk {P : Program} (src dst e : TypeId) (hs : P.underlying src = some (.slice e)) (he : P.underlying e = some (.int .u8)) (hd : P.underlying dst = some .string) (W : World) (g cap : Nat) (l : List UInt8)
    (hg : W.heap[g]? = some (.cells (byteCells l) e (0, 0))) :
    (convert src dst (.slice (some ⟨g, 0, none⟩) l.length cap)).run P W = .ok (str l) W :=
  run_convert_bytes_back W src dst e ⟨g, 0, none⟩ cap l hs he hd fun j hj => by
    have := cell_of_row W g j _ e (0, 0) hg
    simp only [Addr.add, Nat.zero_add]
    by_cases h : j = 0
    · subst h; simp [this, hj]
    · simp [h, this, hj]
/-- A block of noughts. -/
theorem made_bytes (n : Nat) : madeCells #[Value.int .u8 0] n = byteCells (List.replicate n 0) := by
  apply Array.ext'
  rw [toList_madeCells_one]
  simp
/-- 'string([]byte{x})'. -/
theorem conv_one {P : Program} (src dst e : TypeId) (hs : P.underlying src = some (.slice e)) (he : P.underlying e = some (.int .u8)) (hd : P.underlying dst = some .string) (W : World) (n : Int) (g : Nat) (hg : g = W.heap.size) :
    (convert src dst (.slice (some ⟨g, 0, none⟩) 1 1)).run P (W.alloc (.cells #[.int .u8 n] e)) = .ok (.string ⟨#[UInt8.ofNat n.toNat]⟩) (W.alloc (.cells #[.int .u8 n] e)) := by
  subst hg
  rw [run_convert_bytes_string _ src dst e _ 1 1 hs he hd]
  have hl := run_loadCells_list (P := P) (W.alloc (.cells #[.int .u8 n] e)) ⟨W.heap.size, 0, none⟩ [.int .u8 n] (fun j v hj => by
    match j, hj with
    | 0, hj => simp at hj; subst hj; simp [Addr.add])
  rw [run_bytesToString _ _ 1 1 [n] (by simpa using hl)]
  rfl
end Go.Proofs.Ytmidoghjacmdcaa
