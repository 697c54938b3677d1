/- Layer 2 (crc): the walk of CrcLinear. -/
import Derived.Test.YtdhobioobhhdhaaCrcTells
import Derived.Test.YtdhobioobhhdhaaBaseBytes
import Derived.BigRegion
import Derived.Deep.RegionHeld3
namespace Go.Proofs.Ytdhobioobhhdhaa
open Go.RowKit
set_option linter.unusedVariables false
set_option maxHeartbeats 800000 in
theorem linear_far (c d : BitVec 32) (s bs : List UInt8) (w : World) (h : 4096 < s.length) (h2 : s.length ≤ 9223372036854775807) :
    Calls Try.prog 6 #[reg c, reg d, str s, str bs] w fun e w' => e = .returned (.bool true) ∧ Below w.heap.size w w' := by
  go_enter Try.func6, Try.ntmps6
  go_wp2_with fail
  refine (alive_any _).mono ?_
  rintro e w1 ⟨rfl, hb1⟩
  go_wp2_with fail
  go_ret
  exact ⟨rfl, hb1⟩
theorem xor_byte (x y : UInt8) : bits .xor .u8 (x.toNat : Int) (y.toNat : Int) = ((x ^^^ y).toNat : Int) := by
  rw [u8_xor_nat _ _ x.toNat_lt y.toNat_lt, UInt8.toNat_xor]
/-- What the last statement of the law reads. -/
structure LinS (n g : Nat) (w : World) (T U : List UInt8) (W : World) : Prop where
  lt : T.length = n
  lu : U.length = n
  bt : Bytes W g T
  bu : Bytes W (g + 1) U
  below : Below g w W
theorem conv_t {n g : Nat} {w W : World} {T U : List UInt8} (h : LinS n g w T U W) (cap : Nat) : (convert 34 9 (.slice (some ⟨g, 0, none⟩) n cap)).run Try.prog W = .ok (str T) W := by
  have := string_of_bytes (P := Try.prog) 34 9 5 Try.underlying34 Try.underlying5 Try.underlying9 W g cap T h.bt
  rwa [h.lt] at this
theorem conv_u {n g : Nat} {w W : World} {T U : List UInt8} (h : LinS n g w T U W) (cap : Nat) : (convert 34 9 (.slice (some ⟨g + 1, 0, none⟩) n cap)).run Try.prog W = .ok (str U) W := by
  have := string_of_bytes (P := Try.prog) 34 9 5 Try.underlying34 Try.underlying5 Try.underlying9 W (g + 1) cap U h.bu
  rwa [h.lu] at this
theorem lin_all {n g : Nat} {w W : World} {T U : List UInt8} (h : LinS n g w T U W) : (convert 34 9 (.slice (some ⟨g + 1, 0, none⟩) n n)).run Try.prog W = .ok (str U) W ∧ (convert 34 9 (.slice (some ⟨g, 0, none⟩) n n)).run Try.prog W = .ok (str T) W ∧ LinS n g w T U W := ⟨conv_u h n, conv_t h n, h⟩
theorem lin_next {w W W' : World} {T U : List UInt8} {n : Nat} {A B : Prop} {m : Nat} (hb : Below m W W') (h : A ∧ B ∧ LinS n w.heap.size w T U W) (hm : m = W.heap.size) : (convert 34 9 (.slice (some ⟨w.heap.size + 1, 0, none⟩) n n)).run Try.prog W' = .ok (str U) W' ∧ (convert 34 9 (.slice (some ⟨w.heap.size, 0, none⟩) n n)).run Try.prog W' = .ok (str T) W' ∧ LinS n w.heap.size w T U W' :=
  by
  subst hm
  exact lin_all ⟨h.2.2.lt, h.2.2.lu, h.2.2.bt.after hb, h.2.2.bu.after hb, chain h.2.2.below hb⟩
theorem LinS.drew {n g : Nat} {w W : World} {T U : List UInt8} (h : LinS n g w T U W) : LinS n g w T U W.drew := ⟨h.lt, h.lu, h.bt, h.bu, h.below.drew⟩
set_option maxHeartbeats 1600000 in
theorem linear_near (c d : BitVec 32) (s b : List UInt8) (w : World) (h : s.length ≤ 4096) (hb : b.length ≤ 140737488351232) :
    Calls Try.prog 6 #[reg c, reg d, str s, str b] w fun e w' => e = .returned (.bool true) ∧ Below w.heap.size w w' := by
  have hmk := make_bytes s.length (by omega)
  go_enter Try.func6, Try.ntmps6
  go_wp2_with fail
  have h00 : (List.replicate s.length (0 : UInt8)).length = s.length := by simp
  have hbt : Bytes ((w.alloc (.cells (byteCells (List.replicate s.length 0)) 5)).alloc (.cells (byteCells (List.replicate s.length 0)) 5)) w.heap.size (List.replicate s.length 0) := by
    refine bytes_made (e := 5) ?_
    rw [heap_alloc_old _ _ (by simp)]
    exact heap_alloc_new _ _
  have hbu : Bytes ((w.alloc (.cells (byteCells (List.replicate s.length 0)) 5)).alloc (.cells (byteCells (List.replicate s.length 0)) 5)) (w.heap.size + 1) (List.replicate s.length 0) :=
    bytes_made (e := 5) (heap_new _ _ _ (by simp))
  have hb0 : Below w.heap.size w ((w.alloc (.cells (byteCells (List.replicate s.length 0)) 5)).alloc (.cells (byteCells (List.replicate s.length 0)) 5)) := ((Below.refl _ _).alloc (Nat.le_refl _) _).alloc (by simp) _
  generalize (w.alloc (.cells (byteCells (List.replicate s.length 0)) 5)).alloc (.cells (byteCells (List.replicate s.length 0)) 5) = W0 at hbt hbu hb0 ⊢
  have Hbt := Lib.hid hbt
  have Hbu := Lib.hid hbu
  have H00 := Lib.hid h00
  clear hbt hbu hmk h00
  generalize List.replicate s.length (0 : UInt8) = Z at Hbt Hbu H00
  go_loopw [11] (fun i wr => ∃ (k : Nat) (T U : List UInt8), k ≤ s.length ∧ i = .int .i64 k ∧ T.length = s.length ∧ U.length = s.length ∧ Bytes wr w.heap.size T ∧ Bytes wr (w.heap.size + 1) U ∧ U.take k = List.zipWith (· ^^^ ·) (s.take k) (T.take k) ∧ Below w.heap.size w wr) (fun i _ => s.length - (intOf i).toNat)
  case atStart => exact ⟨0, Z, Z, by omega, rfl, H00.out, H00.out, Hbt.out, Hbu.out, by simp, hb0⟩
  case round =>
    obtain ⟨k, T, U, hk, rfl, hT, hU, hBT, hBU, hz, hbw⟩ := hrel
    have HT := Lib.hid hT
    have HU := Lib.hid hU
    have HBT := Lib.hid hBT
    have HBU := Lib.hid hBU
    have Hz := Lib.hid hz
    clear hT hU hBT hBU hz
    by_cases hlt : k < s.length
    · have hround : ∀ (T' : List UInt8) (wr1 : World) (x : UInt8), T'.length = s.length → Bytes wr1 w.heap.size T' → T'[k]? = some x → T'.take k = T.take k → Bytes wr1 (w.heap.size + 1) U → Below w.heap.size w wr1 →
          ∀ n : Int, n = (((s[k]'hlt) ^^^ x).toNat : Int) → ∃ (m : Nat) (T U : List UInt8), m ≤ s.length ∧ Value.int .i64 ((k : Int) + 1) = .int .i64 m ∧ T.length = s.length ∧ U.length = s.length ∧ Bytes (wr1.setCell ⟨w.heap.size + 1, k, none⟩ (.int .u8 n)).drew w.heap.size T ∧ Bytes (wr1.setCell ⟨w.heap.size + 1, k, none⟩ (.int .u8 n)).drew (w.heap.size + 1) U ∧ U.take m = List.zipWith (· ^^^ ·) (s.take m) (T.take m) ∧ Below w.heap.size w (wr1.setCell ⟨w.heap.size + 1, k, none⟩ (.int .u8 n)).drew := by
        intro T' wr1 x hT' hBT' hx htk hBU' hbw1 n hn
        subst hn
        refine ⟨k + 1, T', U.set k (s[k] ^^^ x), by omega, by go_num, hT', by rw [List.length_set, HU.out], (hBT'.other _ _ (by simp)).drew, (hBU'.set k _ _ rfl (by rw [HU.out]; exact hlt)).drew, ?_, (hbw1.setCell (by simp) _).drew⟩
        have hTk : k < T'.length := by rw [hT']; exact hlt
        have hxe : T'[k] = x := by
          rw [List.getElem?_eq_getElem hTk] at hx
          exact Option.some.inj hx
        rw [List.take_succ_eq_append_getElem (by rw [List.length_set, HU.out]; exact hlt), List.take_succ_eq_append_getElem hlt, List.take_succ_eq_append_getElem hTk,
          List.zipWith_append (by simp; omega), List.getElem_set_self, List.take_set_of_le (Nat.le_refl _), Hz.out, htk, hxe]
        rfl
      have Hround := Lib.hid hround
      clear hround
      have hkT : k < T.length := by rw [HT.out]; exact hlt
      obtain ⟨hct, hft⟩ := HBT.out k hkT
      obtain ⟨hcu, hfu⟩ := HBU.out k (by rw [HU.out]; exact hlt)
      generalize U[k]'(by rw [HU.out]; exact hlt) = y at hcu
      rcases Nat.eq_zero_or_pos b.length with hb0 | hb0
      · have hbz : b.isEmpty = true := by simpa using List.eq_nil_of_length_eq_zero hb0
        have hx : T[k]? = some T[k] := List.getElem?_eq_getElem hkT
        have Hx := Lib.hid hx
        clear hx
        generalize T[k] = x at hct Hx
        go_wp2_with fail
        go_region
        go_wp2
        go_roundw
        case rel => exact Hround.out T wr x HT.out HBT.out Hx.out rfl HBU.out hbw _ (xor_byte _ _)
        case measure => simp [intOf]; omega
      · have hm : k % b.length < b.length := Nat.mod_lt _ hb0
        have hmod : (k : Int) % (b.length : Int) = ((k % b.length : Nat) : Int) := by simp
        generalize hmm : k % b.length = m at hm hmod
        generalize T[k] = z at hct
        go_wp2_with fail
        have hBT1 := HBT.out.set k _ b[m] rfl hkT
        have hBU1 := HBU.out.other ⟨w.heap.size, k, none⟩ (.int .u8 (b[m].toNat : Int)) (by simp)
        have hbw1 := hbw.setCell (p := ⟨w.heap.size, k, none⟩) (Nat.le_refl _) (.int .u8 (b[m].toNat : Int))
        have hk1 : k < (T.set k b[m]).length := by simpa using hkT
        have hx : (T.set k b[m])[k]? = some b[m] := by rw [List.getElem?_set_self hkT]
        have ht1 : (T.set k b[m]).take k = T.take k := List.take_set_of_le (Nat.le_refl _)
        have hl1 : (T.set k b[m]).length = s.length := by rw [List.length_set, HT.out]
        obtain ⟨hct1, _⟩ := hBT1 k hk1
        rw [List.getElem_set_self] at hct1
        obtain ⟨hcu1, hfu1⟩ := hBU1 k (by rw [HU.out]; exact hlt)
        generalize U[k]'(by rw [HU.out]; exact hlt) = y at hcu1
        generalize wr.setCell ⟨w.heap.size, k, none⟩ (.int .u8 (b[m].toNat : Int)) = wr1 at hBT1 hBU1 hbw1 hct1 hcu1 hfu1 ⊢
        have HBT1 := Lib.hid hBT1
        have HBU1 := Lib.hid hBU1
        have Hx := Lib.hid hx
        have Ht1 := Lib.hid ht1
        have Hl1 := Lib.hid hl1
        clear hBT1 hBU1 hx ht1 hl1 hct hft hcu hfu hmm hmod
        go_region
        go_wp2
        go_roundw
        case rel => exact Hround.out (T.set k b[m]) wr1 b[m] Hl1.out HBT1.out Hx.out Ht1.out HBU1.out hbw1 _ (xor_byte _ _)
        case measure => simp [intOf]; omega
    · obtain rfl : k = s.length := by omega
      have hzz : U = List.zipWith (· ^^^ ·) s T := by
        have := Hz.out
        rwa [List.take_of_length_le (by rw [HU.out]; exact Nat.le_refl _), List.take_length, List.take_of_length_le (by rw [HT.out]; exact Nat.le_refl _)] at this
      have hlin : LinS s.length w.heap.size w T U wr := ⟨HT.out, HU.out, HBT.out, HBU.out, hbw⟩
      have hcu := conv_u hlin
      have hct := conv_t hlin
      have hboth := crcL_both c d s T HT.out.symm
      rw [← hzz] at hboth
      have hM1 : ∀ W, Calls Try.prog 10 #[.int .u32 (bits .xor .u32 (c.toNat : Int) (d.toNat : Int)), str U] W fun e w' => e = .returned (.int .u32 (bits .xor .u32 ((crcL c s).toNat : Int) ((crcL d T).toNat : Int))) ∧ Below W.heap.size W w' := fun W => by
        have h := more_any (c ^^^ d) U W (by rw [HU.out]; omega)
        rw [hboth] at h
        unfold reg at h
        rw [← reg_xor, ← reg_xor] at h
        exact h
      have hM2 := fun W => more_any c s W (by omega)
      have hM3 := fun W => more_any d T W (by rw [HT.out]; omega)
      have HM1 := Lib.hid hM1
      have HM2 := Lib.hid hM2
      have HM3 := Lib.hid hM3
      clear hM1 hM2 hM3
      have hTl := HT.out
      have hUl := HU.out
      have Hzz := Lib.hid hzz
      clear hboth Hz HBT HBU hzz
      go_wp2_with fail
      go_region_held3 (fun W => (convert 34 9 (.slice (some ⟨w.heap.size + 1, 0, none⟩) s.length s.length)).run Try.prog W = .ok (str U) W ∧ (convert 34 9 (.slice (some ⟨w.heap.size, 0, none⟩) s.length s.length)).run Try.prog W = .ok (str T) W ∧ LinS s.length w.heap.size w T U W)
        (first | exact lin_all hlin.drew | (apply lin_next <;> first | assumption | rfl))
        (first | (go_at_call 10; ((with_reducible refine (HM1.out _).mono ?_); rintro e w1 ⟨rfl, hb1⟩)) | (go_at_call 10; ((with_reducible refine (HM2.out _).mono ?_); rintro e w1 ⟨rfl, hb1⟩)) | (go_at_call 10; ((with_reducible refine (HM3.out _).mono ?_); rintro e w1 ⟨rfl, hb1⟩)) | (go_at_call 7; refine (alive_any _).mono ?_; rintro e w1 ⟨rfl, hb1⟩))
      all_goals
        go_wp2
        go_ret
        refine ⟨rfl, ?_⟩
        have hfin : ∃ A B : Prop, A ∧ B ∧ LinS s.length w.heap.size w T U _ := ⟨_, _, by assumption⟩
        obtain ⟨_, _, _, _, hf⟩ := hfin
        exact hf.below
/-- The walk of CrcLinear. -/
theorem walk_CrcLinear (n m : Int) (a b : ByteArray) (wn : (Lit.int .u32 n).wf = true) (wm : (Lit.int .u32 m).wf = true) (ha : a.size ≤ 140737488351232) (hb : b.size ≤ 140737488351232) (w : World) :
    Calls Try.prog 6 #[.int .u32 n, .int .u32 m, .string a, .string b] w fun e w' => e = .returned (.bool true) ∧ Below w.heap.size w w' := by
  obtain ⟨c, rfl⟩ := reg_of n wn
  obtain ⟨d, rfl⟩ := reg_of m wm
  obtain ⟨s, rfl⟩ : ∃ l : List UInt8, a = ⟨l.toArray⟩ := ⟨a.data.toList, rfl⟩
  obtain ⟨t, rfl⟩ : ∃ l : List UInt8, b = ⟨l.toArray⟩ := ⟨b.data.toList, rfl⟩
  have hs2 : s.length ≤ 140737488351232 := by simpa [ByteArray.size] using ha
  have ht2 : t.length ≤ 140737488351232 := by simpa [ByteArray.size] using hb
  by_cases h : s.length ≤ 4096
  · exact linear_near c d s t w h ht2
  · exact linear_far c d s t w (by omega) (by omega)
end Go.Proofs.Ytdhobioobhhdhaa
