/- Layer 6 (bits): the document's own answers, continued; the chapter's examples. -/
import Derived.Test.YthdkbhoeonnkmaaBits7
namespace Go.Proofs.Ythdkbhoeonnkmaa
open Go.RowKit
set_option linter.unusedVariables false
set_option linter.unusedSimpArgs false
set_option maxRecDepth 10000
set_option maxHeartbeats 1000000 in
theorem refLeast_any (l : List UInt8) (n : Int) (on : Bool) (w : World) (hl : l.length ≤ 1048576) :
    Calls Try.prog 14 #[str l, .int .i64 n, .bool on] w fun e w' => e = .returned (leastV (leastL l on (min n.toNat (8 * l.length)))) ∧ w' = w := by
  obtain ⟨q, hq⟩ : ∃ q, q = min n.toNat (8 * l.length) := ⟨_, rfl⟩
  rw [← hq]
  have Hq := Lib.hid hq
  clear hq
  go_enter Try.func14, Try.ntmps14
  go_wp2
  go_loop [8] (fun i => ∃ k : Nat, k ≤ q ∧ i = .int .i64 k ∧ Hid (∀ j, j < k → bitL l j = !on)) (fun i => q - (intOf i).toNat)
  case atStart => exact ⟨0, Nat.zero_le _, rfl, Lib.hid (fun j hj => by omega)⟩
  case round =>
    obtain ⟨k, hk, rfl, Hn⟩ := hrel
    by_cases hlt : k < q
    · have h1 : (k : Int) < 8 * (l.length : Int) := by have := Hq.out; omega
      have h2 : (k : Int) < n := by have := Hq.out; omega
      have h3 : k < 8 * l.length := by omega
      go_wp2_with fail
      refine (refOn_any l k _ hl h3).mono ?_
      rintro e w1 ⟨rfl, rfl⟩
      by_cases hb : bitL l k = on
      · have hb2 : (bitL l k == on) = true := by simpa using hb
        have Hb := Lib.hid hb
        clear hb
        go_wp2_with fail
        go_ret2
        refine ⟨?_, rfl⟩
        rw [leastL_is l on q k hlt Hb.out Hn.out]; rfl
      · have hb2 : (bitL l k == on) = false := by simpa using hb
        have hn2 : ∀ j, j < k + 1 → bitL l j = !on := by
          intro j hj
          by_cases e : j = k
          · subst e
            revert hb
            cases on <;> cases bitL l j <;> simp
          · exact Hn.out j (by omega)
        have Hn2 := Lib.hid hn2
        clear hb hn2
        go_wp2_with fail
        go_round
        case rel => exact ⟨k + 1, by omega, by go_num, Hn2⟩
        case measure => simp [intOf]; omega
    · have hkq : k = q := by omega
      have hn : leastL l on q = none := by rw [leastL_none, ← hkq]; exact Hn.out
      have hc : 8 * (l.length : Int) ≤ (k : Int) ∨ n ≤ (k : Int) := by have := Hq.out; omega
      have Hn3 := Lib.hid hn
      clear hn
      by_cases h1 : (k : Int) < 8 * (l.length : Int)
      · have h2 : n ≤ (k : Int) := by omega
        clear hc
        go_wp2_with fail
        go_ret2
        exact ⟨by rw [Hn3.out]; rfl, rfl⟩
      · clear hc
        go_wp2_with fail
        go_ret2
        exact ⟨by rw [Hn3.out]; rfl, rfl⟩
set_option maxHeartbeats 1000000 in
theorem refCount_any (l : List UInt8) (n : Int) (w : World) (hl : l.length ≤ 1048576) :
    Calls Try.prog 18 #[str l, .int .i64 n] w fun e w' => e = .returned (.int .i64 (countL l (min n.toNat (8 * l.length)) : Nat)) ∧ w' = w := by
  obtain ⟨q, hq⟩ : ∃ q, q = min n.toNat (8 * l.length) := ⟨_, rfl⟩
  rw [← hq]
  have Hq := Lib.hid hq
  clear hq
  go_enter Try.func18, Try.ntmps18
  go_wp2
  go_loop [5, 6] (fun c i => ∃ k m : Nat, k ≤ q ∧ i = .int .i64 k ∧ c = .int .i64 m ∧ m = countL l k) (fun _ i => q - (intOf i).toNat)
  case atStart => exact ⟨0, 0, Nat.zero_le _, rfl, rfl, rfl⟩
  case round =>
    obtain ⟨k, m, hk, rfl, rfl, hm⟩ := hrel
    have hm2 : m ≤ k := by rw [hm]; exact countL_le l k
    have Hm := Lib.hid hm
    clear hm
    by_cases hlt : k < q
    · have h1 : (k : Int) < 8 * (l.length : Int) := by have := Hq.out; omega
      have h2 : (k : Int) < n := by have := Hq.out; omega
      have h3 : k < 8 * l.length := by omega
      go_wp2_with fail
      refine (refOn_any l k _ hl h3).mono ?_
      rintro e w1 ⟨rfl, rfl⟩
      cases hb : bitL l k
      · have Hb := Lib.hid hb
        clear hb
        go_wp2_with fail
        go_round
        case rel => exact ⟨k + 1, m, by omega, by go_num, rfl, by rw [countL, Hb.out, Hm.out]; rfl⟩
        case measure => simp [intOf]; omega
      · have Hb := Lib.hid hb
        clear hb
        go_wp2_with fail
        go_round
        case rel => exact ⟨k + 1, m + 1, by omega, by go_num, by go_num, by rw [countL, Hb.out, Hm.out]; rfl⟩
        case measure => simp [intOf]; omega
    · have hkq : k = q := by omega
      have hc : 8 * (l.length : Int) ≤ (k : Int) ∨ n ≤ (k : Int) := by have := Hq.out; omega
      by_cases h1 : (k : Int) < 8 * (l.length : Int)
      · have h2 : n ≤ (k : Int) := by omega
        clear hc
        go_wp2_with fail
        go_ret
        exact ⟨by rw [← hkq, ← Hm.out]; rfl, rfl⟩
      · clear hc
        go_wp2_with fail
        go_ret
        exact ⟨by rw [← hkq, ← Hm.out]; rfl, rfl⟩
set_option maxHeartbeats 400000 in
theorem refMake_bad (n : Int) (w : World) (hn : n < 0 ∨ 65536 < n) :
    Calls Try.prog 16 #[.int .i64 n] w fun e w' => e = .returned (.tuple #[str [], .int .i64 2]) ∧ w' = w := by
  rcases hn with hn | hn
  all_goals
    go_enter Try.func16, Try.ntmps16
    go_wp2
    go_ret2
    exact ⟨rfl, rfl⟩
theorem byteInfo : (Try.prog.info? 5).map (fun i => (i.zero, i.size, i.bytes)) = some (some (.int .u8 0), 1, 1) := by kernel_rfl
/-- 'make([]byte, n)'. -/
theorem make_noughts (n : Nat) (hn : n ≤ 1048576) : ∀ W : World, (Instr.makeSlice 39 (.int .i64 (n : Int)) (.int .i64 (n : Int))).run Try.prog W = .ok (.slice (some ⟨W.heap.size, 0, none⟩) n n) (W.alloc (.cells (byteCells (List.replicate n 0)) 5)) := fun W => by
  obtain ⟨i0, hi, hz0, hz1, hz2⟩ := info_parts byteInfo
  have h := run_make (P := Try.prog) W 39 5 i0 _ Try.underlying39 hi hz0 .i64 .i64 n n (by omega) (by omega) (by rw [hz2]; omega) (by omega)
  rw [hz1] at h
  simpa [Value.cells, made_bytes] using h
set_option maxHeartbeats 400000 in
theorem refMake_ok (n : Nat) (w : World) (hn : n ≤ 65536) :
    Calls Try.prog 16 #[.int .i64 n] w fun e w' => e = .returned (.tuple #[str (List.replicate ((n + 7) / 8) 0), .int .i64 0]) ∧ Below w.heap.size w w' := by
  obtain ⟨k, hk⟩ : ∃ k, k = (n + 7) / 8 := ⟨_, rfl⟩
  rw [← hk]
  have h9 : ((n : Int) + 7) / 8 = (k : Int) := by omega
  have hk2 : k ≤ 8192 := by omega
  have hmk := make_noughts k (by omega)
  have hcv := conv_blk (P := Try.prog) 39 9 5 Try.underlying39 Try.underlying5 Try.underlying9 (w.alloc (.cells (byteCells (List.replicate k 0)) 5)) w.heap.size k (List.replicate k 0) (heap_alloc_new _ _)
  rw [List.length_replicate] at hcv
  clear hk
  go_enter Try.func16, Try.ntmps16
  go_wp2
  go_ret2
  exact ⟨rfl, (Below.refl _ _).alloc (Nat.le_refl _) _⟩
end Go.Proofs.Ythdkbhoeonnkmaa
