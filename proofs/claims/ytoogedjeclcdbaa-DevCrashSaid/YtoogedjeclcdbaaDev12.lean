/- Layer 3 (dev): what the laws use: a text as a sector's bytes, lists of ints, a device that is held. -/
import Derived.Test.YtoogedjeclcdbaaDev11
namespace Go.Proofs.Ytoogedjeclcdbaa
open Go.RowKit Go.Maps
set_option linter.unusedVariables false
theorem make_noughts (k : Nat) (hk : k ≤ 65536) (w : World) :
    (Instr.makeSlice 47 (.int .i64 (k : Int)) (.int .i64 (k : Int))).run Try.prog w = .ok (.slice (some ⟨w.heap.size, 0, none⟩) k k) (w.alloc (.cells (byteCells (List.replicate k 0)) 5)) := by
  have hinfo : (Try.prog.info? 5).map (fun i => (i.zero, i.size, i.bytes)) = some (some (.int .u8 0), 1, 1) := by kernel_rfl
  obtain ⟨i, hi, hz, hsz, hby⟩ := info_parts hinfo
  have hr := run_make (P := Try.prog) w 47 5 i _ Try.underlying47 hi hz .i64 .i64 k k (by omega) (by omega) (by rw [hby]; omega) (by omega)
  simp only [Int.toNat_natCast] at hr
  rw [hr, hsz, Nat.mul_one]
  have := made_bytes k
  simp only [Value.cells] at *
  rw [this]
set_option maxRecDepth 100000 in
set_option maxHeartbeats 400000 in
theorem refPad_to (l : List UInt8) (k : Nat) (n : Int) (w : World) (hn : n = ((l.length + k : Nat) : Int)) (hk : l.length + k ≤ 65536) :
    Calls Try.prog 23 #[str l, .int .i64 n] w fun e w' => e = .returned (.tuple #[str (l ++ List.replicate k 0), .int .i64 0]) ∧ Below w.heap.size w w' := by
  have hr : n - (l.length : Int) = (k : Int) := by omega
  have h1 : 0 ≤ n := by omega
  have h2 : n ≤ 65536 := by omega
  have h3 : (l.length : Int) ≤ n := by omega
  clear hn
  have hmk := make_noughts k (by omega)
  have hcv : (convert 47 9 (.slice (some ⟨w.heap.size, 0, none⟩) k k)).run Try.prog (w.alloc (.cells (byteCells (List.replicate k 0)) 5)) = .ok (str (List.replicate k 0)) (w.alloc (.cells (byteCells (List.replicate k 0)) 5)) := by
    have := conv_blk (P := Try.prog) 47 9 5 Try.underlying47 Try.underlying5 Try.underlying9 (w.alloc (.cells (byteCells (List.replicate k 0)) 5)) w.heap.size k (List.replicate k 0) (heap_alloc_new _ _)
    rwa [List.length_replicate] at this
  go_enter Try.func23, Try.ntmps23
  go_wp2
  go_ret2
  exact ⟨rfl, (Below.refl _ _).alloc (Nat.le_refl _) _⟩
theorem refPad64 (l : List UInt8) (w : World) (hl : l.length ≤ 64) :
    Calls Try.prog 23 #[str l, .int .i64 64] w fun e w' => e = .returned (.tuple #[str (l ++ List.replicate (64 - l.length) 0), .int .i64 0]) ∧ Below w.heap.size w w' :=
  refPad_to l _ 64 w (by omega) (by omega)
/-- A text as a sector's bytes. -/
def secOf (s : List UInt8) : List UInt8 := s.take 64 ++ List.replicate (64 - (s.take 64).length) 0
theorem secOf_len (s : List UInt8) : (secOf s).length = 64 := by
  unfold secOf
  rw [List.length_append, List.length_replicate, List.length_take]
  omega
set_option maxHeartbeats 400000 in
theorem sector_any (l : List UInt8) (w : World) (hl : l.length ≤ 140737488351232) :
    Calls Try.prog 9 #[str l] w fun e w' => e = .returned (str (secOf l)) ∧ Below w.heap.size w w' := by
  have hp := refPad64 (l.take 64) w (by rw [List.length_take]; omega)
  by_cases h : l.length ≤ 64
  · have ht : l.take 64 = l := List.take_of_length_le h
    have hs : l ++ List.replicate (64 - l.length) 0 = secOf l := by unfold secOf; rw [ht]
    rw [ht, hs] at hp
    have HP := Lib.hid hp
    clear hp hs ht
    have hmin : min (l.length : Int) 64 = (l.length : Int) := by omega
    have h1 : (l.length : Int) ≤ 64 := by omega
    go_enter Try.func9, Try.ntmps9
    go_wp2_with fail
    refine HP.out.mono ?_
    rintro e w1 ⟨rfl, hb⟩
    go_wp2_with fail
    go_ret
    exact ⟨rfl, hb⟩
  · have hs : l.take 64 ++ List.replicate (64 - (l.take 64).length) 0 = secOf l := rfl
    rw [hs] at hp
    have HP := Lib.hid hp
    clear hp hs
    have h1 : (64 : Int) < (l.length : Int) := by omega
    have hmin : min (l.length : Int) 64 = 64 := by omega
    go_enter Try.func9, Try.ntmps9
    go_wp2_with fail
    refine HP.out.mono ?_
    rintro e w1 ⟨rfl, hb⟩
    go_wp2_with fail
    go_ret
    exact ⟨rfl, hb⟩
set_option maxHeartbeats 1000000 in
/-- Two lists of ints that are the same. -/
theorem same_any (v1 v2 : Value) (xs : List Nat) (w : World) (h1 : Row w v1 (xs.map encI)) (h2 : Row w v2 (xs.map encI)) (hl : xs.length ≤ 1048576) :
    Calls Try.prog 22 #[v1, v2] w fun e w' => e = .returned (.bool true) ∧ Below w.heap.size w w' := by
  obtain ⟨A, c, rfl, hc1⟩ := h1
  obtain ⟨A2, c2, rfl, hc2⟩ := h2
  rw [List.length_map]
  have H1 := Lib.hid hc1
  have H2 := Lib.hid hc2
  clear hc1 hc2
  go_enter Try.func22, Try.ntmps22
  go_wp2
  go_loopw [5] (fun i wr => ∃ k : Nat, k ≤ xs.length ∧ i = .int .i64 k ∧ Below w.heap.size w wr) (fun i _ => xs.length - (intOf i).toNat)
  case atStart => exact ⟨0, Nat.zero_le _, rfl, Below.refl _ _⟩
  case round =>
    obtain ⟨k, hk, rfl, hb⟩ := hrel
    by_cases hlt : k < xs.length
    · obtain ⟨g, rfl, hg⟩ := H1.out k (encI xs[k]) (by simp [hlt])
      obtain ⟨g2, rfl, hg2⟩ := H2.out k (encI xs[k]) (by simp [hlt])
      have e1 : wr.cell? ⟨g, k, none⟩ = some (encI xs[k]) := (hb.cell (p := ⟨g, k, none⟩) (World.block_lt_of_cell? w _ hg)).trans hg
      have e2 : wr.cell? ⟨g2, k, none⟩ = some (encI xs[k]) := (hb.cell (p := ⟨g2, k, none⟩) (World.block_lt_of_cell? w _ hg2)).trans hg2
      have HB := Lib.hid hb
      clear hg hg2 hb
      generalize xs[k] = x at e1 e2
      go_wp2
      go_region
      go_wp2
      go_roundw
      case rel => exact ⟨k + 1, by omega, by simp, HB.out.drew⟩
      case measure => simp [intOf]; omega
    · obtain rfl : k = xs.length := by omega
      go_wp2
      go_ret
      exact ⟨rfl, hb⟩
end Go.Proofs.Ytoogedjeclcdbaa
