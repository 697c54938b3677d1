/- Layer 3 (dev): a new device. -/
import Derived.Test.YtdddennhdbmolaaGreatM7
import Derived.Carry
namespace Go.Proofs.YtdddennhdbmolaaGreat
open Go.RowKit Go.Maps
set_option linter.unusedVariables false
set_option linter.unusedSimpArgs false
set_option maxRecDepth 10000
theorem run_make_secs (n : Nat) (hn : n ≤ 4096) (w : World) :
    (Instr.makeSlice 114 (.int .i64 (n : Int)) (.int .i64 (n : Int))).run Tryz.prog w = .ok (.slice (some ⟨w.heap.size, 0, none⟩) n n) (w.alloc (.cells (Array.replicate (n * 64) (.int .u8 0)) 165)) := by
  obtain ⟨i, hi, hz, hsz, hby⟩ := info_parts secInfo
  have hb : (i.bytes : Int) * (n : Int) ≤ 281474976710656 := by rw [hby]; omega
  have hr := run_make (P := Tryz.prog) w 114 165 i _ Tryz.underlying114 hi hz .i64 .i64 n n (by omega) (by omega) hb (by omega)
  simp only [Int.toNat_natCast] at hr
  rw [hr]
  have hm : madeCells (Value.agg (Array.replicate 64 (Value.int .u8 0))).cells (n * i.size) = (Array.replicate (n * 64) (.int .u8 0)) := by
    rw [hsz]
    apply Array.ext
    · simp [size_madeCells]
    · intro j h1 h2
      simp only [madeCells, Array.getElem_map, Array.getElem_range]
      have h3 : j % (Array.replicate 64 (Value.int .u8 0)).size < (Array.replicate 64 (Value.int .u8 0)).size := by
        rw [Array.size_replicate]; exact Nat.mod_lt _ (by omega)
      show (Array.replicate 64 (Value.int .u8 0))[j % (Array.replicate 64 (Value.int .u8 0)).size]! = _
      rw [getElem!_pos (Array.replicate 64 (Value.int .u8 0)) _ h3]
      simp
  rw [hm]
theorem new_no (n : Int) (W : World) (h : n < 8 ∨ 4096 < n) :
    Calls Tryz.prog 32 #[.int .i64 n] W fun e w' => e = .returned (.tuple #[.pointer none, .int .i64 2]) ∧ W = w' := by
  rcases h with h | h
  · go_enter Tryz.func32, Tryz.ntmps32
    go_wp2
    go_ret2
    exact ⟨rfl, rfl⟩
  · have h8 : 8 ≤ n := by omega
    go_enter Tryz.func32, Tryz.ntmps32
    go_wp2
    go_ret2
    exact ⟨rfl, rfl⟩
/-- The three blocks of a new device. -/
def newS (W : World) (k : Nat) : Prop := k = W.heap.size ∨ k = W.heap.size + 1 ∨ k = W.heap.size + 2
theorem newS_from (W : World) : ∀ k, newS W k → W.heap.size ≤ k := fun k h => by unfold newS at h; omega
/-- What New makes. -/
def newW (n : Nat) (W : World) : World :=
  ((W.alloc (.cells (Array.replicate (n * 64) (.int .u8 0)) 165)).alloc (.map #[] 0)).alloc
    (.cells #[.int .i64 0, .bool false, .slice (some ⟨W.heap.size, 0, none⟩) n n, .map (some (W.heap.size + 1)), .int .u64 0] 120)
theorem new_in (n : Nat) (h8 : 8 ≤ n) (hn : n ≤ 4096) (W : World) : DevAt (newS W) (newW n W) (W.heap.size + 2) (dev0 n) := by
  have hg : (newW n W).heap[W.heap.size]? = some (.cells (Array.replicate (n * 64) (.int .u8 0)) 165 (0, 0)) := by
    unfold newW
    rw [Below.heap_alloc _ _ _ (by simp; omega), Below.heap_alloc _ _ _ (by simp)]
    exact heap_alloc_new W _
  have hm : (newW n W).heap[W.heap.size + 1]? = some (.map #[] 0) := by
    unfold newW
    rw [Below.heap_alloc _ _ _ (by simp)]
    exact heap_new _ _ _ (by simp)
  have hb : (newW n W).heap[W.heap.size + 2]? = some (.cells #[.int .i64 0, .bool false, .slice (some ⟨W.heap.size, 0, none⟩) n n, .map (some (W.heap.size + 1)), .int .u64 0] 120 (0, 0)) :=
    heap_new _ _ _ (by simp)
  have hc : ∀ j, (newW n W).cell? ⟨W.heap.size + 2, j, none⟩ = #[Value.int .i64 0, .bool false, .slice (some ⟨W.heap.size, 0, none⟩) n n, .map (some (W.heap.size + 1)), .int .u64 0][j]? := fun j => cell_of_row _ _ j _ _ _ hb
  have hf : ∀ j, (newW n W).frozen? ⟨W.heap.size + 2, j, none⟩ = false := fun j => frozen_of_row _ _ j _ _ hb
  have hno : ∀ k, ¬ Rk (fun _ => []) (fun _ => Value.slice none 0 0) k := fun k ⟨i, hi, _⟩ => hi rfl
  refine ⟨W.heap.size, n, W.heap.size + 1, fun _ => .slice none 0 0, ?_⟩
  exact {
    fine := { n := hn, dur := fun i _ => by simp [dev0], row := fun i p hp => by simp [dev0] at hp, out := fun i hi => absurd rfl hi, rows := fun i => by simp [dev0], left := by simp [dev0] }
    head := ⟨by rw [hc]; rfl, by rw [hc]; rfl, by rw [hc]; rfl, by rw [hc]; rfl, by rw [hc]; rfl, hf 0, hf 1, hf 2, hf 3, hf 4⟩
    du := ⟨fun i hi => by
        have hi' : i < n := hi
        have hr := range_part (range_row (l := bc (List.replicate (n * 64) 0)) hg (by simp)) (i * 64) 64
        rw [Nat.zero_add, ← List.map_drop, ← List.map_take, List.drop_replicate, List.take_replicate, Nat.min_eq_left (by omega)] at hr
        exact hr, by have := there_row hg; exact (by simpa using this : (newW n W).there W.heap.size 0 (n * 64))⟩
    ro := ⟨(IMap.made (W.alloc (.cells (Array.replicate (n * 64) (.int .u8 0)) 165)) Tryz.prog 3 n |>.kept (by
        have h1 : (W.alloc (.cells (Array.replicate (n * 64) (.int .u8 0)) 165)).heap.size = W.heap.size + 1 := by simp
        rw [h1, hm]
        exact (heap_new _ _ _ (by simp)).symm) |> fun h => by
        have h1 : (W.alloc (.cells (Array.replicate (n * 64) (.int .u8 0)) 165)).heap.size = W.heap.size + 1 := by simp
        rw [h1] at h
        exact h.congr (fun i _ => rfl)), fun i hi => absurd rfl hi, fun i j hi => absurd rfl hi⟩
    cap := ⟨Nat.le_refl _, by show n ≤ maxLen; unfold maxLen; omega⟩
    sb := .inr (.inr rfl), sg := .inl rfl, sm := .inr (.inl rfl)
    sr := fun k hk => absurd hk (hno k)
    bg := by omega, bm := by omega, gm := by omega
    rb := hno _, rg := hno _, rm := hno _
    lt := fun k hk => by
      have : (newW n W).heap.size = W.heap.size + 3 := by simp [newW]
      unfold newS at hk
      omega }
theorem newW_below (n : Nat) (W : World) : Below W.heap.size W (newW n W) :=
  (((Below.refl _ _).alloc (Nat.le_refl _) _).alloc (by simp) _).alloc (by simp; omega) _
theorem new_any (n : Nat) (h8 : 8 ≤ n) (hn : n ≤ 4096) (W : World) :
    Calls Tryz.prog 32 #[.int .i64 (n : Int)] W fun e w' => e = .returned (.tuple #[devp (W.heap.size + 2), .int .i64 0]) ∧ w' = newW n W := by
  have hmk := run_make_secs n hn
  have hmm := @run_makeMap Tryz.prog
  have hn8 : (8 : Int) ≤ (n : Int) := by omega
  have hnn : (n : Int) ≤ 4096 := by omega
  go_enter Tryz.func32, Tryz.ntmps32
  go_wp2
  go_ret2
  exact ⟨rfl, rfl⟩
end Go.Proofs.YtdddennhdbmolaaGreat
