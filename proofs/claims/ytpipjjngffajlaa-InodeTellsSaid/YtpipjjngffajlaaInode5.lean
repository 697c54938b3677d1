/- Layer 7 (inode): the block that lists others, and what it lists. -/
import Derived.Test.YtpipjjngffajlaaInode4
import Derived.Test.YtpipjjngffajlaaOctet6
namespace Go.Proofs.Ytpipjjngffajlaa
open Go.RowKit
set_option linter.unusedVariables false
set_option linter.unusedSimpArgs false
set_option maxRecDepth 10000
set_option maxHeartbeats 400000 in
theorem tell_many (l : List Nat) (v : Value) (w : World) (hv : U16s w v l) (hlen : l.length ≤ maxLen) (h : 32 < l.length) :
    Calls Try.prog 11 #[v] w fun e w' => e = .returned (.tuple #[str [], .int .i64 2]) ∧ Below w.heap.size w w' := by
  obtain ⟨A, c, rfl, hc⟩ := hv
  clear hc
  unfold maxLen at hlen
  go_enter Try.func11, Try.ntmps11
  go_wp2
  go_ret2
  exact ⟨rfl, Below.refl _ _⟩
set_option maxHeartbeats 400000 in
theorem tell_ok (l : List Nat) (v : Value) (w : World) (hv : U16s w v l) (hlt : ∀ x ∈ l, x < 65536) (h : l.length ≤ 32) :
    Calls Try.prog 11 #[v] w fun e w' => e = .returned (.tuple #[str (tellL l), .int .i64 0]) ∧ Below w.heap.size w w' := by
  have HP := Lib.hid fun W (h : U16s W v l) => putu16_any l v W h hlt (by omega)
  have HV := Lib.hid hv
  obtain ⟨A, c, rfl, hc⟩ := hv
  clear hc
  have hcl := catL_length l
  have HQ := Lib.hid fun W => pad_ok (catL l) (64 - 2 * l.length) 64 W (by rw [hcl]; omega) (by omega)
  have HT : Hid (catL l ++ List.replicate (64 - 2 * l.length) 0 = tellL l) := Lib.hid rfl
  go_enter Try.func11, Try.ntmps11
  go_wp2_with fail
  refine (HP.out _ HV.out).mono ?_
  rintro e w1 ⟨rfl, hb1⟩
  rw [catN_two]
  go_wp2_with fail
  refine (HQ.out _).mono ?_
  rintro e w2 ⟨rfl, hb2⟩
  go_wp2
  go_ret2
  exact ⟨by rw [HT.out]; rfl, chain hb1 hb2⟩
set_option maxHeartbeats 400000 in
theorem refTell_many (l : List Nat) (v : Value) (w : World) (hv : U16s w v l) (hlen : l.length ≤ maxLen) (h : 32 < l.length) :
    Calls Try.prog 12 #[v] w fun e w' => e = .returned (.tuple #[str [], .int .i64 2]) ∧ Below w.heap.size w w' := by
  obtain ⟨A, c, rfl, hc⟩ := hv
  clear hc
  unfold maxLen at hlen
  go_enter Try.func12, Try.ntmps12
  go_wp2
  go_ret2
  exact ⟨rfl, Below.refl _ _⟩
theorem conv_noughts (W : World) (k g : Nat) (hg : g = W.heap.size) : (convert 60 9 (.slice (some ⟨g, 0, none⟩) k k)).run Try.prog (W.alloc (.cells (byteCells (List.replicate k 0)) 5)) = .ok (str (List.replicate k 0)) (W.alloc (.cells (byteCells (List.replicate k 0)) 5)) := by
  subst hg
  have := conv_blk (P := Try.prog) 60 9 5 Try.underlying60 Try.underlying5 Try.underlying9 (W.alloc (.cells (byteCells (List.replicate k 0)) 5)) W.heap.size k (List.replicate k 0) (heap_alloc_new _ _)
  rwa [List.length_replicate] at this
set_option maxHeartbeats 1000000 in
theorem refTell_ok (l : List Nat) (v : Value) (w : World) (hv : U16s w v l) (hlt : ∀ x ∈ l, x < 65536) (h : l.length ≤ 32) :
    Calls Try.prog 12 #[v] w fun e w' => e = .returned (.tuple #[str (tellL l), .int .i64 0]) ∧ Below w.heap.size w w' := by
  obtain ⟨A, c, rfl, hc⟩ := hv
  have Hc := Lib.hid hc
  clear hc
  have hmk := make_bytes (64 - 2 * l.length) (by omega)
  have hcv := fun W g => conv_noughts W (64 - 2 * l.length) g
  have hcl := catL_length l
  have HT : Hid (catL l ++ List.replicate (64 - 2 * l.length) 0 = tellL l) := Lib.hid rfl
  obtain ⟨K, hK⟩ : ∃ K, K = 64 - 2 * l.length := ⟨_, rfl⟩
  rw [← hK] at hmk hcv HT
  have hsub : (64 : Int) - ((catL l).length : Int) = (K : Int) := by rw [hcl]; omega
  have HK := Lib.hid hK
  have Hhcl := Lib.hid hcl
  clear hK hcl
  go_enter Try.func12, Try.ntmps12
  go_wp2_with fail
  go_loopw [4, 5] (fun s i wr => ∃ k : Nat, k ≤ l.length ∧ i = .int .i64 k ∧ s = str (catL (l.take k)) ∧ Below w.heap.size w wr) (fun _ i _ => l.length - (nOf i).toNat)
  case atStart => exact ⟨0, Nat.zero_le _, rfl, by simp [catL], Below.refl _ _⟩
  case round =>
    obtain ⟨k, hk, rfl, rfl, hb⟩ := hrel
    by_cases hlt2 : k < l.length
    · obtain ⟨b, hbe⟩ : ∃ b, b = l[k] := ⟨_, rfl⟩
      have hb16 : b < 65536 := by rw [hbe]; exact hlt _ (List.getElem_mem _)
      obtain ⟨a, rfl, hcell⟩ := Hc.out k b (by rw [hbe]; simp [hlt2])
      have hcell1 : wr.cell? (a.add k) = some (w16 b) := (hb.cell (World.block_lt_of_cell? w _ hcell)).trans hcell
      have htk : catL (l.take (k + 1)) = catL (l.take k) ++ leB 2 b := by have := catN_take 2 l k hlt2; rw [hbe]; exact this
      have Htk := Lib.hid htk
      have hl1 : (catL (l.take k)).length ≤ 64 := by rw [catL_length, List.length_take]; omega
      clear htk hcell hbe
      generalize catL (l.take k) = t at *
      have hl2 : (leB 2 b).length = 2 := leB_length _ _
      have HN := Lib.hid fun W => two_any b W hb16
      clear hsub hmk hcv
      go_wp2_with fail
      refine (HN.out _).mono ?_
      rintro e w1 ⟨rfl, rfl⟩
      go_wp2
      go_roundw
      case rel => exact ⟨k + 1, by omega, by go_num, by rw [Htk.out], hb.alloc hb.size _⟩
      case measure => simp [nOf]; omega
    · have : k = l.length := by omega
      subst this
      rw [List.take_length]
      have hl1 : (catL l).length + K = 64 := by rw [Hhcl.out, HK.out]; omega
      generalize catL l = t at *
      go_wp2
      go_ret2
      exact ⟨congrArg (fun q => Ending.returned (.tuple #[str q, .int .i64 0])) HT.out, hb.alloc hb.size _⟩
/-- The cells of numbers. -/
abbrev numCells (l : List Nat) : Array Value := (l.map fun n => w16 n).toArray
theorem numCells_get (l : List Nat) (j : Nat) (h : j < l.length) : (numCells l)[j]? = some (w16 l[j]) := by
  simp [h]
theorem numCells_at (l : List Nat) (j m : Nat) (h : l[j]? = some m) : (numCells l)[j]? = some (w16 m) := by
  simp [h]
theorem blk_set_num {W : World} {g e j : Nat} {l : List Nat} (h : W.heap[g]? = some (.cells (numCells l) e (0, 0))) (x : Nat) :
    (W.setCell ⟨g, j, none⟩ (w16 x)).heap[g]? = some (.cells (numCells (l.set j x)) e (0, 0)) := by
  rw [heap_setCell_same W g j _ e _ h]
  congr 2
  apply Array.ext'
  simp
theorem uint16Info : (Try.prog.info? 22).map (fun i => (i.zero, i.size, i.bytes)) = some (some (.int .u16 0), 1, 2) := by kernel_rfl
/-- 'make([]uint16, n)'. -/
theorem make_nums (n : Nat) (hn : n ≤ 1048576) : ∀ W : World, (Instr.makeSlice 27 (.int .i64 (n : Int)) (.int .i64 (n : Int))).run Try.prog W = .ok (.slice (some ⟨W.heap.size, 0, none⟩) n n) (W.alloc (.cells (numCells (List.replicate n 0)) 22)) := fun W => by
  obtain ⟨i0, hi, hz0, hz1, hz2⟩ := info_parts uint16Info
  have h := run_make (P := Try.prog) W 27 22 i0 _ Try.underlying27 hi hz0 .i64 .i64 n n (by omega) (by omega) (by rw [hz2]; omega) (by omega)
  rw [hz1] at h
  have e : madeCells #[Value.int .u16 0] n = numCells (List.replicate n 0) := by
    apply Array.ext'
    rw [toList_madeCells_one]
    simp
  simpa [Value.cells, e] using h
theorem parts_two (s : List UInt8) (n : Nat) (hs : s.length = 2 * n) (hn : n ≤ 100) : (partsL 2 8192 s).length = n ∧ ∀ k (h : k < (partsL 2 8192 s).length), ((partsL 2 8192 s)[k]).length = 2 := by
  have hm := partsL_map2 8192 s (by omega) n hs
  have hl : (partsL 2 8192 s).length = n := by
    have := congrArg List.length hm
    rw [List.length_map, numsL_length] at this
    omega
  refine ⟨hl, fun k hk => ?_⟩
  have hf := partsL_flat 2 (by omega) 8192 s (by omega)
  have he := partsL_each 2 (by omega) 8192 s (by omega)
  by_cases hk2 : k + 1 < (partsL 2 8192 s).length
  · exact (he k hk).2.2 hk2
  · -- the last one: what is left of the length
    have hsum : ∀ (q : List (List UInt8)) (m : Nat), q.length = m → (∀ j (h : j < q.length), (q[j]).length ≤ 2) → q.flatten.length ≤ 2 * m := by
      intro q
      induction q with
      | nil => intro m h _; simp
      | cons x q ih =>
        intro m h hq
        have h1 := hq 0 (by simp)
        have h2 := ih (m - 1) (by simp at h; omega) (fun j hj => by have := hq (j + 1) (by simp; omega); simpa using this)
        simp only [List.length_cons] at h
        simp only [List.getElem_cons_zero] at h1
        rw [List.flatten_cons, List.length_append]
        omega
    have hlast : (partsL 2 8192 s) = (partsL 2 8192 s).take k ++ [(partsL 2 8192 s)[k]] := by
      rw [← List.take_succ_eq_append_getElem hk, List.take_of_length_le (by omega)]
    have h3 := congrArg (fun q => q.flatten.length) hlast
    simp only [List.flatten_append, List.length_append, List.flatten_cons, List.flatten_nil, List.append_nil] at h3
    rw [hf, hs] at h3
    have h4 := hsum ((partsL 2 8192 s).take k) k (by rw [List.length_take]; omega) (fun j hj => by
      rw [List.getElem_take]
      exact (he j (by rw [List.length_take] at hj; omega)).2.1)
    have h5 := (he k hk).2.1
    omega
set_option maxHeartbeats 2000000 in
theorem numbers_any (s : List UInt8) (n : Nat) (w : World) (hs : s.length = 2 * n) (hn : n ≤ 100) (hn0 : 0 < n) :
    Calls Try.prog 28 #[str s] w fun e w' => ∃ g, e = .returned (.slice (some ⟨g, 0, none⟩) n n) ∧ w'.heap[g]? = some (.cells (numCells (numsL s)) 22 (0, 0)) ∧ w.heap.size ≤ g ∧ Below w.heap.size w w' := by
  obtain ⟨hpl, hpe⟩ := parts_two s n hs hn
  have hpm := partsL_map2 8192 s (by omega) n hs
  have HS := Lib.hid fun W => split_ok s 2 W (by omega) (by omega) (by omega)
  have hmk := make_nums n (by omega)
  generalize partsL 2 8192 s = ps at *
  rw [← hpm]
  have HPE := Lib.hid hpe
  clear hpm hpe
  go_enter Try.func28, Try.ntmps28
  go_wp2_with fail
  refine (HS.out _).mono ?_
  rintro e w1 ⟨v, rfl, hown, hb1⟩
  obtain ⟨A, c, rfl, hc⟩ := row_of_own hown
  rw [List.length_map, hpl]
  have Hc := Lib.hid hc
  clear hc hown
  go_wp2_with fail
  go_loopw [20] (fun i wr => ∃ k : Nat, k ≤ n ∧ i = .int .i64 k ∧ wr.heap[w1.heap.size]? = some (.cells (numCells ((ps.take k).map leV ++ List.replicate (n - k) 0)) 22 (0, 0)) ∧ Below w1.heap.size w1 wr) (fun i _ => n - (nOf i).toNat)
  case atStart => exact ⟨0, Nat.zero_le _, rfl, by simpa using heap_alloc_new w1 _, (Below.refl _ _).alloc (Nat.le_refl _) _⟩
  case round =>
    obtain ⟨k, hk, rfl, hg, hb⟩ := hrel
    by_cases hlt2 : k < n
    · have hkp : k < ps.length := by omega
      obtain ⟨p, hpe⟩ : ∃ p, p = ps[k] := ⟨_, rfl⟩
      have hp2 : p.length = 2 := by rw [hpe]; exact HPE.out k hkp
      obtain ⟨g, rfl, hcell⟩ := Hc.out k (str p) (by rw [hpe]; simp [hkp])
      have hcell1 : wr.cell? ⟨g, k, none⟩ = some (str p) := (hb.cell (p := ⟨g, k, none⟩) (World.block_lt_of_cell? w1 _ hcell)).trans hcell
      have hv16 : leV p < 65536 := by have := leV_lt p; rw [hp2] at this; exact this
      have hfr := frozen_of_row wr w1.heap.size k _ 22 hg
      have hold : wr.cell? ⟨w1.heap.size, k, none⟩ = some (w16 0) := by
        have hl : ((ps.take k).map leV).length = k := by simp; omega
        rw [cell_of_row wr w1.heap.size k _ 22 (0, 0) hg, numCells_at _ k 0]
        rw [List.getElem?_append_right (by omega), hl, Nat.sub_self, List.getElem?_replicate, if_pos (by omega)]
      have hset : ((ps.take k).map leV ++ List.replicate (n - k) 0).set k (leV p) = (ps.take (k + 1)).map leV ++ List.replicate (n - (k + 1)) 0 := by
        have hl : ((ps.take k).map leV).length = k := by simp; omega
        rw [List.set_append_right _ _ (by omega), hl, Nat.sub_self, show n - k = (n - (k + 1)) + 1 by omega, List.replicate_succ, List.set_cons_zero, List.take_succ_eq_append_getElem hkp, List.map_append, ← hpe]
        simp
      have HG := Lib.hid hg
      have HSET := Lib.hid hset
      have HN := Lib.hid fun W => get_ok p W (by omega)
      clear hg hset hcell hpe
      generalize leV p = q at *
      go_wp2_with fail
      refine (HN.out _).mono ?_
      rintro e w2 ⟨rfl, hb2⟩
      have hlt1 : w1.heap.size < wr.heap.size := World.block_lt_of_cell? wr _ hold
      have hold2 : w2.cell? ⟨w1.heap.size, k, none⟩ = some (w16 0) := (hb2.cell (p := ⟨w1.heap.size, k, none⟩) hlt1).trans hold
      have hfr2 : w2.frozen? ⟨w1.heap.size, k, none⟩ = false := (hb2.frozen (p := ⟨w1.heap.size, k, none⟩) hlt1).trans hfr
      have hg2 := (hb2.block w1.heap.size hlt1).trans HG.out
      have HG2 := Lib.hid hg2
      clear hg2
      go_wp2
      go_roundw
      case rel => exact ⟨k + 1, by omega, by go_num, by rw [← HSET.out]; exact blk_set_num HG2.out q, (hb.trans (hb2.mono hb.size)).setCell (Nat.le_refl _) _⟩
      case measure => simp [nOf]; omega
    · have : k = n := by omega
      subst this
      rw [← hpl, List.take_length, Nat.sub_self] at hg
      go_wp2
      go_ret
      exact ⟨_, rfl, by simpa using hg, hb1.size, chain hb1 hb⟩
end Go.Proofs.Ytpipjjngffajlaa
