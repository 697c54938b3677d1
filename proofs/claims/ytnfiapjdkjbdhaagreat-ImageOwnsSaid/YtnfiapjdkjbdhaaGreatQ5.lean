import Derived.Test.YtnfiapjdkjbdhaaGreatQ4
import Derived.Test.YtnfiapjdkjbdhaaGreatShelf
import Derived.Test.YtnfiapjdkjbdhaaGreatKeys
import Derived.Maps.OwnIn
namespace Go.Proofs.YtnfiapjdkjbdhaaGreat
open Go.RowKit
set_option linter.unusedVariables false
set_option linter.unusedSimpArgs false
set_option maxRecDepth 10000
theorem repeat_nought (k : Nat) : Lib.repeatL (⟨#[0]⟩ : ByteArray).data.toList k = List.replicate k 0 := by
  induction k with
  | zero => rfl
  | succ k ih => rw [Lib.repeatL, ih]; rfl
theorem repeat0 (k : Nat) (w : World) (hk : k ≤ 65536) :
    Calls Tryz.prog 105 #[.string ⟨#[0]⟩, .int .i64 k] w fun e w' => e = .returned (str (List.replicate k 0)) ∧ Below w.heap.size w w' := by
  have h := Tryz.strings_Repeat ⟨#[0]⟩ k w (by omega) (by show 1 * k ≤ 140737488355328; omega)
  rwa [repeat_nought] at h
set_option maxHeartbeats 400000 in
theorem pad_ok (l : List UInt8) (k : Nat) (n : Int) (w : World) (hn : n = ((l.length + k : Nat) : Int)) (hk : l.length + k ≤ 65536) :
    Calls Tryz.prog 94 #[str l, .int .i64 n] w fun e w' => e = .returned (.tuple #[str (l ++ List.replicate k 0), .int .i64 0]) ∧ Below w.heap.size w w' := by
  have hr : n - (l.length : Int) = (k : Int) := by omega
  have h1 : 0 ≤ n := by omega
  have h2 : n ≤ 65536 := by omega
  have h3 : (l.length : Int) ≤ n := by omega
  clear hn
  go_enter Tryz.func94, Tryz.ntmps94
  go_wp2_with (first | (go_at_call 128; go_in) | (go_at_call 182; go_in))
  refine (repeat0 k _ (by omega)).mono ?_
  rintro e w1 ⟨rfl, hb1⟩
  go_wp2_with fail
  go_ret2
  refine ⟨rfl, ?_⟩
  · exact ((((Below.refl _ _).alloc (Nat.le_refl _) _).alloc (by simp) _).alloc (by simp; omega) _).alloc (by simp; omega) _ |>.trans (hb1.mono (by simp; omega))
end Go.Proofs.YtnfiapjdkjbdhaaGreat
/- Layer 1 (octet), continued: Split, Same. -/
namespace Go.Proofs.YtnfiapjdkjbdhaaGreat
open Go.RowKit
set_option linter.unusedVariables false
set_option linter.unusedSimpArgs false
set_option maxRecDepth 10000
theorem stringInfo : (Tryz.prog.info? 9).map (fun i => (i.zero, i.size, i.bytes)) = some (some (.string ⟨#[]⟩), 1, 16) := by kernel_rfl
set_option maxHeartbeats 800000 in
theorem split_ok (l : List UInt8) (n : Nat) (w : World) (hs : l.length ≤ 8192) (hn : 1 ≤ n) (hn2 : n ≤ 9223372036854775807) :
    Calls Tryz.prog 184 #[str l, .int .i64 n] w fun e w' => ∃ v, e = .returned (.tuple #[v, .int .i64 0]) ∧ w'.ownsRow w.heap.size 9 1 v (partsL n 8192 l).length ((partsL n 8192 l).map str) ∧ Below w.heap.size w w' := by
  go_enter Tryz.func184, Tryz.ntmps184
  go_wp2
  go_step3
  go_wp2
  go_step3
  go_wp2
  go_loopw [0, 6] (fun s v wr => ∃ (q : List UInt8) (acc : List (List UInt8)), s = str q ∧ q.length + acc.length ≤ l.length ∧ acc ++ partsL n 8192 q = partsL n 8192 l ∧ wr.ownsRow w.heap.size 9 1 v acc.length (acc.map str) ∧ Below w.heap.size w wr) (fun s _ _ => lenOf s)
  case atStart => exact ⟨l, [], rfl, by simp, by simp, World.ownsRow_nil _ _ _ _, Below.refl _ _⟩
  case round =>
    obtain ⟨q, acc, rfl, hq, hp, hown, hb⟩ := hrel
    have Hp := Lib.hid hp
    clear hp
    by_cases h0 : q = []
    · subst h0
      have hacc : partsL n 8192 l = acc := by rw [← Hp.out, partsL_nil, List.append_nil]
      have Hacc := Lib.hid hacc
      clear hacc
      go_wp2
      try rw [Exit.noGoto_ret]
      go_ret2
      exact ⟨_, rfl, by rw [Hacc.out]; exact hown, hb⟩
    · have hstep := partsL_step n 8192 q hn (by omega) h0
      have Hstep := Lib.hid hstep
      clear hstep
      have hne : q.isEmpty = false := by simp [h0]
      have hpos : 0 < q.length := List.length_pos_iff.2 h0
      by_cases hle : n ≤ q.length
      · go_wp2_with fail
        refine (cut_ok q n n _ (by simp only [maxLen]; omega) rfl hle).mono ?_
        rintro e w1 ⟨rfl, hb1⟩
        have hown1 := own_below hown hb1
        have hbw1 := chain hb hb1
        go_wp2_with (at_builtin; refine wpList_append_one rfl _ _ _ rfl 9 _ 16 Tryz.underlying230 stringInfo rfl _ _ _ rfl hown1 (str (q.take n)) _ _ rfl rfl rfl (by simp only [maxLen]; omega) (by omega) hbw1 ?_; intro v' w2 hown2 hbw2)
        go_roundw
        case rel =>
          refine ⟨q.drop n, acc ++ [q.take n], rfl, ?_, ?_, ?_, hbw2⟩
          · simp; omega
          · rw [← Hp.out, Hstep.out]; simp
          · simpa using hown2
        case measure => simp [lenOf, ByteArray.size]; omega
      · have hrest : partsL n 8192 q = [q] := by
          rw [Hstep.out, List.take_of_length_le (by omega), List.drop_of_length_le (by omega), partsL_nil]
        have hacc : partsL n 8192 l = acc ++ [q] := by rw [← Hp.out, hrest]
        have Hacc := Lib.hid hacc
        clear hacc hrest
        go_wp2_with fail
        refine (cut_far q n _ (by simp only [maxLen]; omega) (by omega)).mono ?_
        rintro e w1 ⟨rfl, hb1⟩
        have hown1 := own_below hown hb1
        have hbw1 := chain hb hb1
        go_wp2_with (at_builtin; refine wpList_append_one rfl _ _ _ rfl 9 _ 16 Tryz.underlying230 stringInfo rfl _ _ _ rfl hown1 (str q) _ _ rfl rfl rfl (by simp only [maxLen]; omega) (by omega) hbw1 ?_; intro v' w2 hown2 hbw2)
        try rw [Exit.noGoto_ret]
        go_ret2
        exact ⟨v', rfl, by rw [Hacc.out]; simpa using hown2, hbw2⟩
end Go.Proofs.YtnfiapjdkjbdhaaGreat
/- Layer 1 (octet): the chapter's examples; each function once more, in one sentence. -/
namespace Go.Proofs.YtnfiapjdkjbdhaaGreat
open Go.RowKit
set_option linter.unusedVariables false
set_option linter.unusedSimpArgs false
set_option maxRecDepth 10000
theorem quot_zero (v n : Nat) (h : v < 256 ^ n) : ((v : Int) / 2 ^ (8 * n) != 0) = false := by
  rw [pow256] at h
  have h1 : v / 2 ^ (8 * n) = 0 := Nat.div_eq_of_lt h
  have h2 : ((v : Int) / 2 ^ (8 * n)) = ((v / 2 ^ (8 * n) : Nat) : Int) := by simp
  rw [h2, h1]; rfl
theorem num_yes (u i : Int) (v n : Nat) (w : World) (hu : u = v) (hi : i = n) (hv : v < 18446744073709551616) (hn : n ≤ 8) (h : v < 256 ^ n) :
    Calls Tryz.prog 129 #[.int .u64 u, .int .i64 i] w fun e w' => e = .returned (.tuple #[str (leB n v), .int .i64 0]) ∧ Below w.heap.size w w' := by
  subst hu hi
  exact num_ok v n w hv hn (quot_zero v n h)
end Go.Proofs.YtnfiapjdkjbdhaaGreat
/- Layer 7 (inode): numbers put one behind the other; blocks that list others. -/
namespace Go.Proofs.YtnfiapjdkjbdhaaGreat
open Go.RowKit
set_option linter.unusedVariables false
set_option linter.unusedSimpArgs false
set_option maxRecDepth 10000
def NumS (q : IntKind) (w : World) (v : Value) (l : List Nat) : Prop :=
  ∃ A c, v = .slice A l.length c ∧ ∀ (j n : Nat), l[j]? = some n → ∃ a : Addr, A = some a ∧ w.cell? (a.add j) = some (.int q (n : Int))
theorem NumS.below {q : IntKind} {w w' : World} {v : Value} {l : List Nat} (h : NumS q w v l) (hb : Below w.heap.size w w') : NumS q w' v l := by
  obtain ⟨A, c, hv, hc⟩ := h
  refine ⟨A, c, hv, fun j n hj => ?_⟩
  obtain ⟨a, hA, hcell⟩ := hc j n hj
  exact ⟨a, hA, (hb.cell (World.block_lt_of_cell? w _ hcell)).trans hcell⟩
theorem nums_row {q : IntKind} {w : World} {g n c : Nat} {l : List Nat} {t : TypeId} {cs : Array Value} {fr : Nat × Nat} (hg : w.heap[g]? = some (.cells cs t fr)) (hl : l.length = n) (hc : ∀ j m : Nat, l[j]? = some m → cs[j]? = some (.int q (m : Int))) : NumS q w (.slice (some ⟨g, 0, none⟩) n c) l := by
  subst hl
  refine ⟨some ⟨g, 0, none⟩, c, rfl, fun j m hj => ⟨_, rfl, ?_⟩⟩
  have h := cell_of_row w g j cs t fr hg
  have e : (⟨g, 0, none⟩ : Addr).add j = ⟨g, j, none⟩ := by unfold Addr.add; split <;> simp_all
  rw [e, h, hc j m hj]
def catN (n : Nat) (l : List Nat) : List UInt8 := (l.map (leB n)).flatten
theorem catN_two (l : List Nat) : catN 2 l = catL l := rfl
theorem catN_length (n : Nat) (l : List Nat) : (catN n l).length = n * l.length := by
  induction l with
  | nil => rfl
  | cons a l ih => simp only [catN, List.map_cons, List.flatten_cons, List.length_append, leB_length, List.length_cons] at ih ⊢; rw [ih, Nat.mul_succ]; omega
theorem catN_take (n : Nat) (l : List Nat) (k : Nat) (h : k < l.length) : catN n (l.take (k + 1)) = catN n (l.take k) ++ leB n l[k] := by
  simp only [catN]
  rw [List.take_succ_eq_append_getElem h, List.map_append, List.flatten_append]
  simp
set_option maxHeartbeats 1000000 in
theorem putu8_any (l : List Nat) (v : Value) (w : World) (hv : NumS .u8 w v l) (hlt : ∀ x ∈ l, x < 256 ^ 1) (hlen : l.length ≤ 1000) :
    Calls Tryz.prog 91 #[.int .i64 1, v] w fun e w' => e = .returned (str (catN 1 l)) ∧ Below w.heap.size w w' := by
  obtain ⟨A, c, rfl, hc⟩ := hv
  have Hc := Lib.hid hc
  clear hc
  go_enter Tryz.func91, Tryz.ntmps91
  go_wp2_with fail
  go_loopw [5, 12] (fun s i wr => ∃ k : Nat, k ≤ l.length ∧ i = .int .i64 k ∧ s = str (catN 1 (l.take k)) ∧ Below w.heap.size w wr) (fun _ i _ => l.length - (nOf i).toNat)
  case atStart => exact ⟨0, Nat.zero_le _, rfl, by simp [catN], Below.refl _ _⟩
  case round =>
    obtain ⟨k, hk, rfl, rfl, hb⟩ := hrel
    by_cases hlt2 : k < l.length
    · obtain ⟨b, hbe⟩ : ∃ b, b = l[k] := ⟨_, rfl⟩
      have hb16 : b < 256 ^ 1 := by rw [hbe]; exact hlt _ (List.getElem_mem _)
      obtain ⟨a, rfl, hcell⟩ := Hc.out k b (by rw [hbe]; simp [hlt2])
      have hcell1 : wr.cell? (a.add k) = some (.int .u8 (b : Int)) := (hb.cell (World.block_lt_of_cell? w _ hcell)).trans hcell
      have htk := catN_take 1 l k hlt2
      rw [← hbe] at htk
      have Htk := Lib.hid htk
      have hl1 : (catN 1 (l.take k)).length ≤ 8000 := by rw [catN_length, List.length_take]; omega
      clear htk hcell hbe
      generalize catN 1 (l.take k) = t at *
      have hl2 : (leB 1 b).length = 1 := leB_length _ _
      have HN := Lib.hid fun W => num_yes (b : Int) 1 b 1 W rfl rfl (by omega) (by omega) hb16
      go_wp2_with fail
      refine (HN.out _).mono ?_
      rintro e w1 ⟨rfl, hb1⟩
      go_wp2
      go_roundw
      case rel => exact ⟨k + 1, by omega, by go_num, by rw [Htk.out], chain hb hb1⟩
      case measure => simp [nOf]; omega
    · have : k = l.length := by omega
      subst this
      rw [List.take_length]
      go_wp2
      go_ret
      exact ⟨rfl, hb⟩
set_option maxHeartbeats 1000000 in
theorem putu16_any (l : List Nat) (v : Value) (w : World) (hv : NumS .u16 w v l) (hlt : ∀ x ∈ l, x < 256 ^ 2) (hlen : l.length ≤ 1000) :
    Calls Tryz.prog 92 #[.int .i64 2, v] w fun e w' => e = .returned (str (catN 2 l)) ∧ Below w.heap.size w w' := by
  obtain ⟨A, c, rfl, hc⟩ := hv
  have Hc := Lib.hid hc
  clear hc
  go_enter Tryz.func92, Tryz.ntmps92
  go_wp2_with fail
  go_loopw [5, 12] (fun s i wr => ∃ k : Nat, k ≤ l.length ∧ i = .int .i64 k ∧ s = str (catN 2 (l.take k)) ∧ Below w.heap.size w wr) (fun _ i _ => l.length - (nOf i).toNat)
  case atStart => exact ⟨0, Nat.zero_le _, rfl, by simp [catN], Below.refl _ _⟩
  case round =>
    obtain ⟨k, hk, rfl, rfl, hb⟩ := hrel
    by_cases hlt2 : k < l.length
    · obtain ⟨b, hbe⟩ : ∃ b, b = l[k] := ⟨_, rfl⟩
      have hb16 : b < 256 ^ 2 := by rw [hbe]; exact hlt _ (List.getElem_mem _)
      obtain ⟨a, rfl, hcell⟩ := Hc.out k b (by rw [hbe]; simp [hlt2])
      have hcell1 : wr.cell? (a.add k) = some (.int .u16 (b : Int)) := (hb.cell (World.block_lt_of_cell? w _ hcell)).trans hcell
      have htk := catN_take 2 l k hlt2
      rw [← hbe] at htk
      have Htk := Lib.hid htk
      have hl1 : (catN 2 (l.take k)).length ≤ 8000 := by rw [catN_length, List.length_take]; omega
      clear htk hcell hbe
      generalize catN 2 (l.take k) = t at *
      have hl2 : (leB 2 b).length = 2 := leB_length _ _
      have HN := Lib.hid fun W => num_yes (b : Int) 2 b 2 W rfl rfl (by omega) (by omega) hb16
      go_wp2_with fail
      refine (HN.out _).mono ?_
      rintro e w1 ⟨rfl, hb1⟩
      go_wp2
      go_roundw
      case rel => exact ⟨k + 1, by omega, by go_num, by rw [Htk.out], chain hb hb1⟩
      case measure => simp [nOf]; omega
    · have : k = l.length := by omega
      subst this
      rw [List.take_length]
      go_wp2
      go_ret
      exact ⟨rfl, hb⟩
set_option maxHeartbeats 1000000 in
theorem putu32_any (l : List Nat) (v : Value) (w : World) (hv : NumS .u32 w v l) (hlt : ∀ x ∈ l, x < 256 ^ 4) (hlen : l.length ≤ 1000) :
    Calls Tryz.prog 93 #[.int .i64 4, v] w fun e w' => e = .returned (str (catN 4 l)) ∧ Below w.heap.size w w' := by
  obtain ⟨A, c, rfl, hc⟩ := hv
  have Hc := Lib.hid hc
  clear hc
  go_enter Tryz.func93, Tryz.ntmps93
  go_wp2_with fail
  go_loopw [5, 12] (fun s i wr => ∃ k : Nat, k ≤ l.length ∧ i = .int .i64 k ∧ s = str (catN 4 (l.take k)) ∧ Below w.heap.size w wr) (fun _ i _ => l.length - (nOf i).toNat)
  case atStart => exact ⟨0, Nat.zero_le _, rfl, by simp [catN], Below.refl _ _⟩
  case round =>
    obtain ⟨k, hk, rfl, rfl, hb⟩ := hrel
    by_cases hlt2 : k < l.length
    · obtain ⟨b, hbe⟩ : ∃ b, b = l[k] := ⟨_, rfl⟩
      have hb16 : b < 256 ^ 4 := by rw [hbe]; exact hlt _ (List.getElem_mem _)
      obtain ⟨a, rfl, hcell⟩ := Hc.out k b (by rw [hbe]; simp [hlt2])
      have hcell1 : wr.cell? (a.add k) = some (.int .u32 (b : Int)) := (hb.cell (World.block_lt_of_cell? w _ hcell)).trans hcell
      have htk := catN_take 4 l k hlt2
      rw [← hbe] at htk
      have Htk := Lib.hid htk
      have hl1 : (catN 4 (l.take k)).length ≤ 8000 := by rw [catN_length, List.length_take]; omega
      clear htk hcell hbe
      generalize catN 4 (l.take k) = t at *
      have hl2 : (leB 4 b).length = 4 := leB_length _ _
      have HN := Lib.hid fun W => num_yes (b : Int) 4 b 4 W rfl rfl (by omega) (by omega) hb16
      go_wp2_with fail
      refine (HN.out _).mono ?_
      rintro e w1 ⟨rfl, hb1⟩
      go_wp2
      go_roundw
      case rel => exact ⟨k + 1, by omega, by go_num, by rw [Htk.out], chain hb hb1⟩
      case measure => simp [nOf]; omega
    · have : k = l.length := by omega
      subst this
      rw [List.take_length]
      go_wp2
      go_ret
      exact ⟨rfl, hb⟩
end Go.Proofs.YtnfiapjdkjbdhaaGreat
/- Layer 7 (inode): the block that lists others, and what it lists. -/
namespace Go.Proofs.YtnfiapjdkjbdhaaGreat
open Go.RowKit
set_option linter.unusedVariables false
set_option linter.unusedSimpArgs false
set_option maxRecDepth 10000
set_option maxHeartbeats 400000 in
theorem tell_ok (l : List Nat) (v : Value) (w : World) (hv : U16s w v l) (hlt : ∀ x ∈ l, x < 65536) (h : l.length ≤ 32) :
    Calls Tryz.prog 198 #[v] w fun e w' => e = .returned (.tuple #[str (tellL l), .int .i64 0]) ∧ Below w.heap.size w w' := by
  have HP := Lib.hid fun W (h : U16s W v l) => putu16_any l v W h hlt (by omega)
  have HV := Lib.hid hv
  obtain ⟨A, c, rfl, hc⟩ := hv
  clear hc
  have hcl := catL_length l
  have HQ := Lib.hid fun W => pad_ok (catL l) (64 - 2 * l.length) 64 W (by rw [hcl]; omega) (by omega)
  have HT : Hid (catL l ++ List.replicate (64 - 2 * l.length) 0 = tellL l) := Lib.hid rfl
  go_enter Tryz.func198, Tryz.ntmps198
  go_wp2_with fail
  refine (HP.out _ HV.out).mono ?_
  rintro e w1 ⟨rfl, hb1⟩
  rw [catN_two]
  go_wp2_with fail
  refine (HQ.out _).mono ?_
  rintro e w2 ⟨rfl, hb2⟩
  go_wp2
  go_ret2
  exact ⟨by rw [HT.out]; rfl, chain hb1 hb2⟩
abbrev numCells (l : List Nat) : Array Value := (l.map fun n => w16 n).toArray
theorem numCells_at (l : List Nat) (j m : Nat) (h : l[j]? = some m) : (numCells l)[j]? = some (w16 m) := by
  simp [h]
theorem blk_set_num {W : World} {g e j : Nat} {l : List Nat} (h : W.heap[g]? = some (.cells (numCells l) e (0, 0))) (x : Nat) :
    (W.setCell ⟨g, j, none⟩ (w16 x)).heap[g]? = some (.cells (numCells (l.set j x)) e (0, 0)) := by
  rw [heap_setCell_same W g j _ e _ h]
  congr 2
  apply Array.ext'
  simp
theorem uint16Info : (Tryz.prog.info? 38).map (fun i => (i.zero, i.size, i.bytes)) = some (some (.int .u16 0), 1, 2) := by kernel_rfl
theorem make_nums (n : Nat) (hn : n ≤ 1048576) : ∀ W : World, (Instr.makeSlice 75 (.int .i64 (n : Int)) (.int .i64 (n : Int))).run Tryz.prog W = .ok (.slice (some ⟨W.heap.size, 0, none⟩) n n) (W.alloc (.cells (numCells (List.replicate n 0)) 38)) := fun W => by
  obtain ⟨i0, hi, hz0, hz1, hz2⟩ := info_parts uint16Info
  have h := run_make (P := Tryz.prog) W 75 38 i0 _ Tryz.underlying75 hi hz0 .i64 .i64 n n (by omega) (by omega) (by rw [hz2]; omega) (by omega)
  rw [hz1] at h
  have e : madeCells #[Value.int .u16 0] n = numCells (List.replicate n 0) := by
    apply Array.ext'
    rw [toList_madeCells_one]
    simp
  simpa [Value.cells, e] using h
theorem parts_two (s : List UInt8) (n : Nat) (hs : s.length = 2 * n) (hn : n ≤ 100) : (partsL 2 8192 s).length = n ∧ ∀ k (h : k < (partsL 2 8192 s).length), ((partsL 2 8192 s)[k]).length = 2 := by
  have hm := partsL_map2 8192 s (by omega) n hs
  have hl : (partsL 2 8192 s).length = n := by
    have := congrArg List.length hm
    rw [List.length_map, numsL_length] at this
    omega
  refine ⟨hl, fun k hk => ?_⟩
  have hf := partsL_flat 2 (by omega) 8192 s (by omega)
  have he := partsL_each 2 (by omega) 8192 s (by omega)
  by_cases hk2 : k + 1 < (partsL 2 8192 s).length
  · exact (he k hk).2.2 hk2
  · -- the last one: what is left of the length
    have hsum : ∀ (q : List (List UInt8)) (m : Nat), q.length = m → (∀ j (h : j < q.length), (q[j]).length ≤ 2) → q.flatten.length ≤ 2 * m := by
      intro q
      induction q with
      | nil => intro m h _; simp
      | cons x q ih =>
        intro m h hq
        have h1 := hq 0 (by simp)
        have h2 := ih (m - 1) (by simp at h; omega) (fun j hj => by have := hq (j + 1) (by simp; omega); simpa using this)
        simp only [List.length_cons] at h
        simp only [List.getElem_cons_zero] at h1
        rw [List.flatten_cons, List.length_append]
        omega
    have hlast : (partsL 2 8192 s) = (partsL 2 8192 s).take k ++ [(partsL 2 8192 s)[k]] := by
      rw [← List.take_succ_eq_append_getElem hk, List.take_of_length_le (by omega)]
    have h3 := congrArg (fun q => q.flatten.length) hlast
    simp only [List.flatten_append, List.length_append, List.flatten_cons, List.flatten_nil, List.append_nil] at h3
    rw [hf, hs] at h3
    have h4 := hsum ((partsL 2 8192 s).take k) k (by rw [List.length_take]; omega) (fun j hj => by
      rw [List.getElem_take]
      exact (he j (by rw [List.length_take] at hj; omega)).2.1)
    have h5 := (he k hk).2.1
    omega
set_option maxHeartbeats 2000000 in
theorem numbers_any (s : List UInt8) (n : Nat) (w : World) (hs : s.length = 2 * n) (hn : n ≤ 100) (hn0 : 0 < n) :
    Calls Tryz.prog 135 #[str s] w fun e w' => ∃ g, e = .returned (.slice (some ⟨g, 0, none⟩) n n) ∧ w'.heap[g]? = some (.cells (numCells (numsL s)) 38 (0, 0)) ∧ w.heap.size ≤ g ∧ Below w.heap.size w w' := by
  obtain ⟨hpl, hpe⟩ := parts_two s n hs hn
  have hpm := partsL_map2 8192 s (by omega) n hs
  have HS := Lib.hid fun W => split_ok s 2 W (by omega) (by omega) (by omega)
  have hmk := make_nums n (by omega)
  generalize partsL 2 8192 s = ps at *
  rw [← hpm]
  have HPE := Lib.hid hpe
  clear hpm hpe
  go_enter Tryz.func135, Tryz.ntmps135
  go_wp2_with fail
  refine (HS.out _).mono ?_
  rintro e w1 ⟨v, rfl, hown, hb1⟩
  obtain ⟨A, c, rfl, hc⟩ := row_of_own hown
  rw [List.length_map, hpl]
  have Hc := Lib.hid hc
  clear hc hown
  go_wp2_with fail
  go_loopw [20] (fun i wr => ∃ k : Nat, k ≤ n ∧ i = .int .i64 k ∧ wr.heap[w1.heap.size]? = some (.cells (numCells ((ps.take k).map leV ++ List.replicate (n - k) 0)) 38 (0, 0)) ∧ Below w1.heap.size w1 wr) (fun i _ => n - (nOf i).toNat)
  case atStart => exact ⟨0, Nat.zero_le _, rfl, by simpa using heap_alloc_new w1 _, (Below.refl _ _).alloc (Nat.le_refl _) _⟩
  case round =>
    obtain ⟨k, hk, rfl, hg, hb⟩ := hrel
    by_cases hlt2 : k < n
    · have hkp : k < ps.length := by omega
      obtain ⟨p, hpe⟩ : ∃ p, p = ps[k] := ⟨_, rfl⟩
      have hp2 : p.length = 2 := by rw [hpe]; exact HPE.out k hkp
      obtain ⟨g, rfl, hcell⟩ := Hc.out k (str p) (by rw [hpe]; simp [hkp])
      have hcell1 : wr.cell? ⟨g, k, none⟩ = some (str p) := (hb.cell (p := ⟨g, k, none⟩) (World.block_lt_of_cell? w1 _ hcell)).trans hcell
      have hv16 : leV p < 65536 := by have := leV_lt p; rw [hp2] at this; exact this
      have hfr := frozen_of_row wr w1.heap.size k _ 38 hg
      have hold : wr.cell? ⟨w1.heap.size, k, none⟩ = some (w16 0) := by
        have hl : ((ps.take k).map leV).length = k := by simp; omega
        rw [cell_of_row wr w1.heap.size k _ 38 (0, 0) hg, numCells_at _ k 0]
        rw [List.getElem?_append_right (by omega), hl, Nat.sub_self, List.getElem?_replicate, if_pos (by omega)]
      have hset : ((ps.take k).map leV ++ List.replicate (n - k) 0).set k (leV p) = (ps.take (k + 1)).map leV ++ List.replicate (n - (k + 1)) 0 := by
        have hl : ((ps.take k).map leV).length = k := by simp; omega
        rw [List.set_append_right _ _ (by omega), hl, Nat.sub_self, show n - k = (n - (k + 1)) + 1 by omega, List.replicate_succ, List.set_cons_zero, List.take_succ_eq_append_getElem hkp, List.map_append, ← hpe]
        simp
      have HG := Lib.hid hg
      have HSET := Lib.hid hset
      have HN := Lib.hid fun W => get_ok p W (by omega)
      clear hg hset hcell hpe
      generalize leV p = q at *
      go_wp2_with fail
      refine (HN.out _).mono ?_
      rintro e w2 ⟨rfl, hb2⟩
      have hlt1 : w1.heap.size < wr.heap.size := World.block_lt_of_cell? wr _ hold
      have hold2 : w2.cell? ⟨w1.heap.size, k, none⟩ = some (w16 0) := (hb2.cell (p := ⟨w1.heap.size, k, none⟩) hlt1).trans hold
      have hfr2 : w2.frozen? ⟨w1.heap.size, k, none⟩ = false := (hb2.frozen (p := ⟨w1.heap.size, k, none⟩) hlt1).trans hfr
      have hg2 := (hb2.block w1.heap.size hlt1).trans HG.out
      have HG2 := Lib.hid hg2
      clear hg2
      go_wp2
      go_roundw
      case rel => exact ⟨k + 1, by omega, by go_num, by rw [← HSET.out]; exact blk_set_num HG2.out q, (hb.trans (hb2.mono hb.size)).setCell (Nat.le_refl _) _⟩
      case measure => simp [nOf]; omega
    · have : k = n := by omega
      subst this
      rw [← hpl, List.take_length, Nat.sub_self] at hg
      go_wp2
      go_ret
      exact ⟨_, rfl, by simpa using hg, hb1.size, chain hb1 hb⟩
end Go.Proofs.YtnfiapjdkjbdhaaGreat
/- Layer 7 (inode): what a block lists; the document's answer, and that both are the same. -/
namespace Go.Proofs.YtnfiapjdkjbdhaaGreat
open Go.RowKit
set_option linter.unusedVariables false
set_option linter.unusedSimpArgs false
set_option maxRecDepth 10000
set_option maxHeartbeats 400000 in
theorem told_ok (s : List UInt8) (w : World) (h : s.length = 64) :
    Calls Tryz.prog 199 #[str s] w fun e w' => ∃ v, e = .returned (.tuple #[v, .int .i64 0]) ∧ U16s w' v (numsL s) ∧ Below w.heap.size w w' := by
  have HS := Lib.hid fun W => sized_ok s 64 W (by omega) h
  have HN := Lib.hid fun W => numbers_any s 32 W h (by omega) (by omega)
  have hl : (numsL s).length = 32 := by rw [numsL_length, h]
  have HL := Lib.hid hl
  clear hl
  go_enter Tryz.func199, Tryz.ntmps199
  go_wp2_with fail
  refine (HS.out _).mono ?_
  rintro e w1 ⟨rfl, rfl⟩
  go_wp2_with fail
  refine (HN.out _).mono ?_
  rintro e w2 ⟨g, rfl, hg, hgw, hb2⟩
  have HG := Lib.hid hg
  clear hg
  go_wp2
  go_ret2
  exact ⟨_, rfl, u16s_row HG.out HL.out (fun j m hj => numCells_at _ j m hj), hb2⟩
set_option maxHeartbeats 1000000 in
theorem sameNums_any (l : List Nat) (v1 v2 : Value) (w : World) (h1 : U16s w v1 l) (h2 : U16s w v2 l) (hl : l.length ≤ 100000) :
    Calls Tryz.prog 34 #[v1, v2] w fun e w' => e = .returned (.bool true) ∧ Below w.heap.size w w' := by
  obtain ⟨A1, c1, rfl, hc1⟩ := h1
  obtain ⟨A2, c2, rfl, hc2⟩ := h2
  have H1 := Lib.hid hc1
  have H2 := Lib.hid hc2
  clear hc1 hc2
  go_enter Tryz.func34, Tryz.ntmps34
  go_wp2_with fail
  go_loopw [5] (fun i wr => ∃ k : Nat, k ≤ l.length ∧ i = .int .i64 k ∧ Below w.heap.size w wr) (fun i _ => l.length - (nOf i).toNat)
  case atStart => exact ⟨0, Nat.zero_le _, rfl, Below.refl _ _⟩
  case round =>
    obtain ⟨k, hk, rfl, hb⟩ := hrel
    by_cases hlt2 : k < l.length
    · obtain ⟨b, hbe⟩ : ∃ b, b = l[k] := ⟨_, rfl⟩
      obtain ⟨a1, rfl, hx1⟩ := H1.out k b (by rw [hbe]; simp [hlt2])
      obtain ⟨a2, rfl, hx2⟩ := H2.out k b (by rw [hbe]; simp [hlt2])
      have hy1 : wr.cell? (a1.add k) = some (w16 b) := (hb.cell (World.block_lt_of_cell? w _ hx1)).trans hx1
      have hy2 : wr.cell? (a2.add k) = some (w16 b) := (hb.cell (World.block_lt_of_cell? w _ hx2)).trans hx2
      clear hx1 hx2 hbe
      go_wp2_with fail
      go_quiet (fail)
      go_wp2
      go_roundw
      case rel => exact ⟨k + 1, by omega, by go_num, below_drewN hb _⟩
      case measure => simp [nOf]; omega
    · have : k = l.length := by omega
      subst this
      go_wp2
      go_ret
      exact ⟨rfl, hb⟩
end Go.Proofs.YtnfiapjdkjbdhaaGreat
/- Layer 9 (bmap): the indirect block's numbers as an array; read. -/
namespace Go.Proofs.YtnfiapjdkjbdhaaGreat
open Go.RowKit Go.Lib
set_option linter.unusedVariables false
set_option linter.unusedSimpArgs false
set_option maxRecDepth 10000
/-! The array that lists an indirect block's numbers: 32 cells, by value. -/
theorem lisInfo2 : (Tryz.prog.info? 242).map (fun i => (i.zero, i.size)) = some (some (.agg (numV (List.replicate 32 0)).toArray), 32) := by kernel_rfl
abbrev lisV (l : List Nat) : Value := .agg (numV l).toArray
def LisAt (W : World) (g : Nat) (l : List Nat) : Prop := W.heap[g]? = some (.cells (numV l).toArray 242 (0, 0)) ∧ l.length = 32
theorem LisAt.lt {W : World} {g : Nat} {l : List Nat} (h : LisAt W g l) : g < W.heap.size := (Array.getElem?_eq_some_iff.1 h.1).1
theorem LisAt.below {W W' : World} {g n : Nat} {l : List Nat} (h : LisAt W g l) (hb : Below n W W') (hg : g < n) : LisAt W' g l := ⟨(hb.block g hg).trans h.1, h.2⟩
theorem LisAt.cell {W : World} {g : Nat} {l : List Nat} (h : LisAt W g l) {j n : Nat} (hj : l[j]? = some n) : W.cell? ⟨g, j, none⟩ = some (w16 n) := by
  rw [cell_of_row W g j _ _ _ h.1]; simpa using numV_at hj
def lisLoad (x : Value) : Sem Value := Instr.loadAt 242 x
def lisStore (x v : Value) : Sem Unit := Instr.storeAt 242 x v
@[go_sem ↓] theorem lis_load_fold (x : Value) : Instr.loadAt 242 x = lisLoad x := rfl
@[go_sem ↓] theorem lis_store_fold (x v : Value) : Instr.storeAt 242 x v = lisStore x v := rfl
theorem lis_load {W : World} {g : Nat} {l : List Nat} (h : LisAt W g l) : (lisLoad (.pointer (some ⟨g, 0, none⟩))).run Tryz.prog W = .ok (lisV l) W := by
  have hl := run_loadVar_row (P := Tryz.prog) W g 242 242 _ (0, 0) _ h.1 Tryz.underlying242 rfl (by rw [List.size_toArray, numV_length, h.2]; kernel_rfl)
  unfold lisLoad
  simp only [Instr.loadAt, Instr.sureAddr, Sem.run_bind, Sem.run_pure, Result.andThen_ok, hl]
theorem numV_all (l : List Nat) : (numV l).toArray.all (·.oneCell') = true := by
  rw [Array.all_eq_true_iff_forall_mem]
  intro v hv
  exact numV_one l v (by simpa using hv)
theorem lis_var {W : World} {g : Nat} {l : List Nat} (h : LisAt W g l) : (loadVar 242 ⟨g, 0, none⟩).run Tryz.prog W = .ok (lisV l) W :=
  run_loadVar_row (P := Tryz.prog) W g 242 242 _ (0, 0) _ h.1 Tryz.underlying242 rfl (by rw [List.size_toArray, numV_length, h.2]; kernel_rfl)
theorem lis_store {W : World} {g : Nat} {l old : List Nat} (h : LisAt W g old) (hl : l.length = 32) :
    ∃ W', (lisStore (.pointer (some ⟨g, 0, none⟩)) (lisV l)).run Tryz.prog W = .ok () W' ∧ LisAt W' g l ∧ (∀ k, k ≠ g → W'.heap[k]? = W.heap[k]?) ∧ ∀ n, n ≤ g → Below n W W' := by
  have hst := run_storeCells_row (P := Tryz.prog) W g 242 _ (numV l) h.1 (by simp [h.2, hl]) (numV_all l)
  have sz := Tryz.sizeOf242
  refine ⟨W.setRow g (numV l).toArray, ?_, ⟨setRow_heap W g _ _ _ _ h.1, hl⟩, fun k hk => ?_, fun n hn => below_setRow (Below.refl _ _) g hn _⟩
  · unfold lisStore
    simp only [Instr.storeAt, Instr.sureAddr, Sem.run_bind, Sem.run_pure, Result.andThen_ok]
    unfold storeVar
    simp only [Sem.run_bind, sz, Result.andThen_ok, Value.cells]
    simpa [hl] using hst
  · simp only [World.setRow, Array.getElem?_modify]
    rw [if_neg (fun e => hk e.symm)]
theorem lis_alloc (W : World) (l : List Nat) (hl : l.length = 32) : LisAt (W.alloc (.cells (numV l).toArray 242)) W.heap.size l := ⟨heap_alloc_new W _, hl⟩
set_option maxHeartbeats 1000000 in
theorem bread_zero (t : Value) (i b j : Int) (w : World) :
    Calls Tryz.prog 156 #[t, geoV i b j, .int .u16 0] w fun e w' => e = .returned (.tuple #[lisV (List.replicate 32 0), .int .i64 0]) ∧ Below w.heap.size w w' := by
  obtain ⟨hz, hsz⟩ := zero_of_info lisInfo2
  have Hsz := Lib.hid hsz
  clear hsz
  have h32 : (List.replicate 32 0).length = 32 := rfl
  generalize List.replicate 32 0 = Z at *
  have hA : LisAt (((w.alloc (.cells #[.int .i64 i, .int .i64 b, .int .i64 j] 23)).alloc (.cells (numV Z).toArray 242)).alloc (.cells (numV Z).toArray 242)) (w.heap.size + 1) Z := by
    have := (heap_two (w.alloc (.cells #[.int .i64 i, .int .i64 b, .int .i64 j] 23)) (.cells (numV Z).toArray 242) (.cells (numV Z).toArray 242)).1
    exact ⟨by simpa using this, h32⟩
  have hB : LisAt (((w.alloc (.cells #[.int .i64 i, .int .i64 b, .int .i64 j] 23)).alloc (.cells (numV Z).toArray 242)).alloc (.cells (numV Z).toArray 242)) (w.heap.size + 1 + 1) Z := by
    have := (heap_two (w.alloc (.cells #[.int .i64 i, .int .i64 b, .int .i64 j] 23)) (.cells (numV Z).toArray 242) (.cells (numV Z).toArray 242)).2
    exact ⟨by simpa using this, h32⟩
  have hbel : Below w.heap.size w (((w.alloc (.cells #[.int .i64 i, .int .i64 b, .int .i64 j] 23)).alloc (.cells (numV Z).toArray 242)).alloc (.cells (numV Z).toArray 242)) := (((Below.refl _ w).alloc (Nat.le_refl _) _).alloc (by simp) _).alloc (by simp; omega) _
  have hl := lis_load hB
  obtain ⟨W2, hs, hr, -, hb2⟩ := lis_store hA h32
  have HR := Lib.hid hr
  have HB := Lib.hid (hbel.trans (hb2 w.heap.size (by omega)))
  clear hA hB hbel hr hb2
  go_enter Tryz.func156, Tryz.ntmps156
  go_wp2_with fail
  refine bodyPost_ret (v := .tuple #[lisV Z, .int .i64 0]) ?_ rfl ⟨rfl, HB.out⟩
  exact results_row_tmp (p := 6) (q := 7) rfl _ _ (w.heap.size + 1) _ rfl (lis_var HR.out)
theorem setCells_heap (g : Nat) (e : TypeId) : ∀ (vs : List Value) (o : Nat) (cs : List Value) (W : World), W.heap[g]? = some (.cells cs.toArray e (0, 0)) → o + vs.length ≤ cs.length →
    (W.setCells g o vs).heap[g]? = some (.cells (cs.take o ++ vs ++ cs.drop (o + vs.length)).toArray e (0, 0))
  | [], o, cs, W, h, _ => by simpa [World.setCells] using h
  | v :: r, o, cs, W, h, hl => by
    simp only [List.length_cons] at hl
    have h1 : (W.setCell ⟨g, o, none⟩ v).heap[g]? = some (.cells (cs.set o v).toArray e (0, 0)) := by
      rw [heap_setCell_same W g o _ e v h]; simp
    rw [World.setCells, setCells_heap g e r (o + 1) (cs.set o v) _ h1 (by rw [List.length_set]; omega)]
    congr 3
    have ho : o < cs.length := by omega
    rw [List.take_succ_eq_append_getElem (by rw [List.length_set]; exact ho), List.getElem_set_self, List.take_set_of_le (Nat.le_refl o), List.drop_set_of_lt (by omega)]
    rw [show o + 1 + r.length = o + (v :: r).length by rw [List.length_cons]; omega]
    simp
theorem other_setCells {g k : Nat} (hk : k ≠ g) : ∀ (vs : List Value) (o : Nat) (W : World), (W.setCells g o vs).heap[k]? = W.heap[k]?
  | [], _, _ => rfl
  | v :: r, o, W => by rw [World.setCells, other_setCells hk r (o + 1), heap_setCell_other _ _ _ _ (by simpa using hk)]
theorem below_setCells {n : Nat} {a : World} (g : Nat) (hg : n ≤ g) : ∀ (vs : List Value) (o : Nat) (W : World), Below n a W → Below n a (W.setCells g o vs)
  | [], _, _, h => h
  | v :: r, o, W, h => below_setCells g hg r (o + 1) _ (h.setCell hg v)
theorem lis_copy {W : World} {g : Nat} {l old : List Nat} (h : LisAt W g old) (a : Addr) (c : Nat) (hl : l.length = 32) (hs : ∀ (j n : Nat), l[j]? = some n → W.cell? (a.add j) = some (w16 n)) :
    ∃ W', (Builtin.copy_ #[75, 75] 3 #[.slice (some ⟨g, 0, none⟩) 32 32, .slice (some a) l.length c]).run Tryz.prog W = .ok (goInt 32) W' ∧ LisAt W' g l ∧ (∀ k, k ≠ g → W'.heap[k]? = W.heap[k]?) ∧ ∀ n, n ≤ g → Below n W W' := by
  have hsz : old.length = 32 := h.2
  have hlen : (numV l).length = 32 := by rw [numV_length, hl]
  have hrun := run_copy_cells W 75 75 3 38 g 0 32 32 a l.length c (numV l) Tryz.underlying75 (by kernel_rfl) (by rw [numV_length, hl]; rfl)
    (fun j v hj => by
      rw [List.getElem?_map, Option.map_eq_some_iff] at hj
      obtain ⟨n, hn, rfl⟩ := hj
      exact hs j n hn)
    (fun j hj => by
      rw [cell_of_row W g (0 + j) _ _ (0, 0) h.1]
      rw [numV_length, hl] at hj
      simp; omega)
    (fun j hj => frozen_of_row W g _ _ _ h.1) (numV_one l)
  rw [hlen] at hrun
  have hh := setCells_heap g 242 (numV l) 0 (numV old) W h.1 (by rw [hlen, numV_length, hsz]; omega)
  refine ⟨_, hrun, ⟨?_, hl⟩, fun k hk => ?_, fun n hn => below_setCells g hn _ _ _ (Below.refl _ _)⟩
  · rw [hh]
    congr 3
    simp [hl, hsz]
  · exact other_setCells hk _ _ _
def secB (G : Gm) (k : Nat) : Nat := G.off 5 + (k - 1)
set_option maxHeartbeats 1000000 in
theorem bread_ok (t : Value) (G : Gm) (hG : G.ok) (k : Nat) (h1 : 1 ≤ k) (h2 : k ≤ G.b) (s : List UInt8) (hs : s.length = 64) (w : World)
    (hR : ∀ V, Below w.heap.size w V → Calls Tryz.prog 70 #[t, .int .i64 ((secB G k : Nat) : Int)] V fun e w' => e = .returned (.tuple #[str s, .int .i64 0]) ∧ Below V.heap.size V w') :
    Calls Tryz.prog 156 #[t, gv G, w16 k] w fun e w' => e = .returned (.tuple #[lisV (numsL s), .int .i64 0]) ∧ Below w.heap.size w w' := by
  have hb5 : G.b ≤ 1024 := hG.2.1.2
  have HBl := Lib.hid fun W => block_ok G (k - 1) (k : Int) (by omega) W hG (by omega)
  have hsec : G.off 5 + (k - 1) = secB G k := rfl
  rw [hsec] at HBl
  have HT := Lib.hid fun W => told_ok s W hs
  have h32 : (numsL s).length = 32 := by rw [numsL_length, hs]
  have HR := Lib.hid hR
  have hne : ((k : Int) == 0) = false := by simp; omega
  clear hR hsec hs
  obtain ⟨hz, hsz⟩ := zero_of_info lisInfo2
  have Hsz := Lib.hid hsz
  clear hsz
  have hZ32 : (List.replicate 32 0).length = 32 := rfl
  generalize numsL s = l at *
  generalize List.replicate 32 0 = Z at *
  generalize secB G k = sc at *
  have hA : LisAt (((w.alloc (.cells #[.int .i64 G.i, .int .i64 G.b, .int .i64 G.j] 23)).alloc (.cells (numV Z).toArray 242)).alloc (.cells (numV Z).toArray 242)) (w.heap.size + 1) Z := by
    have := (heap_two (w.alloc (.cells #[.int .i64 G.i, .int .i64 G.b, .int .i64 G.j] 23)) (.cells (numV Z).toArray 242) (.cells (numV Z).toArray 242)).1
    exact ⟨by simpa using this, hZ32⟩
  have hB : LisAt (((w.alloc (.cells #[.int .i64 G.i, .int .i64 G.b, .int .i64 G.j] 23)).alloc (.cells (numV Z).toArray 242)).alloc (.cells (numV Z).toArray 242)) (w.heap.size + 1 + 1) Z := by
    have := (heap_two (w.alloc (.cells #[.int .i64 G.i, .int .i64 G.b, .int .i64 G.j] 23)) (.cells (numV Z).toArray 242) (.cells (numV Z).toArray 242)).2
    exact ⟨by simpa using this, hZ32⟩
  have hbel : Below w.heap.size w (((w.alloc (.cells #[.int .i64 G.i, .int .i64 G.b, .int .i64 G.j] 23)).alloc (.cells (numV Z).toArray 242)).alloc (.cells (numV Z).toArray 242)) := (((Below.refl _ w).alloc (Nat.le_refl _) _).alloc (by simp) _).alloc (by simp; omega) _
  have HA := Lib.hid hA
  have HB := Lib.hid hB
  have HW := Lib.hid hbel
  clear hA hB hbel
  go_enter Tryz.func156, Tryz.ntmps156
  go_wp2_with fail
  generalize hW : (((w.alloc (.cells #[.int .i64 G.i, .int .i64 G.b, .int .i64 G.j] 23)).alloc (.cells (numV Z).toArray 242)).alloc (.cells (numV Z).toArray 242)) = W0 at *
  clear hW
  refine (HBl.out _).mono ?_
  rintro e w1 ⟨rfl, hb⟩
  have HA1 := Lib.hid (HA.out.below hb HA.out.lt)
  have HB1 := Lib.hid (HB.out.below hb HB.out.lt)
  have HW1 := Lib.hid (HW.out.trans (hb.mono HW.out.size))
  clear hb HA HB HW HBl
  go_wp2_with fail
  refine (HR.out _ HW1.out).mono ?_
  rintro e w2 ⟨rfl, hb⟩
  have HA2 := Lib.hid (HA1.out.below hb HA1.out.lt)
  have HB2 := Lib.hid (HB1.out.below hb HB1.out.lt)
  have HW2 := Lib.hid (HW1.out.trans (hb.mono HW1.out.size))
  clear hb HA1 HB1 HW1 HR
  go_wp2_with fail
  refine (HT.out _).mono ?_
  rintro e w3 ⟨v, rfl, hu, hb⟩
  have hA3 := HA2.out.below hb HA2.out.lt
  have hB3 := HB2.out.below hb HB2.out.lt
  have HW3 := Lib.hid (HW2.out.trans (hb.mono HW2.out.size))
  clear hb HA2 HB2 HW2 HT
  obtain ⟨A, c, rfl, hc⟩ := hu
  obtain ⟨a, rfl⟩ : ∃ a, A = some a := by
    obtain ⟨n, hn⟩ : ∃ n, l[0]? = some n := ⟨l[0]'(by omega), List.getElem?_eq_getElem (by omega)⟩
    obtain ⟨a, e, -⟩ := hc 0 n hn
    exact ⟨a, e⟩
  obtain ⟨w4, hcp, hB4, ho4, hb4⟩ := lis_copy hB3 a c h32 (fun j n hj => by obtain ⟨a', e, h⟩ := hc j n hj; cases e; exact h)
  rw [h32] at hcp
  have hA4 : LisAt w4 (w.heap.size + 1) Z := ⟨(ho4 _ (by omega)).trans hA3.1, hA3.2⟩
  have hl := lis_load hB4
  obtain ⟨w5, hs, hr, -, hb5'⟩ := lis_store hA4 h32
  have HRes := Lib.hid hr
  have HW5 := Lib.hid ((HW3.out.trans (hb4 w.heap.size (by omega))).trans (hb5' w.heap.size (by omega)))
  clear hc hA3 hB3 hA4 hB4 ho4 hb4 hb5' hr HW3
  go_wp2_with fail
  refine bodyPost_ret (v := .tuple #[lisV l, .int .i64 0]) ?_ rfl ⟨rfl, HW5.out⟩
  exact results_row_tmp (p := 6) (q := 7) rfl _ _ (w.heap.size + 1) _ rfl (lis_var HRes.out)
end Go.Proofs.YtnfiapjdkjbdhaaGreat
/- Layer 9 (bmap): write; two arrays compared, and cleared. -/
namespace Go.Proofs.YtnfiapjdkjbdhaaGreat
open Go.RowKit Go.Lib
set_option linter.unusedVariables false
set_option linter.unusedSimpArgs false
set_option maxRecDepth 10000
theorem box_lis (w : World) (i b j : Int) (l : List Nat) (hl : l.length = 32) :
    LisAt ((w.alloc (.cells #[.int .i64 i, .int .i64 b, .int .i64 j] 23)).alloc (.cells (numV l).toArray 242)) (w.heap.size + 1) l ∧
    Below w.heap.size w ((w.alloc (.cells #[.int .i64 i, .int .i64 b, .int .i64 j] 23)).alloc (.cells (numV l).toArray 242)) :=
  ⟨⟨(heap_two w _ _).2, hl⟩, ((Below.refl _ w).alloc (Nat.le_refl _) _).alloc (by simp) _⟩
theorem LisAt.u16s {W : World} {g : Nat} {l : List Nat} (h : LisAt W g l) : U16s W (.slice (some ⟨g, 0, none⟩) 32 32) l :=
  ⟨_, _, by rw [h.2], fun j n hj => ⟨_, rfl, by rw [addr_add0]; exact h.cell hj⟩⟩
set_option maxHeartbeats 1000000 in
theorem bwrite_any (t : Value) (G : Gm) (hG : G.ok) (k : Nat) (h1 : 1 ≤ k) (h2 : k ≤ G.b) (l : List Nat) (hl : l.length = 32) (hlt : ∀ x ∈ l, x < 65536) (r : Int) (Q : World → Prop) (w : World)
    (hW : ∀ V, Below w.heap.size w V → Calls Tryz.prog 49 #[t, .int .i64 ((secB G k : Nat) : Int), str (tellL l)] V fun e w' => e = .returned (.int .i64 r) ∧ Q w') :
    Calls Tryz.prog 155 #[t, gv G, w16 k, lisV l] w fun e w' => e = .returned (.int .i64 r) ∧ Q w' := by
  have hb5 : G.b ≤ 1024 := hG.2.1.2
  have HBl := Lib.hid fun W => block_ok G (k - 1) (k : Int) (by omega) W hG (by omega)
  have hsec : G.off 5 + (k - 1) = secB G k := rfl
  rw [hsec] at HBl
  obtain ⟨hL, hB⟩ := box_lis w G.i G.b G.j l hl
  have HT := Lib.hid (tell_ok l _ _ hL.u16s hlt (by omega))
  have HB := Lib.hid hB
  have HWr := Lib.hid hW
  clear hW hlt hL hB hsec
  generalize tellL l = s at *
  generalize secB G k = sc at *
  go_enter Tryz.func155, Tryz.ntmps155
  go_wp2_with fail
  refine HT.out.mono ?_
  rintro e w1 ⟨rfl, hb⟩
  have HB1 := Lib.hid (HB.out.trans (hb.mono HB.out.size))
  have c0 : w1.cell? ⟨w.heap.size, 0, none⟩ = some (.int .i64 G.i) := (hb.cell (p := ⟨w.heap.size, 0, none⟩) (by simp; omega)).trans (cell_of_row _ _ 0 _ _ (0, 0) (heap_two w _ _).1)
  have c1 : w1.cell? ⟨w.heap.size, 1, none⟩ = some (.int .i64 G.b) := (hb.cell (p := ⟨w.heap.size, 1, none⟩) (by simp; omega)).trans (cell_of_row _ _ 1 _ _ (0, 0) (heap_two w _ _).1)
  have c2 : w1.cell? ⟨w.heap.size, 2, none⟩ = some (.int .i64 G.j) := (hb.cell (p := ⟨w.heap.size, 2, none⟩) (by simp; omega)).trans (cell_of_row _ _ 2 _ _ (0, 0) (heap_two w _ _).1)
  clear hb
  go_wp2_with fail
  refine (HBl.out _).mono ?_
  rintro e w2 ⟨rfl, hb⟩
  have HB2 := Lib.hid (HB1.out.trans (hb.mono HB1.out.size))
  clear hb
  go_wp2_with fail
  refine (HWr.out _ HB2.out).mono ?_
  rintro e w3 ⟨rfl, hq⟩
  have HQ := Lib.hid hq
  clear hq
  go_wp2_with fail
  go_ret
  exact ⟨rfl, HQ.out⟩
theorem numInfo : ∃ i, Tryz.prog.info? 38 = some i ∧ i.size = 1 := ⟨_, rfl, rfl⟩
theorem eqItems_nums (a b : List Nat) (w : World) : ∀ is : List Nat, (∀ i ∈ is, i < a.length ∧ i < b.length) → (Op.eqItems 9999 38 1 (numV a).toArray (numV b).toArray is).run Tryz.prog w = .ok (is.all fun i => a[i]? == b[i]?) w
  | [], _ => by simp [Op.eqItems]
  | i :: is, h => by
    have u3 := Tryz.underlying38
    have a3 := Tryz.isAgg38
    have z3 := Tryz.sizeOf38
    obtain ⟨h1, h2⟩ := h i (by simp)
    have ih := eqItems_nums a b w is fun j hj => h j (by simp [hj])
    have e1 : (numV a).toArray[i]? = some (w16 a[i]) := by simp [h1]
    have e2 : (numV b).toArray[i]? = some (w16 b[i]) := by simp [h2]
    have f1 : a[i]? = some a[i] := List.getElem?_eq_getElem h1
    have f2 : b[i]? = some b[i] := List.getElem?_eq_getElem h2
    rw [List.all_cons]
    simp only [Op.eqItems]
    go_simp
    by_cases e : a[i] = b[i]
    · rw [if_pos (by rw [e])]
      simp [e]
    · have e2 : ¬ (a[i] : Int) = (b[i] : Int) := fun h => e (Int.ofNat.inj h)
      rw [if_neg e2]
      simp [e]
theorem eq_lis (a b : List Nat) (ha : a.length = 32) (hb : b.length = 32) (w : World) : (Op.equalIn 10000 242 (lisV a) (lisV b)).run Tryz.prog w = .ok (decide (a = b)) w := by
  obtain ⟨i, hi, hs⟩ := numInfo
  have hc : Tryz.prog.cellsOf 38 = 1 := by kernel_rfl
  rw [run_equalIn_array w 9999 _ _ Tryz.underlying242 hi, hc, eqItems_nums a b w (List.range 32) (fun i hi => by rw [List.mem_range] at hi; omega)]
  congr 1
  rw [Bool.eq_iff_iff, List.all_eq_true, decide_eq_true_iff]
  constructor
  · intro h
    apply List.ext_getElem?
    intro i
    by_cases hi : i < 32
    · simpa using h i (List.mem_range.2 hi)
    · rw [List.getElem?_eq_none (by omega), List.getElem?_eq_none (by omega)]
  · rintro rfl i -
    simp
def keepL (l : List Nat) (q : Nat) : List Nat := l.take q ++ List.replicate (32 - q) 0
theorem keepL_length {l : List Nat} (hl : l.length = 32) {q : Nat} (hq : q ≤ 32) : (keepL l q).length = 32 := by
  unfold keepL; rw [List.length_append, List.length_take, List.length_replicate]; omega
theorem clear_none (t e ty : TypeId) (z : Value) (ht : Tryz.prog.underlying t = some (.slice e)) (hv : ∀ w, (zeroValue e).run Tryz.prog w = .ok z w) (a : Option Addr) (c : Nat) (w : World) :
    (Builtin.clear_ #[t] ty #[.slice a 0 c]).run Tryz.prog w = .ok (.tuple #[]) w := by
  cases a <;> simp [Builtin.clear_, run_underlying ht, hv]
theorem zero16 (w : World) : (zeroValue 38).run Tryz.prog w = .ok (w16 0) w := by
  obtain ⟨hz, -⟩ := zero_of_info (show (Tryz.prog.info? 38).map (fun i => (i.zero, i.size)) = some (some (.int .u16 0), 1) by kernel_rfl)
  exact hz w
theorem run_clear_nums (W : World) (g o n c : Nat) (t ty : TypeId) (cs : List Value) (h : W.heap[g]? = some (.cells cs.toArray t (0, 0))) (hl : cs.length = o + n) :
    ∃ W', (Builtin.clear_ #[75] ty #[.slice (some ⟨g, o, none⟩) n c]).run Tryz.prog W = .ok (.tuple #[]) W' ∧ W'.heap[g]? = some (.cells (cs.take o ++ List.replicate n (w16 0)).toArray t (0, 0)) ∧ (∀ k, k ≠ g → W'.heap[k]? = W.heap[k]?) ∧ ∀ m, m ≤ g → Below m W W' := by
  by_cases hn : n = 0
  · subst hn
    exact ⟨W, clear_none 75 38 ty (w16 0) Tryz.underlying75 zero16 _ _ _, by simpa [List.take_of_length_le (show cs.length ≤ o by omega)] using h, fun k _ => rfl, fun m _ => Below.refl _ _⟩
  · refine ⟨_, run_clear_slice W 75 38 ty (w16 0) Tryz.underlying75 zero16 rfl rfl g o n c (by omega) (fun j hj => ?_) (fun j hj => frozen_of_row W g _ _ _ h), ?_, fun k hk => other_setCells hk _ _ _, fun m hm => below_setCells g hm _ _ _ (Below.refl _ _)⟩
    · rw [cell_of_row W g (o + j) _ t (0, 0) h]; simp; omega
    · rw [setCells_heap g t _ o cs W h (by rw [List.length_replicate]; omega)]
      congr 3
      rw [List.length_replicate, List.drop_of_length_le (by omega), List.append_nil]
theorem lis_clear {W : World} {g : Nat} {l : List Nat} (h : LisAt W g l) (q : Nat) (hq : q ≤ 32) (o : Nat) (ho : q < 32 → o = q) (c : Nat) (ty : TypeId) :
    ∃ W', (Builtin.clear_ #[75] ty #[.slice (some ⟨g, o, none⟩) (32 - q) c]).run Tryz.prog W = .ok (.tuple #[]) W' ∧ LisAt W' g (keepL l q) ∧ (∀ k, k ≠ g → W'.heap[k]? = W.heap[k]?) ∧ ∀ m, m ≤ g → Below m W W' := by
  by_cases h32 : q = 32
  · subst h32
    exact ⟨W, clear_none 75 38 ty (w16 0) Tryz.underlying75 zero16 _ _ _, by unfold keepL; rw [List.take_of_length_le (by rw [h.2]; omega)]; simpa using h, fun k _ => rfl, fun m _ => Below.refl _ _⟩
  obtain rfl := ho (by omega)
  obtain ⟨W', h1, h2, h3, h4⟩ := run_clear_nums W g o (32 - o) c 242 ty (numV l) h.1 (by rw [numV_length, h.2]; omega)
  refine ⟨W', h1, ⟨?_, keepL_length h.2 hq⟩, h3, h4⟩
  rw [h2]
  congr 3
  unfold keepL
  rw [numV_append]
  congr 1
  · exact (List.map_take ..).symm
  · simp
theorem slice_lis (g q : Nat) (hq : q ≤ 32) : ∃ o, (q < 32 → o = q) ∧ ∀ W, (Instr.sliceAt 242 (.pointer (some ⟨g, 0, none⟩)) (some (.int .i64 (q : Int))) none none).run Tryz.prog W = .ok (.slice (some ⟨g, o, none⟩) (32 - q) (32 - q)) W := by
  refine ⟨if 32 = q then 0 else q, fun h => by rw [if_neg (by omega)], fun W => ?_⟩
  have hn : Tryz.prog.arrayLen 242 = 32 := by kernel_rfl
  have he : Tryz.prog.elem 242 = 38 := by kernel_rfl
  have z3 := Tryz.sizeOf38
  have h := run_sliceAt_array_l (P := Tryz.prog) W 242 ⟨g, 0, none⟩ (by rw [hn, he]; exact Tryz.underlying242) .i64 (q : Int) (by omega) (by rw [hn]; omega)
  rw [h, hn, he, z3]
  simp only [Result.andThen_ok, slicedAt, Int.toNat_natCast, Nat.mul_one]
  by_cases hq2 : 32 = q
  · rw [if_pos hq2, if_pos hq2]
  · rw [if_neg hq2, if_neg hq2]
    simp [Addr.add]; omega
end Go.Proofs.YtnfiapjdkjbdhaaGreat
/- Layer 9 (bmap): what an indirect block is cut to. -/
namespace Go.Proofs.YtnfiapjdkjbdhaaGreat
open Go.RowKit Go.Lib
set_option linter.unusedVariables false
set_option linter.unusedSimpArgs false
set_option maxRecDepth 10000
theorem box_lis2 (w : World) (i b j : Int) (l Z : List Nat) (hl : l.length = 32) (hZ : Z.length = 32) (q : Nat) (hq : q ≤ 32) (o : Nat) (ho1 : q < 32 → o = q) (c : Nat) (ty : TypeId) :
    ∃ W2 W3, (lisLoad (.pointer (some ⟨w.heap.size + 1, 0, none⟩))).run Tryz.prog ((w.alloc (.cells #[.int .i64 i, .int .i64 b, .int .i64 j] 23)).alloc (.cells (numV l).toArray 242)) = .ok (lisV l) ((w.alloc (.cells #[.int .i64 i, .int .i64 b, .int .i64 j] 23)).alloc (.cells (numV l).toArray 242)) ∧
      (lisStore (.pointer (some ⟨w.heap.size + 1 + 1, 0, none⟩)) (lisV l)).run Tryz.prog (((w.alloc (.cells #[.int .i64 i, .int .i64 b, .int .i64 j] 23)).alloc (.cells (numV l).toArray 242)).alloc (.cells (numV Z).toArray 242)) = .ok () W2 ∧
      (Builtin.clear_ #[75] ty #[.slice (some ⟨w.heap.size + 1 + 1, o, none⟩) (32 - q) c]).run Tryz.prog W2 = .ok (.tuple #[]) W3 ∧
      LisAt W3 (w.heap.size + 1 + 1) (keepL l q) ∧ LisAt W3 (w.heap.size + 1) l ∧ GeoAt W3 w.heap.size i b j ∧ Below w.heap.size w W3 := by
  obtain ⟨h1, h2⟩ := box_lis w i b j l hl
  have h0 := (heap_two w (.cells #[.int .i64 i, .int .i64 b, .int .i64 j] 23) (.cells (numV l).toArray 242)).1
  have hsz : ((w.alloc (.cells #[.int .i64 i, .int .i64 b, .int .i64 j] 23)).alloc (.cells (numV l).toArray 242)).heap.size = w.heap.size + 1 + 1 := by simp
  generalize ((w.alloc (.cells #[.int .i64 i, .int .i64 b, .int .i64 j] 23)).alloc (.cells (numV l).toArray 242)) = V at *
  have h3 := lis_alloc V Z hZ
  have hV : Below V.heap.size V (V.alloc (.cells (numV Z).toArray 242)) := (Below.refl _ _).alloc (Nat.le_refl _) _
  rw [hsz] at h3
  obtain ⟨W2, hs, hr, ho, hb⟩ := lis_store h3 hl
  obtain ⟨W3, hc, hr3, ho3, hb3⟩ := lis_clear hr q hq o ho1 c ty
  refine ⟨W2, W3, lis_load h1, hs, hc, hr3, ⟨?_, hl⟩, ?_, ?_⟩
  · rw [ho3 _ (by omega), ho _ (by omega), heap_alloc_old _ _ (by omega)]; exact h1.1
  · unfold GeoAt
    rw [ho3 _ (by omega), ho _ (by omega), heap_alloc_old _ _ (by omega)]; exact h0
  · exact ((h2.trans (hV.mono h2.size)).trans (hb _ (by omega))).trans (hb3 _ (by omega))
set_option maxHeartbeats 1000000 in
theorem shorten_same (t : Value) (i b j : Int) (k : Nat) (l : List Nat) (hl : l.length = 32) (q : Nat) (hq : q ≤ 32) (p : Int) (hp : p = (q : Int) + 4) (he : keepL l q = l) (w : World) :
    Calls Tryz.prog 165 #[t, geoV i b j, w16 k, lisV l, .int .i64 p] w fun e w' => e = .returned (.int .i64 0) ∧ Below w.heap.size w w' := by
  obtain ⟨hz, hsz⟩ := zero_of_info lisInfo2
  have Hsz := Lib.hid hsz
  clear hsz
  have hZ32 : (List.replicate 32 0).length = 32 := rfl
  generalize List.replicate 32 0 = Z at *
  obtain ⟨o, ho1, hsl⟩ := slice_lis (w.heap.size + 1 + 1) q hq
  obtain ⟨W2, W3, h1, h2, h3, h4, h5, -, h7⟩ := box_lis2 w i b j l Z hl hZ32 q hq o ho1 (32 - q) 0
  rw [he] at h4
  have h8 := lis_load h4
  have h9 := lis_load h5
  have heq := fun W => eq_lis l l hl hl W
  rw [decide_eq_true rfl] at heq
  have HB := Lib.hid h7
  have hpq : p - 4 = (q : Int) := by omega
  clear h4 h5 h7 hp ho1
  go_enter Tryz.func165, Tryz.ntmps165
  go_wp2_with fail
  go_ret
  exact ⟨rfl, HB.out⟩
theorem keepL_lt {l : List Nat} (h : ∀ x ∈ l, x < 65536) (q : Nat) : ∀ x ∈ keepL l q, x < 65536 := by
  intro x hx
  unfold keepL at hx
  rcases List.mem_append.1 hx with hx | hx
  · exact h x (List.mem_of_mem_take hx)
  · rw [List.eq_of_mem_replicate hx]; decide
set_option maxHeartbeats 1000000 in
theorem shorten_write (t : Value) (G : Gm) (hG : G.ok) (k : Nat) (hk1 : 1 ≤ k) (hk2 : k ≤ G.b) (l : List Nat) (hl : l.length = 32) (hlt : ∀ x ∈ l, x < 65536) (q : Nat) (hq : q ≤ 32) (p : Int) (hp : p = (q : Int) + 4) (he : keepL l q ≠ l) (r : Int) (Q : World → Prop) (w : World)
    (hW : ∀ V, Below w.heap.size w V → Calls Tryz.prog 49 #[t, .int .i64 ((secB G k : Nat) : Int), str (tellL (keepL l q))] V fun e w' => e = .returned (.int .i64 r) ∧ Q w') :
    Calls Tryz.prog 165 #[t, gv G, w16 k, lisV l, .int .i64 p] w fun e w' => e = .returned (.int .i64 r) ∧ Q w' := by
  obtain ⟨hz, hsz⟩ := zero_of_info lisInfo2
  have Hsz := Lib.hid hsz
  clear hsz
  have hZ32 : (List.replicate 32 0).length = 32 := rfl
  generalize List.replicate 32 0 = Z at *
  obtain ⟨o, ho1, hsl⟩ := slice_lis (w.heap.size + 1 + 1) q hq
  obtain ⟨W2, W3, h1, h2, h3, h4, h5, h6, h7⟩ := box_lis2 w G.i G.b G.j l Z hl hZ32 q hq o ho1 (32 - q) 0
  have hkl := keepL_length hl hq
  have hkt := keepL_lt hlt q
  have h8 := lis_load h4
  have h9 := lis_load h5
  have heq := fun W => eq_lis (keepL l q) l hkl hl W
  rw [decide_eq_false he] at heq
  have HWr := Lib.hid (bwrite_any t G hG k hk1 hk2 (keepL l q) hkl hkt r Q W3 fun V hV => hW V (h7.trans (hV.mono h7.size)))
  have c0 : W3.cell? ⟨w.heap.size, 0, none⟩ = some (.int .i64 G.i) := cell_of_row W3 _ 0 _ _ (0, 0) h6
  have c1 : W3.cell? ⟨w.heap.size, 1, none⟩ = some (.int .i64 G.b) := cell_of_row W3 _ 1 _ _ (0, 0) h6
  have c2 : W3.cell? ⟨w.heap.size, 2, none⟩ = some (.int .i64 G.j) := cell_of_row W3 _ 2 _ _ (0, 0) h6
  have hpq : p - 4 = (q : Int) := by omega
  clear h4 h5 h6 h7 hp ho1 hW hkt hlt he
  generalize keepL l q = m at *
  go_enter Tryz.func165, Tryz.ntmps165
  go_wp2_with fail
  refine HWr.out.mono ?_
  rintro e w4 ⟨rfl, hQ⟩
  have HQ := Lib.hid hQ
  clear hQ
  go_wp2_with fail
  go_ret
  exact ⟨rfl, HQ.out⟩
end Go.Proofs.YtnfiapjdkjbdhaaGreat
namespace Go.Proofs.YtnfiapjdkjbdhaaGreat
open Go.RowKit Go.Maps Go.Sort Go.Shelf
set_option linter.unusedVariables false
set_option linter.unusedSimpArgs false
set_option maxRecDepth 10000
attribute [local go_sem] Oper.semAt_some
theorem sortsAt (m : Nat) : AnyZI.SortsIn Tryz.prog Tryz.sortedL_ren Fence.wide m :=
  ⟨fun blk off cap ss W hH hblk hsz => callsIn_wide.2 (AnyM.slices_Sort_int Tryz.sortL blk off cap ss W hH hblk hsz),
   fun p cap W => callsIn_wide.2 (AnyM.slices_Sort_int_none Tryz.sortL p cap W)⟩
theorem loose_any (b : Nat) (w : World) : Calls Tryz.prog 140 #[devp b] w fun e w' => e = .returned (.func (.func 187) #[] #[.pointer (some ⟨w.heap.size, 0, none⟩)]) ∧ w' = w.alloc (.cells #[devp b] 28) := by
  go_enter Tryz.func140, Tryz.ntmps140
  go_wp2
  go_ret
  exact ⟨rfl, rfl⟩
theorem keys_len (n : Nat) (f : Nat → Option Value) : (keysOf n f).length ≤ n := by
  have := List.length_filter_le (fun i => (f i).isSome) (List.range n)
  simpa [keysOf] using this
set_option maxRecDepth 100000 in
set_option maxHeartbeats 2000000 in
theorem loose1_in (l Bd b m cnt : Nat) (f : Nat → Option Value) (W : World) (hd : W.cell? ⟨Bd, 0, none⟩ = some (devp b)) (h3 : W.cell? ⟨b, 3, none⟩ = some (.map (some m))) (hmap : IMap Tryz.prog 3 W m cnt f) (hc : cnt ≤ 4096) (ks : List Nat) (hks : keysOf cnt f = ks)
    (J : Nat → Nat → World → Prop) (hJd : ∀ p j W', J p j W' → W'.cell? ⟨Bd, 0, none⟩ = some (devp b) ∧ W'.cell? ⟨b, 3, none⟩ = some (.map (some m)))
    (hstart : ∀ p W', Below W.heap.size W W' → W.heap.size ≤ p → p < W'.heap.size → J p 0 W')
    (hround : ∀ p j (hj : j < ks.length) W1, J p j W1 → ∃ v, (Instr.lookup 130 (.map (some m)) (.int .i64 ((ks[j] : Nat) : Int)) false).run Tryz.prog W1 = .ok v W1 ∧
      YieldAt Fence.wide 6 Tryz.prog l #[.int .i64 ((ks[j] : Nat) : Int), v] W1 fun e W' => e = .returned (.bool true) ∧ J p (j + 1) W' ∧ W'.heap[p]? = W1.heap[p]?) :
    CallsIn Fence.wide 7 Tryz.prog 187 #[.func (.yield l) #[] #[], .pointer (some ⟨Bd, 0, none⟩)] W fun e W' => (∃ v, e = .returned v) ∧ ∃ p, J p ks.length W' := by
  subst hks
  have hmap' := hmap
  obtain ⟨D0, hown, hhas, hval⟩ := hmap'
  have hbl := hown.lt
  have hszD := IMap.size_le hown Tryz.underlying3 hhas
  have hseq : SeqGives Fence.wide 3 Tryz.prog 221 #[.pointer (some ⟨W.heap.size, 0, none⟩)] encZ (fun ss => ss.Perm (intKeys D0)) (Maps.size D0) (W.alloc (.cells #[.map (some m)] 130)) :=
    AnyZI.keys_gives (ρ := Tryz.keysL_ren) { Tryz.keysL with } Fence.wide _ trivial rfl (by omega) W.heap.size m _ D0 _ (by simp) (by simp) (by
      obtain ⟨es, clock, hb, Ft, hs, hD⟩ := hown
      exact ⟨es, clock, (Below.heap_alloc _ _ m hbl).trans hb, Ft, hs, hD⟩)
  have cK : ∀ mb V, CallsIn Fence.wide 6 Tryz.prog 188 #[.map mb] V fun e w' => e = .returned (.func (.func 221) #[] #[.pointer (some ⟨V.heap.size, 0, none⟩)]) ∧ w' = V.alloc (.cells #[.map mb] 130) := fun mb V => AnyZI.keys_in Tryz.keysL Fence.wide 6 trivial rfl mb V
  have cS := AnyZI.sorted_in Tryz.sortedL Fence.wide 6 trivial trivial trivial trivial rfl (by omega) (sortsAt _) (enters_of Tryz.func175 (by kernel_rfl) rfl) 221 #[.pointer (some ⟨W.heap.size, 0, none⟩)] trivial (enters_of Tryz.func221 (by kernel_rfl) rfl) _ _ (by unfold maxLen; omega) (by omega) _ hseq
  change CallsIn _ _ Tryz.prog 122 _ _ _ at cS
  have hfK : Fence.wide.fn 188 := trivial
  have hfS : Fence.wide.fn 122 := trivial
  have HS := fun (ss : List Int) (hp : ss.Perm (intKeys D0)) => sorted_keys hown Tryz.underlying3 hhas hp
  have HHS := Lib.hid HS
  have HR := Lib.hid hround
  have HJ := Lib.hid hJd
  have HST := Lib.hid hstart
  have HM := Lib.hid hmap
  have HC := Lib.hid cS
  have HK := keys_len cnt f
  clear HS hround hJd hstart hmap hseq hown hhas hval cS hszD
  refine callsIn_of_wp Tryz.func187 rfl trivial ?_ rfl
  simp only [Tryz.ntmps187, List.size_toArray, List.length_cons, List.length_nil, Nat.reduceAdd, Nat.reduceSub, Array.replicate_succ, Array.replicate_zero, List.push_toArray, List.append_toArray, List.nil_append, List.cons_append]
  gi_wp2_with fail
  refine (cK _ _).mono ?_
  rintro e w' ⟨rfl, rfl⟩
  gi_wp2_with fail
  refine HC.out.mono ?_
  rintro e W2 ⟨v, ss, rfl, hperm, hrow, hnil, hb⟩
  rw [HHS.out ss hperm] at hrow
  have hbW : Below W.heap.size W W2 := ((Below.refl _ W).alloc (Nat.le_refl _) _).trans (hb.mono (by simp))
  have hsz2 : W.heap.size + 1 ≤ W2.heap.size := by have := hb.size; simpa using this
  have hv : ∃ A c p, v = .slice A (keysOf cnt f).length c ∧ W.heap.size ≤ p ∧ p < W2.heap.size ∧ ∀ j (hj : j < (keysOf cnt f).length), A = some ⟨p, 0, none⟩ ∧ W2.cell? ⟨p, j, none⟩ = some (.int .i64 (((keysOf cnt f)[j] : Nat) : Int)) := by
    have hl : ss.length = (keysOf cnt f).length := by have := hrow.1; simp at this; omega
    rcases hrow.2 with ⟨rfl, h0⟩ | ⟨g, cap, cur, rfl, hbase, hg, hrest⟩
    · exact ⟨none, 0, W.heap.size, by rw [← hl, h0], Nat.le_refl _, by omega, fun j hj => by omega⟩
    · refine ⟨some ⟨g, 0, none⟩, cap, g, by rw [hl], by simp at hbase; omega, (Array.getElem?_eq_some_iff.1 hg).1, fun j hj => ⟨rfl, ?_⟩⟩
      have := hrow.cells (g := g) rfl j (.int .i64 (((keysOf cnt f)[j] : Nat) : Int)) (by simp [hj])
      rwa [addr_add0] at this
  obtain ⟨A, c, p, rfl, hp1, hp2, hcell⟩ := hv
  have hJ0 := HST.out p W2 hbW hp1 hp2
  have Hcell := Lib.hid hcell
  clear hrow hnil hperm hcell hb cK
  gi_wp2_with fail
  gi_loopw [12] (fun i wr => ∃ k : Nat, k ≤ (keysOf cnt f).length ∧ i = .int .i64 k ∧ J p k wr ∧ wr.heap[p]? = W2.heap[p]?) (fun i _ => (keysOf cnt f).length - (Go.RowKit.intOf i).toNat)
  case atStart => exact ⟨0, Nat.zero_le _, rfl, hJ0, rfl⟩
  case round =>
    obtain ⟨k, hk, rfl, hJk, hpk⟩ := hrel
    by_cases hlt : k < (keysOf cnt f).length
    · obtain ⟨rfl, hcell⟩ := Hcell.out k hlt
      have hcx : wr.cell? ⟨p, k, none⟩ = some (.int .i64 (((keysOf cnt f)[k] : Nat) : Int)) := (World.cell?_of_block (a := ⟨p, k, none⟩) hpk).trans hcell
      obtain ⟨hd1, h31⟩ := HJ.out p k wr hJk
      obtain ⟨v, hlk, fn, tmps, assign, body, hy, hR⟩ := HR.out p k hlt wr hJk
      have HP := Lib.hid hpk
      clear hcell hpk
      generalize (keysOf cnt f)[k] = x at hcx hlk hy
      gi_wp2
      refine hR.mono ?_
      rintro e W3 ⟨rfl, hJ3, hk3⟩
      have HP3 := Lib.hid hk3
      clear hk3
      gi_wp2
      go_roundw
      case rel => exact ⟨k + 1, by omega, by simp, hJ3, HP3.out.trans HP.out⟩
      case measure => simp [Go.RowKit.intOf]; omega
    · obtain rfl : k = (keysOf cnt f).length := by omega
      have HP := Lib.hid hpk
      clear hpk
      gi_wp2
      go_end0
      exact ⟨⟨_, rfl⟩, p, hJk⟩
end Go.Proofs.YtnfiapjdkjbdhaaGreat
/- Layer 3 (dev): Flush. -/
namespace Go.Proofs.YtnfiapjdkjbdhaaGreat
open Go.RowKit Go.Maps Go.Shelf
set_option linter.unusedVariables false
set_option linter.unusedSimpArgs false
set_option maxRecDepth 10000
attribute [local go_sem] Oper.semAt_some
def Dv.after (M : Dv) (xs : List Nat) (gf : Nat → List UInt8) : Dv := { M with dur := fun i => if i ∈ xs then gf i else M.dur i, row := fun i => if i ∈ xs then [] else M.row i }
def Dv.flush (M : Dv) : Dv := { M with dur := M.cur, row := fun _ => [] }
theorem Dv.after_nil (M : Dv) (gf : Nat → List UInt8) : M.after [] gf = M := by simp [Dv.after]
theorem Dv.after_row {M : Dv} {xs : List Nat} {gf : Nat → List UInt8} {i : Nat} (h : i ∉ xs) : (M.after xs gf).row i = M.row i := by simp [Dv.after, h]
theorem Dv.mem_loose {M : Dv} {i : Nat} : i ∈ M.loose ↔ i < M.n ∧ M.row i ≠ [] := by
  unfold Dv.loose
  rw [List.mem_filter, List.mem_range]
  simp
theorem Dv.loose_nodup (M : Dv) : M.loose.Nodup := List.nodup_range.filter _
theorem take_not_mem {l : List Nat} (h : l.Nodup) (j : Nat) (hj : j < l.length) : l[j] ∉ l.take j := by
  intro hm
  obtain ⟨k, hk, he⟩ := List.getElem_of_mem hm
  rw [List.getElem_take] at he
  have hkj : k < j := by simp at hk; omega
  exact (List.pairwise_iff_getElem.1 h k j (by omega) hj hkj) he
theorem mem_take_succ {l : List Nat} (j : Nat) (hj : j < l.length) (i : Nat) : i ∈ l.take (j + 1) ↔ i ∈ l.take j ∨ i = l[j] := by
  rw [List.take_succ_eq_append_getElem hj, List.mem_append, List.mem_singleton]
theorem Dv.after_settle {M : Dv} (gf : Nat → List UInt8) {l : List Nat} (hl : l.Nodup) (j : Nat) (hj : j < l.length) (k : Nat) (hk : k ≤ (M.row l[j]).length)
    (hg : gf l[j] = if k = 0 then M.dur l[j] else (M.row l[j]).getD (k - 1) []) : ((M.after (l.take j) gf).settle l[j] k).dur = (M.after (l.take (j + 1)) gf).dur := by
  have hn := take_not_mem hl j hj
  unfold Dv.settle
  simp only
  rw [Dv.after_row hn]
  have hd : (M.after (l.take j) gf).dur l[j] = M.dur l[j] := by simp [Dv.after, hn]
  rw [hd, ← hg]
  funext i
  by_cases e : i = l[j]
  · subst e
    simp only [upd_same, Dv.after, mem_take_succ j hj, or_true, if_true]
  · rw [upd_other _ _ e]
    simp only [Dv.after, mem_take_succ j hj, e, or_false]
theorem Dv.after_drop {M : Dv} (gf : Nat → List UInt8) {l : List Nat} (hl : l.Nodup) (j : Nat) (hj : j < l.length) : upd (M.after (l.take j) gf).row l[j] [] = (M.after (l.take (j + 1)) gf).row := by
  funext i
  by_cases e : i = l[j]
  · subst e
    simp only [upd_same, Dv.after, mem_take_succ j hj, or_true, if_true]
  · rw [upd_other _ _ e]
    simp only [Dv.after, mem_take_succ j hj, e, or_false]
theorem Dv.after_full {M : Dv} (gf : Nat → List UInt8) {l : List Nat} (hl : l.Nodup) (j : Nat) (hj : j < l.length) (hg : gf l[j] = M.cur l[j]) (hne : M.row l[j] ≠ []) :
    (M.after (l.take j) gf).settle l[j] (M.row l[j]).length = M.after (l.take (j + 1)) gf := by
  have hlen := List.length_pos_iff.2 hne
  have h1 := Dv.after_settle (M := M) gf hl j hj (M.row l[j]).length (Nat.le_refl _) (by
    rw [if_neg (by omega), hg, Dv.cur_row hne, List.getD_eq_getElem?_getD, List.getElem?_eq_getElem (by omega)]; rfl)
  have h2 := Dv.after_drop (M := M) gf hl j hj
  have hn := take_not_mem hl j hj
  have h3 : ((M.after (l.take j) gf).settle l[j] (M.row l[j]).length).row = (M.after (l.take (j + 1)) gf).row := by
    unfold Dv.settle
    simp only
    rw [Dv.after_row hn, List.drop_length]
    exact h2
  have e : ∀ (A B : Dv), A.n = B.n → A.dur = B.dur → A.row = B.row → A.wr = B.wr → A.left = B.left → A.down = B.down → A = B := by
    rintro ⟨⟩ ⟨⟩ rfl rfl rfl rfl rfl rfl; rfl
  exact e _ _ rfl h1 h3 rfl rfl rfl
theorem Dv.after_flush (M : Dv) (h : Fine M) : M.after M.loose M.cur = M.flush := by
  unfold Dv.after Dv.flush
  have h1 : (fun i => if i ∈ M.loose then M.cur i else M.dur i) = M.cur := by
    funext i
    by_cases e : i ∈ M.loose
    · rw [if_pos e]
    · rw [if_neg e]
      by_cases hr : M.row i = []
      · exact (Dv.cur_nil hr).symm
      · exact absurd (Dv.mem_loose.2 ⟨h.out i hr, hr⟩) e
  have h2 : (fun i => if i ∈ M.loose then [] else M.row i) = fun _ => ([] : List (List UInt8)) := by
    funext i
    by_cases e : i ∈ M.loose
    · rw [if_pos e]
    · rw [if_neg e]
      by_cases hr : M.row i = []
      · exact hr
      · exact absurd (Dv.mem_loose.2 ⟨h.out i hr, hr⟩) e
  rw [h1, h2]
theorem cell_same {W W' : World} {k : Nat} (j : Nat) (h : W'.heap[k]? = W.heap[k]?) : W'.cell? ⟨k, j, none⟩ = W.cell? ⟨k, j, none⟩ := World.cell?_of_block (a := ⟨k, j, none⟩) h
def During (S : Nat → Prop) (w : World) (b g c m : Nat) (N : Dv) (W : World) : Prop := (∃ vals, DevIn S W b g c m vals N) ∧ Only S w W
theorem During.put {S : Nat → Prop} {w : World} {b g c m : Nat} {N : Dv} {W : World} (h : During S w b g c m N W) (hlt : ∀ k, S k → k < w.heap.size) (l : Nat) (o : Obj) (hl : w.heap.size ≤ l) : During S w b g c m N (W.putObj l o) := by
  obtain ⟨⟨vals, hd⟩, ho⟩ := h
  have hk : ∀ k, k ≠ l → (W.putObj l o).heap[k]? = W.heap[k]? := fun k hk => World.putObj_heap_other hk
  exact ⟨⟨vals, hd.kept (by simp) (fun k hS => hk k (by have := hlt k hS; omega))⟩, ⟨ho.os, ho.tape, ho.output, by simpa using ho.size, fun k hkl hS => (hk k (by omega)).trans (ho.block k hkl hS)⟩⟩
theorem During.below {S : Nat → Prop} {w : World} {b g c m : Nat} {N : Dv} {W W' : World} (h : During S w b g c m N W) (hb : Below W.heap.size W W') : During S w b g c m N W' := by
  obtain ⟨⟨vals, hd⟩, ho⟩ := h
  exact ⟨⟨vals, hd.kept hb.size (fun k hS => hb.block k (hd.lt k hS))⟩, ho.trans (Only.of_below (S := S) hb) (fun _ e => .inl e)⟩
set_option maxRecDepth 100000 in
set_option maxHeartbeats 2000000 in
theorem flush_any {S : Nat → Prop} {W : World} {b : Nat} {M : Dv} (h : DevAt S W b M) (hd : M.down = false) (hw : M.wr ≤ 1099511627776) :
    Calls Tryz.prog 78 #[devp b] W fun e w' => e = .returned (.int .i64 0) ∧ Step S W b M.flush w' := by
  have h1 := h.down_cell hd
  obtain ⟨g, c, m, vals, hI⟩ := h
  refine (callsIn_wide (n := 8)).1 ?_
  refine callsIn_of_wp_marks Tryz.func78 rfl trivial ?_ rfl
  simp only [Tryz.ntmps78, List.size_toArray, List.length_cons, List.length_nil, Nat.reduceAdd, Nat.reduceSub, Array.replicate_succ, Array.replicate_zero, List.push_toArray, List.append_toArray, List.nil_append, List.cons_append]
  have HI := Lib.hid hI
  clear hI
  have h1a : (W.alloc (.cells #[devp b] 28)).cell? ⟨b, 1, none⟩ = some (.bool false) := by
    rw [World.cell?_alloc_lt _ _ _ (World.block_lt_of_cell? W _ h1)]; exact h1
  gi_wp2_with fail
  refine ⟨trivial, (callsIn_wide.2 (works_any b false _ h1a)).mono ?_⟩
  rintro e w1 ⟨rfl, rfl⟩
  gi_wp2_with fail
  refine ⟨trivial, (callsIn_wide.2 (loose_any _ _)).mono ?_⟩
  rintro e w2 ⟨rfl, rfl⟩
  gi_wp2_with fail
  obtain ⟨W0, hW0⟩ : ∃ W0, (W.alloc (.cells #[devp b] 28)).alloc (.cells #[devp b] 28) = W0 := ⟨_, rfl⟩
  have hs0 : W0.heap.size = W.heap.size + 2 := by rw [← hW0]; simp
  have hB0 : Below W.heap.size W W0 := by rw [← hW0]; exact ((Below.refl _ W).alloc (Nat.le_refl _) _).alloc (by simp) _
  have hc1 : W0.cell? ⟨W.heap.size, 0, none⟩ = some (devp b) := by
    rw [← hW0, World.cell?_alloc_lt _ _ _ (by simp)]; exact cell_new_l W _ _
  have hc2 : W0.cell? ⟨W.heap.size + 1, 0, none⟩ = some (devp b) := by
    have := cell_new_l (W.alloc (.cells #[devp b] 28)) (devp b) 28
    rw [hW0] at this
    simpa using this
  rw [hW0]
  have hI := HI.out
  have hlt0 : ∀ k, S k → k < W0.heap.size := fun k hk => by have := hI.lt k hk; omega
  have hD0 : DevIn S W0 b g c m vals M := hI.kept hB0.size (fun k hk => hB0.block k (hI.lt k hk))
  have hbox : ∀ (N : Dv) (V : World), During S W0 b g c m N V → V.cell? ⟨W.heap.size, 0, none⟩ = some (devp b) ∧ V.cell? ⟨W.heap.size + 1, 0, none⟩ = some (devp b) ∧ V.cell? ⟨b, 3, none⟩ = some (.map (some m)) := by
    rintro N V ⟨⟨vals', hd'⟩, ho⟩
    have hno : ∀ k, W.heap.size ≤ k → ¬ S k := fun k hk hs => by have := hI.lt k hs; omega
    exact ⟨(cell_same 0 (ho.block _ (by omega) (hno _ (Nat.le_refl _)))).trans hc1, (cell_same 0 (ho.block _ (by omega) (hno _ (by omega)))).trans hc2, hd'.head.c3⟩
  have Hbox := Lib.hid hbox
  clear hbox hI
  refine range_told (n := 8) (by decide) (gf := 187) (lb := #[.pointer (some ⟨W.heap.size + 1, 0, none⟩)]) rfl (enters_of Tryz.func187 (by kernel_rfl) rfl) M.loose.length
    (fun j args V => ∃ v, args = #[.int .i64 ((M.loose.getD j 0 : Nat) : Int), v] ∧ (Instr.lookup 130 (.map (some m)) (.int .i64 ((M.loose.getD j 0 : Nat) : Int)) false).run Tryz.prog V = .ok v V)
    (fun p j V => During S W0 b g c m (M.after (M.loose.take j) M.cur) V) ?hit ?h0 ?hput
    (fun p j a' V => During S W0 b g c m (M.after (M.loose.take j) M.cur) V ∧ ∃ Br A cap, a' = { tmps := #[devp b, .pointer (some ⟨W.heap.size, 0, none⟩), .int .i64 0, .int .i64 (downErr false), .int .i64 ((M.loose.getD j 0 : Nat) : Int), .pointer (some ⟨Br, 0, none⟩), devp b, .int .i64 (downErr false), .int .i64 (downErr false), .bool false, undef, devp b, .func (.func 187) #[] #[.pointer (some ⟨W.heap.size + 1, 0, none⟩)], .int .i64 ((M.loose.getD j 0 : Nat) : Int), .agg #[.slice A (M.row (M.loose.getD j 0)).length cap], undef, undef, undef, undef, undef, undef], defers := [] } ∧
      W0.heap.size + 2 ≤ Br ∧ V.cell? ⟨Br, 0, none⟩ = some (.slice A (M.row (M.loose.getD j 0)).length cap)) ?hAx ?hassign ?hbody ?hdone
  case hit =>
    intro l J V hJI hst hrd hb
    have hV0 := hD0.kept hb.size (fun k hk => hb.block k (hlt0 k hk))
    have hV : During S W0 b g c m M V := ⟨⟨vals, hV0⟩, Only.of_below hb⟩
    obtain ⟨_, hbx, hb3⟩ := Hbox.out _ _ hV
    refine loose1_in l (W.heap.size + 1) b m M.n (entry M.row vals) V hbx hb3 hV0.ro.map hD0.fine.n M.loose (M.loose_keys vals) J (fun p j V' hJ => (Hbox.out _ _ (hJI p j V' hJ)).2) hst ?_
    intro p j hj V1 hJ
    have hD := hJI p j V1 hJ
    obtain ⟨⟨vals', hd'⟩, _⟩ := hD
    have hget : M.loose.getD j 0 = M.loose[j] := by rw [List.getD_eq_getElem?_getD, List.getElem?_eq_getElem hj]; rfl
    have hmem := (Dv.mem_loose (M := M)).1 (List.getElem_mem hj)
    obtain ⟨A, cap, hl, _⟩ := look_row hd' M.loose[j] hmem.1
    refine ⟨_, hl, hrd p j hj _ V1 hJ ⟨_, by rw [hget], by rw [hget]; exact hl⟩⟩
  case h0 =>
    intro p V hb _ _
    refine ⟨⟨vals, ?_⟩, Only.of_below hb⟩
    rw [List.take_zero, Dv.after_nil]
    exact hD0.kept hb.size (fun k hk => hb.block k (hlt0 k hk))
  case hput =>
    intro p j V l o hl _ h
    exact h.put hlt0 l o hl
  case hAx =>
    rintro p j a' V l o hl hl2 ⟨hD, Br, A, cap, rfl, hBr, hcell⟩
    refine ⟨hD.put hlt0 l o hl, Br, A, cap, rfl, hBr, ?_⟩
    exact (cell_same 0 (World.putObj_heap_other (by omega))).trans hcell
  case hassign =>
    rintro l p j args V hj hp1 hp2 hD ⟨v, rfl, hlk⟩
    refine ⟨rfl, ?_⟩
    have hget : M.loose.getD j 0 = M.loose[j] := by rw [List.getD_eq_getElem?_getD, List.getElem?_eq_getElem hj]; rfl
    have hmem := (Dv.mem_loose (M := M)).1 (List.getElem_mem hj)
    have hnot := take_not_mem M.loose_nodup j hj
    have hD' := hD
    obtain ⟨⟨vals', hd'⟩, ho⟩ := hD'
    obtain ⟨A, cap, hl, _⟩ := look_row hd' M.loose[j] hmem.1
    rw [Dv.after_row hnot] at hl
    rw [hget] at hlk ⊢
    have hv : v = .agg #[.slice A (M.row M.loose[j]).length cap] := by
      rw [hl] at hlk; injection hlk with h1 h2; exact h1.symm
    subst hv
    have HD := Lib.hid hD
    clear hD hlk hl ho hd' hget hmem hnot
    generalize (M.row M.loose[j]).length = q
    generalize M.loose[j] = x
    gi_wp2
    have hbl : Below V.heap.size V (V.alloc (.cells #[.slice A q cap] 222)) := (Below.refl _ V).alloc (Nat.le_refl _) _
    have hsz := HD.out.2.size
    exact ⟨KeepB.below hbl (by omega) hp2, HD.out.below hbl, V.heap.size, A, cap, rfl, by omega, cell_new_l V _ _⟩
  case hbody =>
    rintro l p j a' V hj hp1 hp2 ⟨hD, Br, A, cap, rfl, hBr, hcell⟩
    have hget : M.loose.getD j 0 = M.loose[j] := by rw [List.getD_eq_getElem?_getD, List.getElem?_eq_getElem hj]; rfl
    have hmem := (Dv.mem_loose (M := M)).1 (List.getElem_mem hj)
    have hnot := take_not_mem M.loose_nodup j hj
    obtain ⟨hb1, _, _⟩ := Hbox.out _ _ hD
    obtain ⟨⟨vals', hd'⟩, ho⟩ := hD
    have hset := settle_any hd' hw M.loose[j] hmem.1 (M.row M.loose[j]).length (by rw [Dv.after_row hnot]; exact Nat.le_refl _)
    rw [Dv.after_full M.cur M.loose_nodup j hj rfl hmem.2] at hset
    rw [hget] at hcell ⊢
    have HS := Lib.hid hset
    have HO := Lib.hid ho
    clear hset hd' ho hget hmem hnot
    generalize (M.row M.loose[j]).length = q at hcell HS ⊢
    generalize M.loose[j] = x at HS ⊢
    gi_wp2_with fail
    refine ⟨trivial, (CallsIn.inRound l (callsIn_wide.2 HS.out)).mono ?_⟩
    rintro e V' ⟨rfl, vals2, hd2, ho2⟩
    gi_wp2
    have hno : ∀ k, W0.heap.size ≤ k → ¬ S k := fun k hk hs => by have := hlt0 k hs; omega
    have hsz := HO.out.size
    have hBrl : Br < V.heap.size := World.block_lt_of_cell? V _ hcell
    exact ⟨⟨ho2.block _ (by omega) (hno _ (Nat.le_refl _)), ho2.block _ (by omega) (hno _ (by omega)), ho2.block _ hp2 (hno _ (by omega))⟩, ⟨vals2, hd2⟩, HO.out.trans ho2 (fun _ e => .inl e)⟩
  case hdone =>
    intro p V hD hK
    rw [List.take_length, Dv.after_flush M hD0.fine] at hD
    have HD := Lib.hid hD
    clear hD
    gi_wp2
    refine ⟨by simp, .inl ⟨_, _, rfl, run_takeDeferred hK, ?_⟩⟩
    have hD2 := HD.out.put hlt0 W0.heap.size (.deferred none) (Nat.le_refl _)
    obtain ⟨⟨vals2, hd2⟩, ho2⟩ := hD2
    exact ⟨_, results_tmp rfl _ _ _, rfl, Step.of ⟨g, c, m, vals2, hd2⟩ ((Only.of_below (S := S) hB0).trans ho2 (fun _ e => .inl e))⟩
end Go.Proofs.YtnfiapjdkjbdhaaGreat
/- Layer 3 (dev): Crash. -/
namespace Go.Proofs.YtnfiapjdkjbdhaaGreat
open Go.RowKit Go.Maps Go.Shelf
set_option linter.unusedVariables false
set_option linter.unusedSimpArgs false
set_option maxRecDepth 10000
attribute [local go_sem] Oper.semAt_some
def Dv.kept (M : Dv) (keep : List UInt8) (i : Nat) : Nat := (keep.getD (M.loose.idxOf i) 0).toNat % ((M.row i).length + 1)
structure CrashI (S : Nat → Prop) (w : World) (b g c m Bk : Nat) (r : List UInt8) (N : Dv) (V : World) : Prop where
  dev : ∃ vals, DevIn S V b g c m vals N
  only : Only (fun k => S k ∨ k = Bk) w V
  cell : V.cell? ⟨Bk, 0, none⟩ = some (str r)
  free : V.frozen? ⟨Bk, 0, none⟩ = false
theorem CrashI.same {S : Nat → Prop} {w : World} {b g c m Bk : Nat} {r : List UInt8} {N : Dv} {V V' : World} (h : CrashI S w b g c m Bk r N V) (hlt : ∀ k, S k → k < w.heap.size) (hB : Bk < w.heap.size)
    (ho : V'.os = V.os) (ht : V'.tape = V.tape) (hu : V'.output = V.output) (hs : V.heap.size ≤ V'.heap.size) (hk : ∀ k, k < w.heap.size → V'.heap[k]? = V.heap[k]?) : CrashI S w b g c m Bk r N V' := by
  obtain ⟨⟨vals, hd⟩, hO, hc, hf⟩ := h
  exact ⟨⟨vals, hd.kept hs (fun k hS => hk k (hlt k hS))⟩, ⟨ho.trans hO.os, ht.trans hO.tape, hu.trans hO.output, Nat.le_trans hO.size hs, fun k hkl hn => (hk k hkl).trans (hO.block k hkl hn)⟩,
    (cell_same 0 (hk Bk hB)).trans hc, (World.frozen?_of_block (a := ⟨Bk, 0, none⟩) (hk Bk hB)).trans hf⟩
theorem CrashI.put {S : Nat → Prop} {w : World} {b g c m Bk : Nat} {r : List UInt8} {N : Dv} {V : World} (h : CrashI S w b g c m Bk r N V) (hlt : ∀ k, S k → k < w.heap.size) (hB : Bk < w.heap.size) (l : Nat) (o : Obj) (hl : w.heap.size ≤ l) : CrashI S w b g c m Bk r N (V.putObj l o) :=
  h.same hlt hB rfl rfl rfl (by simp) (fun k hk => World.putObj_heap_other (by omega))
theorem CrashI.below {S : Nat → Prop} {w : World} {b g c m Bk : Nat} {r : List UInt8} {N : Dv} {V V' : World} (h : CrashI S w b g c m Bk r N V) (hlt : ∀ k, S k → k < w.heap.size) (hB : Bk < w.heap.size) (hb : Below V.heap.size V V') : CrashI S w b g c m Bk r N V' :=
  h.same hlt hB hb.os hb.tape hb.output hb.size (fun k hk => hb.block k (Nat.lt_of_lt_of_le hk h.only.size))
end Go.Proofs.YtnfiapjdkjbdhaaGreat
