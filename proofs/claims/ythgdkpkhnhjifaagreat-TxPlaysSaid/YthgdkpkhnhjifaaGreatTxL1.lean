/- Layer 8 (tx): the statements' helpers. -/
import Derived.Test.YthgdkpkhnhjifaaGreatTxR3
namespace Go.Proofs.YthgdkpkhnhjifaaGreat
open Go.RowKit Go.Maps
set_option linter.unusedVariables false
set_option linter.unusedSimpArgs false
set_option maxRecDepth 10000
/-- A text of 64 bytes: s, again and again. -/
def fillT (s : List UInt8) (k : Nat) : List UInt8 := (List.range k).map (fun i => s.getD (i % s.length) 0) ++ List.replicate (64 - k) 0
def fullT (s : List UInt8) : List UInt8 := if s = [] then List.replicate 64 0 else fillT s 64
theorem fillT_length (s : List UInt8) (k : Nat) (h : k ≤ 64) : (fillT s k).length = 64 := by unfold fillT; simp; omega
theorem fullT_length (s : List UInt8) : (fullT s).length = 64 := by
  unfold fullT
  split
  · simp
  · exact fillT_length s 64 (Nat.le_refl _)
theorem fillT_set (s : List UInt8) (k : Nat) (h : k < 64) : (fillT s k).set k (s.getD (k % s.length) 0) = fillT s (k + 1) := by
  unfold fillT
  rw [List.range_succ, List.map_append]
  obtain ⟨m, hm⟩ : ∃ m, 64 - k = m + 1 := ⟨63 - k, by omega⟩
  rw [hm, show 64 - (k + 1) = m by omega, List.replicate_succ, List.set_append, if_neg (by simp)]
  simp
set_option maxHeartbeats 1000000 in
theorem full_any (s : List UInt8) (W : World) (hs : s.length ≤ 140737488351232) : Calls Tryz.prog 31 #[str s] W fun e w' => e = .returned (str (fullT s)) ∧ Below W.heap.size W w' := by
  have hmk : (Instr.makeSlice 63 (.int .i64 64) (.int .i64 64)).run Tryz.prog W = .ok (.slice (some ⟨W.heap.size, 0, none⟩) 64 64) (W.alloc (.cells (byteCells (List.replicate 64 0)) 5)) := make_noughts 64 (by omega) W
  have hg := heap_alloc_new W (.cells (byteCells (List.replicate 64 (0 : UInt8))) 5)
  have hby : Bytes (W.alloc (.cells (byteCells (List.replicate 64 0)) 5)) W.heap.size (List.replicate 64 0) := bytes_made hg
  have hcv := fun (V : World) (l : List UInt8) (hl : l.length = 64) (h : Bytes V W.heap.size l) => string_of_bytes (P := Tryz.prog) 63 9 5 Tryz.underlying63 Tryz.underlying5 Tryz.underlying9 V W.heap.size 64 l h
  have HC := Lib.hid hcv
  have HB0 := Lib.hid hby
  have hB := Lib.hid ((Below.refl W.heap.size W).alloc (Nat.le_refl _) (.cells (byteCells (List.replicate 64 0)) 5))
  clear hcv hby hg
  by_cases h0 : s = []
  · subst h0
    have hc := HC.out _ _ (by simp) HB0.out
    rw [List.length_replicate] at hc
    have hF : fullT [] = List.replicate 64 0 := rfl
    rw [hF]
    clear hF HB0
    generalize List.replicate 64 (0 : UInt8) = Z at *
    go_enter Tryz.func31, Tryz.ntmps31
    go_wp2_with fail
    go_loopw [4] (fun i wr => i = .int .i64 0 ∧ wr = W.alloc (.cells (byteCells Z) 5)) (fun i _ => 0)
    case atStart => exact ⟨rfl, rfl⟩
    case round =>
      obtain ⟨rfl, rfl⟩ := hrel
      go_wp2_with fail
      go_ret
      exact ⟨rfl, hB.out⟩
  · have hne : fullT s = fillT s 64 := if_neg h0
    have hpos : 0 < s.length := List.length_pos_iff.2 h0
    have hemp : s.isEmpty = false := by simpa using h0
    rw [hne]
    clear hne
    go_enter Tryz.func31, Tryz.ntmps31
    go_wp2_with fail
    go_loopw [4] (fun i wr => ∃ k : Nat, k ≤ 64 ∧ i = .int .i64 k ∧ Bytes wr W.heap.size (fillT s k) ∧ Below W.heap.size W wr) (fun i _ => 64 - (intOf i).toNat)
    case atStart => exact ⟨0, by omega, rfl, by simpa [fillT] using HB0.out, hB.out⟩
    case round =>
      obtain ⟨k, hk, rfl, hby, hb⟩ := hrel
      have HBy := Lib.hid hby
      have HBw := Lib.hid hb
      clear hb hby
      by_cases hlt : k < 64
      · have hset := fillT_set s k hlt
        have hlen := fillT_length s k hk
        obtain ⟨c, f⟩ := HBy.out k (by omega)
        have hm : k % s.length < s.length := Nat.mod_lt _ hpos
        have hmod : (k : Int).tmod (s.length : Int) = ((k % s.length : Nat) : Int) := by rw [← Int.ofNat_tmod]
        have hgd : s.getD (k % s.length) 0 = s[k % s.length] := by rw [List.getD_eq_getElem?_getD, List.getElem?_eq_getElem hm]; rfl
        rw [hgd] at hset
        have HS := Lib.hid hset
        clear hset hgd
        generalize (fillT s k)[k]'(by omega) = y at c
        go_wp2_with fail
        go_roundw
        case rel => exact ⟨k + 1, by omega, by simp, by rw [← HS.out]; exact HBy.out.set k _ _ rfl (by omega), HBw.out.setCell (by simp) _⟩
        case measure => simp [intOf]; omega
      · obtain rfl : k = 64 := by omega
        have hc := HC.out _ _ (fillT_length s 64 (Nat.le_refl _)) HBy.out
        rw [fillT_length s 64 (Nat.le_refl _)] at hc
        go_wp2_with fail
        go_ret
        exact ⟨rfl, HBw.out⟩
/-- A step of a script. -/
structure TSt where
  do_ : Int
  n : Int
  from_ : Int
  s : List UInt8
  raw : Bool
/-- What a step writes. -/
def TSt.text (x : TSt) : List UInt8 := if x.raw then x.s else fullT x.s
abbrev TSt.v (x : TSt) : Value := .agg #[.int .i64 x.do_, .int .i64 x.n, .int .i64 x.from_, str x.s, .bool x.raw]
theorem text_any (x : TSt) (W : World) (hs : x.s.length ≤ 140737488351232) : Calls Tryz.prog 23 #[x.v] W fun e w' => e = .returned (str x.text) ∧ Below W.heap.size W w' := by
  obtain ⟨a, b, c, s, raw⟩ := x
  have hnew := heap_alloc_new W (.cells #[.int .i64 a, .int .i64 b, .int .i64 c, str s, .bool raw] 41)
  have c3 := cell_of_row _ _ 3 _ _ _ hnew
  have c4 := cell_of_row _ _ 4 _ _ _ hnew
  cases raw
  · have HF := Lib.hid (full_any s (W.alloc (.cells #[.int .i64 a, .int .i64 b, .int .i64 c, str s, .bool false] 41)) hs)
    show Calls Tryz.prog _ #[.agg #[.int .i64 a, .int .i64 b, .int .i64 c, str s, .bool false]] W fun e w' => e = .returned (str (fullT s)) ∧ Below W.heap.size W w'
    go_enter Tryz.func23, Tryz.ntmps23
    go_wp2_with fail
    refine HF.out.mono ?_
    rintro e w1 ⟨rfl, hb⟩
    have HB := Lib.hid hb
    clear hb
    go_wp2_with fail
    go_ret
    exact ⟨rfl, ((Below.refl _ W).alloc (Nat.le_refl _) _).trans (HB.out.mono (by simp))⟩
  · show Calls Tryz.prog _ #[.agg #[.int .i64 a, .int .i64 b, .int .i64 c, str s, .bool true]] W fun e w' => e = .returned (str s) ∧ Below W.heap.size W w'
    go_enter Tryz.func23, Tryz.ntmps23
    go_wp2_with fail
    go_ret
    exact ⟨rfl, (Below.refl _ W).alloc (Nat.le_refl _) _⟩
/-- No sector of the area. -/
def oursB (L : PutL) : Bool := L.all fun p => decide (p.1 < 4) || decide (16 ≤ p.1)
theorem ours_any {W : World} {rb : Nat} {v u : Value} {L : PutL} {most : Nat} (h : RefIn W rb v u L most) : Calls Tryz.prog 19 #[u] W fun e w' => e = .returned (.bool (oursB L)) ∧ W = w' := by
  obtain ⟨A, c, rfl, -, -, hrow⟩ := h.row
  have hsm := h.small
  have HR := Lib.hid hrow
  clear h hrow
  go_enter Tryz.func19, Tryz.ntmps19
  go_wp2_with fail
  go_loopw [3] (fun q wr => ∃ k : Nat, k ≤ L.length ∧ q = .int .i64 k ∧ oursB (L.take k) = true ∧ W = wr) (fun q _ => L.length - (intOf q).toNat)
  case atStart => exact ⟨0, Nat.zero_le _, rfl, rfl, rfl⟩
  case round =>
    obtain ⟨k, hk, rfl, hall, rfl⟩ := hrel
    by_cases hlt : k < L.length
    · obtain ⟨g, rfl, r0, -⟩ := HR.out k hlt
      have hts : oursB (L.take (k + 1)) = (decide ((L[k]).1 < 4) || decide (16 ≤ (L[k]).1)) := by
        unfold oursB at hall ⊢
        rw [List.take_succ_eq_append_getElem hlt, List.all_append, hall]; simp
      have hbad : (decide ((L[k]).1 < 4) || decide (16 ≤ (L[k]).1)) = false → oursB L = false := fun e => by
        unfold oursB
        rw [List.all_eq_false]
        exact ⟨L[k], List.getElem_mem _, by rw [e]; decide⟩
      have HT := Lib.hid hts
      have HBd := Lib.hid hbad
      clear hts hbad hall
      generalize (L[k]).1 = x at *
      have hI : (k : Int) < (L.length : Int) := by omega
      by_cases h4 : x < 4
      · have d1 : decide ((4 : Int) ≤ (x : Int)) = false := decide_eq_false (by omega)
        go_wp2_with fail
        go_roundw
        case rel => exact ⟨k + 1, by omega, by simp, by rw [HT.out, decide_eq_true h4]; rfl, by trivial⟩
        case measure => simp [intOf]; omega
      · have d1 : decide ((4 : Int) ≤ (x : Int)) = true := decide_eq_true (by omega)
        by_cases h16 : x < 16
        · have d2 : decide ((x : Int) < 16) = true := decide_eq_true (by omega)
          have hb := HBd.out (by rw [decide_eq_false h4, decide_eq_false (by omega)]; rfl)
          have HBb := Lib.hid hb
          clear hb
          go_wp2_with fail
          go_ret
          exact ⟨congrArg (fun b => Ending.returned (.bool b)) HBb.out.symm, rfl⟩
        · have d2 : decide ((x : Int) < 16) = false := decide_eq_false (by omega)
          go_wp2_with fail
          go_roundw
          case rel => exact ⟨k + 1, by omega, by simp, by rw [HT.out, decide_eq_true (show 16 ≤ x by omega), Bool.or_true], by trivial⟩
          case measure => simp [intOf]; omega
    · obtain rfl : k = L.length := by omega
      rw [List.take_length] at hall
      have HA := Lib.hid hall
      clear hall
      go_wp2_with fail
      go_ret
      exact ⟨congrArg (fun b => Ending.returned (.bool b)) HA.out.symm, rfl⟩
set_option maxHeartbeats 1000000 in
/-- Rows that are the same but for the area; or that aren't. -/
theorem outside_any (N : Nat) (f g : Nat → List UInt8) (v u : Value) (w : World) (hv : Txt w v (secs N f)) (hu : Txt w u (secs N g)) (hN : N ≤ 4096) :
    Calls Tryz.prog 26 #[v, u] w fun e w' => (∃ r, e = .returned (.bool r) ∧ ((∀ i, i < N → (i < 4 ∨ 16 ≤ i) → f i = g i) → r = true)) ∧ Below w.heap.size w w' := by
  obtain ⟨A, c, rfl, hA⟩ := hv.at
  obtain ⟨B, d, rfl, hB⟩ := hu.at
  rw [secs_length, secs_length]
  have HA := Lib.hid hA
  have HB := Lib.hid hB
  clear hv hu hA hB
  go_enter Tryz.func26, Tryz.ntmps26
  go_wp2_with fail
  go_loopw [5] (fun q wr => ∃ k : Nat, k ≤ N ∧ q = .int .i64 k ∧ Below w.heap.size w wr) (fun q _ => N - (intOf q).toNat)
  case atStart => exact ⟨0, Nat.zero_le _, rfl, Below.refl _ _⟩
  case round =>
    obtain ⟨k, hk, rfl, hb⟩ := hrel
    by_cases hlt : k < N
    · obtain ⟨g1, rfl, r0⟩ := HA.out k (by rw [secs_length]; exact hlt)
      obtain ⟨g2, rfl, r1⟩ := HB.out k (by rw [secs_length]; exact hlt)
      rw [secs_get] at r0 r1
      have q0 := (hb.cell (World.block_lt_of_cell? w _ r0)).trans r0
      have q1 := (hb.cell (World.block_lt_of_cell? w _ r1)).trans r1
      clear r0 r1
      have hI : (k : Int) < (N : Int) := by omega
      have HBw := Lib.hid hb
      clear hb
      by_cases he : f k = g k
      · rw [he] at q0
        generalize g k = s at *
        clear he
        go_wp2_with fail
        go_quiet (fail)
        go_wp2_with fail
        go_roundw
        case rel => exact ⟨k + 1, by omega, by simp, below_drewN HBw.out _⟩
        case measure => simp [intOf]; omega
      · by_cases hin : 4 ≤ k ∧ k < 16
        · have c1 : decide ((k : Int) < 4) = false := decide_eq_false (by omega)
          have c2 : decide ((16 : Int) ≤ (k : Int)) = false := decide_eq_false (by omega)
          have c3 : decide (k < 4) = false := decide_eq_false (by omega)
          have c4 : decide (16 ≤ k) = false := decide_eq_false (by omega)
          generalize f k = s at *
          generalize g k = t at *
          go_wp2_with fail
          go_quiet (fail)
          go_wp2_with fail
          go_roundw
          case rel => exact ⟨k + 1, by omega, by simp, below_drewN HBw.out _⟩
          case measure => simp [intOf]; omega
        · have hno : ¬ ∀ i, i < N → (i < 4 ∨ 16 ≤ i) → f i = g i := fun h => he (h k hlt (by omega))
          have HN := Lib.hid hno
          clear hno
          by_cases h4 : k < 4
          · have c1 : decide ((k : Int) < 4) = true := decide_eq_true (by omega)
            have c3 : decide (k < 4) = true := decide_eq_true (by omega)
            generalize f k = s at *
            generalize g k = t at *
            have he2 : (s == t) = false := by simpa using he
            go_wp2_with fail
            go_quiet (fail)
            go_wp2_with fail
            go_ret
            exact ⟨⟨_, rfl, fun h => absurd h HN.out⟩, below_drewN HBw.out _⟩
          · have c1 : decide ((k : Int) < 4) = false := decide_eq_false (by omega)
            have c2 : decide ((16 : Int) ≤ (k : Int)) = true := decide_eq_true (by omega)
            have c3 : decide (k < 4) = false := decide_eq_false (by omega)
            have c4 : decide (16 ≤ k) = true := decide_eq_true (by omega)
            generalize f k = s at *
            generalize g k = t at *
            have he2 : (s == t) = false := by simpa using he
            go_wp2_with fail
            go_quiet (fail)
            go_wp2_with fail
            go_ret
            exact ⟨⟨_, rfl, fun h => absurd h HN.out⟩, below_drewN HBw.out _⟩
    · obtain rfl : k = N := by omega
      have HBw := Lib.hid hb
      clear hb
      go_wp2_with fail
      go_ret
      exact ⟨⟨_, rfl, fun _ => rfl⟩, HBw.out⟩
end Go.Proofs.YthgdkpkhnhjifaaGreat
