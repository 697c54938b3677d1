import Derived.Test.YtnfiapjdkjbdhaaGreatX5
namespace Go.Proofs.YtnfiapjdkjbdhaaGreat
open Go.RowKit Go.Maps
set_option linter.unusedVariables false
set_option linter.unusedSimpArgs false
set_option maxRecDepth 10000
def castL (l : PutL) : PutI := l.map fun p => ((p.1 : Int), p.2)
theorem castL_length (l : PutL) : (castL l).length = l.length := by simp [castL]
theorem castL_at (l : PutL) (k : Nat) (h : k < l.length) : (castL l)[k]? = some ((l[k].1 : Int), l[k].2) := by simp [castL, h]
theorem castL_snoc (l : PutL) (p : Nat × List UInt8) : castL (l ++ [p]) = castL l ++ [((p.1 : Int), p.2)] := by simp [castL]
def posOf (acc : PutL) (i : Nat) : Option Value := if i ∈ acc.map (·.1) then some (.int .i64 ((acc.map (·.1)).idxOf i : Nat)) else none
theorem posOf_have (acc : PutL) (p : Nat × List UInt8) (h : p.1 ∈ acc.map (·.1)) : posOf (putIn acc p) = posOf acc := by
  unfold posOf
  have := putIn_keys acc p
  rw [if_pos h] at this
  rw [this]
theorem idx_new (l : List Nat) (a : Nat) (h : a ∉ l) : (l ++ [a]).idxOf a = l.length := by
  induction l with
  | nil => simp
  | cons b r ih =>
    have h1 : b ≠ a := fun e => h (by simp [e])
    rw [List.cons_append, List.idxOf_cons, show (b == a) = false by simpa using h1]
    simp only [List.length_cons, cond_false]
    rw [ih (fun hm => h (by simp [hm]))]
theorem idx_old (l : List Nat) (a i : Nat) (h : i ∈ l) : (l ++ [a]).idxOf i = l.idxOf i := by
  induction l with
  | nil => cases h
  | cons b r ih =>
    rw [List.cons_append, List.idxOf_cons, List.idxOf_cons]
    by_cases e : b = i
    · simp [e]
    · have e' : (b == i) = false := by simpa using e
      rw [e']
      simp only [cond_false, Bool.false_eq_true, if_false]
      rw [ih (by rcases List.mem_cons.1 h with h | h; exact absurd h.symm e; exact h)]
theorem posOf_new (acc : PutL) (p : Nat × List UInt8) (h : p.1 ∉ acc.map (·.1)) : posOf (putIn acc p) = upd (posOf acc) p.1 (some (.int .i64 (acc.length : Int))) := by
  have hk := putIn_keys acc p
  rw [if_neg h] at hk
  funext i
  unfold upd posOf
  rw [hk]
  by_cases e : i = p.1
  · subst e
    rw [if_pos (by simp), if_pos rfl, idx_new _ _ h]
    simp
  · rw [if_neg e]
    by_cases hm : i ∈ acc.map (·.1)
    · rw [if_pos (by simp only [List.mem_append]; exact .inl hm), idx_old _ _ _ hm]
      exact (if_pos hm).symm
    · rw [if_neg (by simp only [List.mem_append, List.mem_singleton]; rintro (h | h); exact hm h; exact e h)]
      exact (if_neg hm).symm
theorem idx_get (acc : PutL) (a : Nat) (h : a ∈ acc.map (·.1)) : ∃ hlt : (acc.map (·.1)).idxOf a < acc.length, (acc[(acc.map (·.1)).idxOf a]).1 = a := by
  induction acc with
  | nil => cases h
  | cons q r ih =>
    have hi : (((q :: r) : PutL).map (·.1)).idxOf a = if q.1 = a then 0 else (r.map (·.1)).idxOf a + 1 := by
      rw [List.map_cons, List.idxOf_cons]
      by_cases e : q.1 = a
      · simp [e]
      · rw [show (q.1 == a) = false by simpa using e, if_neg e]; rfl
    by_cases e : q.1 = a
    · rw [if_pos e] at hi
      refine ⟨by rw [hi]; simp, ?_⟩
      have : ∀ k (hk : k < (q :: r).length), k = 0 → ((q :: r)[k]).1 = a := by rintro k hk rfl; exact e
      exact this _ _ hi
    · rw [if_neg e] at hi
      rw [List.map_cons, List.mem_cons] at h
      obtain ⟨h1, h2⟩ := ih (by rcases h with h | h; exact absurd h.symm e; exact h)
      refine ⟨by rw [hi]; simpa using h1, ?_⟩
      have : ∀ k (hk : k < (q :: r).length), k = (r.map (·.1)).idxOf a + 1 → ((q :: r)[k]).1 = a := by rintro k hk rfl; exact h2
      exact this _ _ hi
theorem putIn_set (acc : PutL) (p : Nat × List UInt8) (hn : (acc.map (·.1)).Nodup) (h : p.1 ∈ acc.map (·.1)) : putIn acc p = acc.set ((acc.map (·.1)).idxOf p.1) p := by
  unfold putIn
  rw [if_pos h]
  obtain ⟨hlt, hat⟩ := idx_get acc p.1 h
  apply List.ext_getElem
  · simp
  · intro j h1 h2
    rw [List.getElem_map, List.getElem_set]
    by_cases e : (acc.map (·.1)).idxOf p.1 = j
    · subst e
      rw [if_pos hat, if_pos rfl]
    · rw [if_neg e]
      have hj : j < acc.length := by simpa using h1
      have hne : (acc[j]).1 ≠ p.1 := by
        intro e2
        have hp := List.pairwise_iff_getElem.1 (List.nodup_iff_pairwise_ne.1 hn)
        rcases Nat.lt_or_gt_of_ne e with h3 | h3
        · exact hp _ _ (by simpa using hlt) (by simpa using hj) h3 (by simp [hat, e2])
        · exact hp _ _ (by simpa using hj) (by simpa using hlt) h3 (by simp [hat, e2])
      rw [if_neg hne]
theorem putC_set (l : PutI) (k : Nat) (h : k < l.length) (p : Int × List UInt8) : ((putC l).set (k * 2) (.int .i64 p.1)).set (k * 2 + 1) (str p.2) = putC (l.set k p) := by
  induction l generalizing k with
  | nil => simp at h
  | cons q r ih =>
    have hc : ∀ (q : Int × List UInt8) r, putC (q :: r) = .int .i64 q.1 :: str q.2 :: putC r := fun q r => by simp [putC]
    rw [hc]
    cases k with
    | zero => rfl
    | succ k =>
      rw [List.set_cons_succ, hc, show (k + 1) * 2 = k * 2 + 1 + 1 by omega, ← ih k (by simpa using h)]
      rfl
theorem zeroInt (W : World) : (zeroValue 3).run Tryz.prog W = .ok (.int .i64 0) W := by kernel_rfl
set_option maxHeartbeats 1000000 in
theorem lasting_any (v : Value) (l : PutL) (n : Nat) (w : World) (hl : ∀ p ∈ l, p.1 < n) (hn : n ≤ 4096) (hlen : l.length ≤ 4096) (h : Puts w v (castL l)) :
    Calls Tryz.prog 125 #[v] w fun e w' => ∃ v', e = .returned v' ∧ OwnP w' w.heap.size v' (castL (lastL l)) ∧ Below w.heap.size w w' := by
  have HP := Lib.hid h
  obtain ⟨A, c, rfl, hc⟩ := h
  have HC := Lib.hid hc
  have HL := Lib.hid hl
  clear hc hl
  rw [castL_length] at *
  have hmm := @run_makeMap Tryz.prog
  go_enter Tryz.func125, Tryz.ntmps125
  go_wp2_with fail
  clear hmm
  go_loopw [3, 12] (fun v i wr => ∃ k : Nat, k ≤ l.length ∧ i = .int .i64 k ∧ OwnP wr (w.heap.size + 1) v (castL (lastL (l.take k))) ∧ IMap Tryz.prog 3 wr w.heap.size n (posOf (lastL (l.take k))) ∧ Below w.heap.size w wr ∧ w.heap.size + 1 ≤ wr.heap.size) (fun _ i _ => l.length - (Go.RowKit.intOf i).toNat)
  case atStart =>
    refine ⟨0, Nat.zero_le _, rfl, World.ownsRow_nil _ _ _ _, ?_, (Below.refl _ _).alloc (Nat.le_refl _) _, by simp⟩
    exact (IMap.made w Tryz.prog 3 n).congr fun i _ => by simp [posOf, lastL]
  case round =>
    obtain ⟨k, hk, rfl, hown, hmap, hb, hsz⟩ := hrel
    by_cases hlt : k < l.length
    · obtain ⟨a, rfl, h1, h2⟩ := HC.out k _ (castL_at l k hlt)
      have hkn := HL.out l[k] (List.getElem_mem _)
      have hts : lastL (l.take (k + 1)) = putIn (lastL (l.take k)) l[k] := by rw [List.take_succ_eq_append_getElem hlt, lastL_snoc]
      have hnd := lastL_nodup (l.take k)
      have hll : (lastL (l.take k)).length ≤ k := by have := lastL_length (l.take k); rw [List.length_take] at this; omega
      have HT := Lib.hid hts
      clear hts
      unfold behind at h2
      have hd1 : wr.cell? (a.add (k * 2)) = some (.int .i64 (l[k].1 : Int)) := (hb.cell (World.block_lt_of_cell? w _ h1)).trans h1
      have hd2 : wr.cell? ⟨(a.add (k * 2)).block, (a.add (k * 2)).off + 1, none⟩ = some (str l[k].2) := (hb.cell (World.block_lt_of_cell? w _ h2)).trans h2
      clear h1 h2
      generalize lastL (l.take k) = acc at *
      generalize l[k] = q at *
      obtain ⟨s, d⟩ := q
      obtain ⟨A2, c2, rfl, -⟩ := hown.puts
      rw [castL_length] at *
      obtain ⟨W1, hW1⟩ : ∃ W1, W1 = wr.alloc (.cells #[.int .i64 (s : Int), str d] 117) := ⟨_, rfl⟩
      have hs1 : W1.heap.size = wr.heap.size + 1 := by rw [hW1]; simp
      have hbl1 : ∀ k, k < wr.heap.size → W1.heap[k]? = wr.heap[k]? := fun k hk => by rw [hW1]; exact Below.heap_alloc wr _ k hk
      have hnew1 := heap_alloc_new wr (.cells #[.int .i64 (s : Int), str d] 117)
      rw [← hW1] at hnew1
      have hm1 := hmap.kept (hbl1 w.heap.size (by omega))
      have hown1 : OwnP W1 (w.heap.size + 1) (.slice A2 acc.length c2) (castL acc) := by rw [hW1]; exact hown.alloc _
      have hB1 : Below w.heap.size w W1 := by rw [hW1]; exact hb.alloc (by omega) _
      have hlook := hm1.look2 (t := 272) Tryz.underlying3 Tryz.underlying272 (zeroInt _) (by omega) hkn
      have hallc : wr.alloc (.cells #[.int .i64 (s : Int), str d] 117) = W1 := hW1.symm
      have k0 : W1.cell? ⟨wr.heap.size, 0, none⟩ = some (.int .i64 (s : Int)) := by unfold World.cell?; rw [hnew1]; rfl
      have k1 : W1.cell? ⟨wr.heap.size, 1, none⟩ = some (str d) := by unfold World.cell?; rw [hnew1]; rfl
      by_cases hmem : s ∈ acc.map (·.1)
      · have hpos : posOf acc s = some (.int .i64 ((acc.map (·.1)).idxOf s : Nat)) := if_pos hmem
        obtain ⟨hilt, -⟩ := idx_get acc s hmem
        have hset := putIn_set acc (s, d) hnd hmem
        have hph := posOf_have acc (s, d) hmem
        simp only at hset
        generalize (acc.map (·.1)).idxOf s = q at hpos hilt hset
        rw [hpos] at hlook
        have hne : acc ≠ [] := by rintro rfl; simp at hilt
        have hex : ∃ g cap, A2 = some ⟨g, 0, none⟩ ∧ w.heap.size + 1 ≤ g ∧ g < W1.heap.size ∧ c2 = cap := by
          rcases hown1.2 with ⟨h0, h1⟩ | ⟨g, cap, cur, hv, hbg, hg, _⟩
          · rw [castL_length] at h1
            omega
          · injection hv with hv1 hv2 hv3
            exact ⟨g, cap, hv1, hbg, (Array.getElem?_eq_some_iff.1 hg).1, hv3⟩
        obtain ⟨g, cap, rfl, hgb, hgl, rfl⟩ := hex
        have hown1' : W1.ownsRow (w.heap.size + 1) 117 2 (.slice (some ⟨g, 0, none⟩) (castL acc).length c2) (castL acc).length (putC (castL acc)) := by rw [castL_length]; rw [OwnP, castL_length] at hown1; exact hown1
        have hcl := castL_length acc
        obtain ⟨e1, e2⟩ := putC_at (castL acc) q (by rw [hcl]; exact hilt)
        have r0 := (hown1'.cellAt (q * 2) (by rw [hcl]; omega)).trans e1
        have r1 := (hown1'.cellAt (q * 2 + 1) (by rw [hcl]; omega)).trans e2
        have f0 := hown1'.frozenAt (q * 2)
        have f1 := hown1'.frozenAt (q * 2 + 1)
        obtain ⟨st1, gr1⟩ := hown1'.stored (q * 2) (.int .i64 (s : Int))
        obtain ⟨st2, gr2⟩ := st1.stored (q * 2 + 1) (str d)
        rw [putC_set (castL acc) q (by rw [hcl]; exact hilt) ((s : Int), d)] at st2
        have hI1 : (q : Int) < (acc.length : Int) := by omega
        have hm2 := (hm1.kept (gr1.block w.heap.size (by omega) (by simp; omega))).kept (gr2.block w.heap.size (by have := gr1.size; omega) (by simp; omega))
        have hfin : OwnP ((W1.setCell ⟨g, q * 2, none⟩ (.int .i64 (s : Int))).setCell ⟨g, q * 2 + 1, none⟩ (str d)) (w.heap.size + 1) (.slice (some ⟨g, 0, none⟩) acc.length c2) (castL (acc.set q (s, d))) := by
          have hcs : castL (acc.set q (s, d)) = (castL acc).set q ((s : Int), d) := by simp [castL, List.map_set]
          show World.ownsRow _ _ _ _ _ _ _
          rw [hcs, List.length_set, castL_length]
          rw [castL_length] at st2
          exact st2
        have HF := Lib.hid hfin
        have HM := Lib.hid hm2
        have HB := Lib.hid ((hB1.setCell (p := ⟨g, q * 2, none⟩) (show w.heap.size ≤ g by omega) (.int .i64 (s : Int))).setCell (p := ⟨g, q * 2 + 1, none⟩) (show w.heap.size ≤ g by omega) (str d))
        clear hfin hm2 st1 st2 gr1 gr2 hown1' hown1 hm1 hnew1 hown hmap hb hbl1 hB1 hW1
        have hset2 := Lib.hid hset
        clear hset
        go_wp2_with fail
        go_roundw
        case rel => exact ⟨k + 1, by omega, by simp, by rw [HT.out, hset2.out]; exact HF.out, by rw [HT.out, hph]; exact HM.out, HB.out, by have h3 : W1.heap.size = wr.heap.size + 1 := hs1; simp only [World.size_setCell]; omega⟩
        case measure => simp [Go.RowKit.intOf]; omega
      · have hpos : posOf acc s = none := if_neg hmem
        have hpn := posOf_new acc (s, d) hmem
        have hin : putIn acc (s, d) = acc ++ [(s, d)] := if_neg hmem
        obtain ⟨W2, hup, hm2, hg2⟩ := hm1.store (t := 272) Tryz.underlying3 Tryz.underlying272 (by omega) hkn (.int .i64 (acc.length : Int))
        have hown2 := hown1.kept hg2 (.inr fun e => by have := (hown1.lt _ e).1; omega)
        have q0 : W2.cell? ⟨wr.heap.size, 0, none⟩ = some (.int .i64 (s : Int)) := (World.cell?_of_block (a := ⟨wr.heap.size, 0, none⟩) (hg2.block wr.heap.size (by omega) (by simp; omega))).trans k0
        have q1 : W2.cell? ⟨wr.heap.size, 1, none⟩ = some (str d) := (World.cell?_of_block (a := ⟨wr.heap.size, 1, none⟩) (hg2.block wr.heap.size (by omega) (by simp; omega))).trans k1
        have hs2 := hg2.size
        obtain ⟨W3, hW3⟩ : ∃ W3, W3 = W2.alloc (.cells #[.int .i64 (s : Int), str d] 117) := ⟨_, rfl⟩
        have hnew3 := heap_alloc_new W2 (.cells #[.int .i64 (s : Int), str d] 117)
        rw [← hW3] at hnew3
        have hs3 : W3.heap.size = W2.heap.size + 1 := by rw [hW3]; simp
        obtain ⟨v', W4, hap, hown4, hB4, -, hg4, -⟩ := append_put W3 (w.heap.size + 1) (w.heap.size + 1) _ (castL acc) ((s : Int), d) (by rw [hW3]; exact World.ownsRow.alloc hown2 _) W2.heap.size 1 (by unfold World.cell?; rw [hnew3]; rfl) (by unfold World.cell?; rw [hnew3]; rfl) (by rw [castL_length]; omega) (by omega) (by omega) (fun k hk => (hown1.lt k hk).1)
        rw [hW3] at hap
        rw [hpos] at hlook
        have hB2 : Below w.heap.size w W2 := ⟨hg2.os.trans hB1.os, hg2.tape.trans hB1.tape, hg2.output.trans hB1.output, Nat.le_trans hB1.size hg2.size, fun k hk => (hg2.block k (by omega) (by simp; omega)).trans (hB1.block k hk)⟩
        have hB3 : Below w.heap.size w W3 := by rw [hW3]; exact hB2.alloc (by omega) _
        have hm4 : IMap Tryz.prog 3 W4 w.heap.size n (upd (posOf acc) s (some (.int .i64 (acc.length : Int)))) := hm2.kept ((hB4.block _ (by omega)).trans (by rw [hW3]; exact Below.heap_alloc W2 _ _ (by omega)))
        have hfin : OwnP W4 (w.heap.size + 1) v' (castL (acc ++ [(s, d)])) := by rw [castL_snoc]; exact hown4
        have HF := Lib.hid hfin
        have HM := Lib.hid hm4
        have HB := Lib.hid (hB3.trans (hB4.mono (by omega)))
        have HS := Lib.hid hB4.size
        clear hfin hm4 hB4 hB3 hB2 hm2 hg2 hg4 hown4 hown2 hown1 hm1 hnew1 hnew3 hW3 hown hmap hb hbl1 hB1
        clear hW1
        go_wp2_with fail
        go_roundw
        case rel => exact ⟨k + 1, by omega, by simp, by rw [HT.out, hin]; exact HF.out, by rw [HT.out, hpn]; exact HM.out, HB.out, by have := HS.out; omega⟩
        case measure => simp [Go.RowKit.intOf]; omega
    · obtain rfl : k = l.length := by omega
      rw [List.take_length] at hown
      go_wp2_with fail
      go_ret
      refine ⟨_, rfl, ⟨hown.1, ?_⟩, hb⟩
      rcases hown.2 with h0 | ⟨g, cap, cur, h1, h2, h3⟩
      · exact .inl h0
      · exact .inr ⟨g, cap, cur, h1, by omega, h3⟩
end Go.Proofs.YtnfiapjdkjbdhaaGreat
/- Layer 4 (journal): a journal in memory; what is refused. -/
namespace Go.Proofs.YtnfiapjdkjbdhaaGreat
open Go.RowKit Go.Maps
set_option linter.unusedVariables false
set_option linter.unusedSimpArgs false
set_option maxRecDepth 10000
/-! Of a device. -/
theorem len_any (b g n c : Nat) (W : World) (h2 : W.cell? ⟨b, 2, none⟩ = some (.slice (some ⟨g, 0, none⟩) n c)) :
    Calls Tryz.prog 74 #[devp b] W fun e w' => e = .returned (.int .i64 (n : Int)) ∧ W = w' := by
  go_enter Tryz.func74, Tryz.ntmps74
  go_wp2
  go_ret
  exact ⟨rfl, rfl⟩
theorem durable_raw (b g c n i : Nat) (W : World) (s : List UInt8) (hs : s.length = 64) (hn : n ≤ 4096) (hi : i < n) (h2 : W.cell? ⟨b, 2, none⟩ = some (.slice (some ⟨g, 0, none⟩) n c)) (hd : W.rangeAt g (i * 64) (bc s)) :
    Calls Tryz.prog 25 #[devp b, .int .i64 (i : Int)] W fun e w' => e = .returned (.tuple #[str s, .int .i64 0]) ∧ W = w' := by
  have hcv : (convert 53 9 (.slice (some ⟨g, i * 64, none⟩) 64 64)).run Tryz.prog W = .ok (str s) W := by
    have := run_convert_bytes_back (P := Tryz.prog) W 53 9 5 ⟨g, i * 64, none⟩ 64 s Tryz.underlying53 Tryz.underlying5 Tryz.underlying9 fun j hj => by
      rw [Addr.add_lit]
      exact hd j _ (by simp [hj])
    rwa [hs] at this
  have hi2 : (i : Int) < (n : Int) := by omega
  go_enter Tryz.func25, Tryz.ntmps25
  go_wp2_with fail
  refine (has_yes b g c n i W hn hi h2).mono ?_
  rintro e w1 ⟨rfl, rfl⟩
  go_wp2_with fail
  go_ret2
  exact ⟨rfl, rfl⟩
section
variable {K : Nat → Prop} {w W : World} {b : Nat} {M : Dv}
theorem held_len (h : Held K w W b M) : Calls Tryz.prog 74 #[devp b] W fun e w' => e = .returned (.int .i64 (M.n : Int)) ∧ W = w' := by
  obtain ⟨h1, S, ⟨g, c, m, vals, hI⟩, h4⟩ := h
  exact len_any b g _ c W hI.head.c2
end
/-! A journal. -/
structure JAt (W : World) (jb b : Nat) (F n rec : Nat) : Prop where
  c0 : W.cell? ⟨jb, 0, none⟩ = some (devp b)
  c1 : W.cell? ⟨jb, 1, none⟩ = some (.int .i64 (F : Int))
  c2 : W.cell? ⟨jb, 2, none⟩ = some (.int .i64 (n : Int))
  c3 : W.cell? ⟨jb, 3, none⟩ = some (.int .i64 (rec : Int))
theorem JAt.kept {w W : World} {jb b F n rec : Nat} (h : JAt w jb b F n rec) (hb : W.heap[jb]? = w.heap[jb]?) : JAt W jb b F n rec :=
  ⟨(cell_same 0 hb).trans h.c0, (cell_same 1 hb).trans h.c1, (cell_same 2 hb).trans h.c2, (cell_same 3 hb).trans h.c3⟩
theorem JAt.lt {w : World} {jb b F n rec : Nat} (h : JAt w jb b F n rec) : jb < w.heap.size := World.block_lt_of_cell? w _ h.c0
theorem JAt.below {w W : World} {jb b F n rec : Nat} (h : JAt w jb b F n rec) (hb : Below w.heap.size w W) : JAt W jb b F n rec := h.kept (hb.block jb h.lt)
def capL (n : Nat) : Nat := (n - 1) - ((n - 1) + 32) / 33
theorem max_any (jb b F n rec : Nat) (W : World) (h : JAt W jb b F n rec) (h4 : 4 ≤ n) (h256 : n ≤ 256) :
    Calls Tryz.prog 58 #[devp jb] W fun e w' => e = .returned (.int .i64 (capL n : Int)) ∧ W = w' := by
  have c2 := h.c2
  have hp := parts_any (n - 1) 33 W (by omega) (by decide) (by decide)
  have hi : ((n - 1 : Nat) : Int) = (n : Int) - 1 := by omega
  rw [hi] at hp
  have hq : (n : Int) - 1 + ((33 : Nat) : Int) - 1 = (n : Int) - 1 + 32 := by omega
  rw [hq] at hp
  have HP := Lib.hid hp
  clear h hi hq hp
  go_enter Tryz.func58, Tryz.ntmps58
  go_wp2_with fail
  refine HP.out.mono ?_
  rintro e w1 ⟨rfl, rfl⟩
  clear HP
  go_wp2_with fail
  go_ret
  refine ⟨congrArg (fun x => Ending.returned (.int .i64 x)) ?_, rfl⟩
  unfold capL
  omega
def wrongB (n : Nat) (p : Int × List UInt8) : Bool := decide (p.1 < 0) || (decide ((n : Int) ≤ p.1) || (p.2.length != 64))
def withinB (F n : Nat) (p : Int × List UInt8) : Bool := decide ((F : Int) ≤ p.1) && decide (p.1 < (F : Int) + (n : Int))
theorem cells2 (w : World) (a b : Value) (t : TypeId) : (w.alloc (.cells #[a, b] t)).cell? ⟨w.heap.size, 0, none⟩ = some a ∧ (w.alloc (.cells #[a, b] t)).cell? ⟨w.heap.size, 1, none⟩ = some b := by
  have h := heap_alloc_new w (.cells #[a, b] t)
  refine ⟨?_, ?_⟩ <;> (unfold World.cell?; rw [h]; rfl)
set_option maxHeartbeats 1000000 in
theorem within_any (jb b F n rec : Nat) (s : Int) (d : List UInt8) (W : World) (h : JAt W jb b F n rec) (hF : F ≤ 4096) (hn : n ≤ 4096) :
    Calls Tryz.prog 179 #[devp jb, .agg #[.int .i64 s, str d]] W fun e w' => e = .returned (.bool (withinB F n (s, d))) ∧ Below W.heap.size W w' := by
  obtain ⟨k0, k1⟩ := cells2 W (.int .i64 s) (str d) 117
  have hJ := h.below ((Below.refl _ _).alloc (Nat.le_refl _) (.cells #[.int .i64 s, str d] 117))
  have j1 := hJ.c1
  have j2 := hJ.c2
  clear hJ h
  unfold withinB
  simp only
  have hB : Below W.heap.size W (W.alloc (.cells #[.int .i64 s, str d] 117)) := (Below.refl _ _).alloc (Nat.le_refl _) _
  by_cases h1 : (F : Int) ≤ s
  · by_cases h2 : s < (F : Int) + (n : Int)
    · rw [decide_eq_true h1, decide_eq_true h2]
      go_enter Tryz.func179, Tryz.ntmps179
      go_wp2
      go_quiet (fail)
      go_wp2
      go_ret
      exact ⟨rfl, below_drewN hB _⟩
    · rw [decide_eq_true h1, decide_eq_false h2]
      have h3 : decide (s < (F : Int) + (n : Int)) = false := decide_eq_false h2
      go_enter Tryz.func179, Tryz.ntmps179
      go_wp2
      go_quiet (fail)
      go_wp2
      go_ret
      exact ⟨rfl, below_drewN hB _⟩
  · rw [decide_eq_false h1]
    have h3 : decide ((F : Int) ≤ s) = false := decide_eq_false h1
    go_enter Tryz.func179, Tryz.ntmps179
    go_wp2
    go_quiet (fail)
    go_wp2
    go_ret
    exact ⟨rfl, below_drewN hB _⟩
set_option maxHeartbeats 1000000 in
theorem wrong_any (jb b F n rec g N c : Nat) (s : Int) (d : List UInt8) (W : World) (h : JAt W jb b F n rec) (h2 : W.cell? ⟨b, 2, none⟩ = some (.slice (some ⟨g, 0, none⟩) N c)) (hN : N ≤ 4096) (hd : d.length ≤ 140737488351232) :
    Calls Tryz.prog 178 #[devp jb, .agg #[.int .i64 s, str d]] W fun e w' => e = .returned (.bool (wrongB N (s, d))) ∧ Below W.heap.size W w' := by
  obtain ⟨k0, k1⟩ := cells2 W (.int .i64 s) (str d) 117
  have hB : Below W.heap.size W (W.alloc (.cells #[.int .i64 s, str d] 117)) := (Below.refl _ _).alloc (Nat.le_refl _) _
  have hJ := h.below hB
  have j0 := hJ.c0
  have hd2 := (hB.cell (World.block_lt_of_cell? W _ h2)).trans h2
  have HL := Lib.hid fun m => len_any b g N c ((W.alloc (.cells #[.int .i64 s, str d] 117)).drewN m) hd2
  clear hJ h h2
  unfold wrongB
  simp only
  by_cases h1 : s < 0
  · rw [decide_eq_true h1]
    go_enter Tryz.func178, Tryz.ntmps178
    go_wp2
    go_quiet (fail)
    go_wp2
    go_ret
    exact ⟨rfl, below_drewN hB _⟩
  · rw [decide_eq_false h1]
    have h0 : decide (s < 0) = false := decide_eq_false h1
    by_cases h3 : (N : Int) ≤ s
    · rw [decide_eq_true h3]
      go_enter Tryz.func178, Tryz.ntmps178
      go_wp2
      go_quiet (first | (go_at_call 74; refine Calls.quiet_of_same ((HL.out _).mono fun _ _ h => ⟨h.1, h.2.symm⟩)))
      go_wp2
      go_ret
      exact ⟨rfl, below_drewN hB _⟩
    · rw [decide_eq_false h3]
      have h4 : decide ((N : Int) ≤ s) = false := decide_eq_false h3
      by_cases h5 : d.length = 64
      · have hx : (d.length != 64) = false := by simp [h5]
        have hy : ((d.length : Int) != 64) = false := by simp; omega
        rw [hx]
        go_enter Tryz.func178, Tryz.ntmps178
        go_wp2
        go_quiet (first | (go_at_call 74; refine Calls.quiet_of_same ((HL.out _).mono fun _ _ h => ⟨h.1, h.2.symm⟩)))
        go_wp2
        go_ret
        exact ⟨rfl, below_drewN hB _⟩
      · have hx : (d.length != 64) = true := by simp [h5]
        have hy : ((d.length : Int) != 64) = true := by simp; omega
        rw [hx]
        go_enter Tryz.func178, Tryz.ntmps178
        go_wp2
        go_quiet (first | (go_at_call 74; refine Calls.quiet_of_same ((HL.out _).mono fun _ _ h => ⟨h.1, h.2.symm⟩)))
        go_wp2
        go_ret
        exact ⟨rfl, below_drewN hB _⟩
end Go.Proofs.YtnfiapjdkjbdhaaGreat
/- Layer 4 (journal): what is refused. -/
namespace Go.Proofs.YtnfiapjdkjbdhaaGreat
open Go.RowKit Go.Maps
set_option linter.unusedVariables false
set_option linter.unusedSimpArgs false
set_option maxRecDepth 10000
set_option maxHeartbeats 1000000 in
theorem index_any (fn jb : Nat) (B : Int × List UInt8 → Bool) (v : Value) (l : PutI) (w : World) (h : Puts w v l) (hl : l.length ≤ maxLen) (eg : ∀ args w, (callFunc fn args).run Tryz.prog w = .ok (.enter fn args) w)
    (hf : ∀ p ∈ l, ∀ W, Below w.heap.size w W → Calls Tryz.prog fn #[devp jb, .agg #[.int .i64 p.1, str p.2]] W fun e w' => e = .returned (.bool (B p)) ∧ Below W.heap.size W w') :
    Calls Tryz.prog 214 #[v, .func (.func fn) #[devp jb] #[]] w fun e w' => ∃ i : Int, e = .returned (.int .i64 i) ∧ decide (0 ≤ i) = l.any B ∧ Below w.heap.size w w' := by
  unfold maxLen at hl
  obtain ⟨A, c, rfl, hc⟩ := h
  have HC := Lib.hid hc
  have HF := Lib.hid hf
  clear hc hf
  go_enter Tryz.func214, Tryz.ntmps214
  go_wp2_with fail
  go_loopw [8] (fun i wr => ∃ k : Nat, k ≤ l.length ∧ i = .int .i64 k ∧ (l.take k).any B = false ∧ Below w.heap.size w wr) (fun i _ => l.length - (Go.RowKit.intOf i).toNat)
  case atStart => exact ⟨0, Nat.zero_le _, rfl, by simp, Below.refl _ _⟩
  case round =>
    obtain ⟨k, hk, rfl, hany, hb⟩ := hrel
    have HA := Lib.hid hany
    clear hany
    by_cases hlt : k < l.length
    · obtain ⟨a, rfl, h1, h2⟩ := HC.out k _ (List.getElem?_eq_getElem hlt)
      have hcall := HF.out l[k] (List.getElem_mem _)
      have hts : (l.take (k + 1)).any B = B l[k] := by rw [List.take_succ_eq_append_getElem hlt, List.any_append, HA.out]; simp
      have hall : B l[k] = true → l.any B = true := fun e => List.any_eq_true.2 ⟨l[k], List.getElem_mem _, e⟩
      have HT := Lib.hid hts
      have HL := Lib.hid hall
      clear hts hall
      unfold behind at h2
      have hd1 := (hb.cell (World.block_lt_of_cell? w _ h1)).trans h1
      have hd2 := (hb.cell (World.block_lt_of_cell? w _ h2)).trans h2
      clear h1 h2
      generalize l[k] = p at hd1 hd2 hcall HT HL
      have hI : (k : Int) < (l.length : Int) := by omega
      go_wp2_with fail
      refine (hcall _ hb).mono ?_
      rintro e w1 ⟨rfl, hb1⟩
      have HB := Lib.hid (hb.trans (hb1.mono hb.size))
      clear hcall
      cases hp : B p
      · go_wp2_with fail
        go_roundw
        case rel => exact ⟨k + 1, by omega, by simp, by rw [HT.out, hp], HB.out⟩
        case measure => simp [Go.RowKit.intOf]; omega
      · go_wp2_with fail
        go_ret
        exact ⟨_, rfl, by rw [HL.out hp]; simp, HB.out⟩
    · obtain rfl : k = l.length := by omega
      go_wp2_with fail
      go_ret
      refine ⟨_, rfl, ?_, hb⟩
      have := HA.out
      rw [List.take_length] at this
      rw [this]; rfl
set_option maxHeartbeats 1000000 in
theorem contains_any (fn jb : Nat) (B : Int × List UInt8 → Bool) (v : Value) (l : PutI) (w : World) (h : Puts w v l) (hl : l.length ≤ maxLen) (eg : ∀ args w, (callFunc fn args).run Tryz.prog w = .ok (.enter fn args) w)
    (hf : ∀ p ∈ l, ∀ W, Below w.heap.size w W → Calls Tryz.prog fn #[devp jb, .agg #[.int .i64 p.1, str p.2]] W fun e w' => e = .returned (.bool (B p)) ∧ Below W.heap.size W w') :
    Calls Tryz.prog 177 #[v, .func (.func fn) #[devp jb] #[]] w fun e w' => e = .returned (.bool (l.any B)) ∧ Below w.heap.size w w' := by
  have HI := Lib.hid (index_any fn jb B v l w h hl eg hf)
  obtain ⟨A, c, rfl, -⟩ := h
  clear hf
  go_enter Tryz.func177, Tryz.ntmps177
  go_wp2_with fail
  refine HI.out.mono ?_
  rintro e w1 ⟨i, rfl, hi, hb⟩
  go_wp2_with fail
  go_ret
  exact ⟨by rw [← hi]; rfl, hb⟩
def whyL (N F n : Nat) (l : PutI) : Int := if l.any (wrongB N) then 2 else if l.any (withinB F n) then 40 else if capL n < l.length then 4 else 0
structure JOn (W : World) (jb b F n rec N : Nat) : Prop where
  j : JAt W jb b F n rec
  sec : ∃ g c, W.cell? ⟨b, 2, none⟩ = some (.slice (some ⟨g, 0, none⟩) N c)
theorem JOn.below {w W : World} {jb b F n rec N : Nat} (h : JOn w jb b F n rec N) (hb : Below w.heap.size w W) : JOn W jb b F n rec N := by
  obtain ⟨hj, g, c, hc⟩ := h
  exact ⟨hj.below hb, g, c, (hb.cell (World.block_lt_of_cell? w _ hc)).trans hc⟩
theorem JOn.of {K : Nat → Prop} {w W : World} {jb b F n rec : Nat} {M : Dv} (h : Held K w W b M) (hj : JAt W jb b F n rec) : JOn W jb b F n rec M.n := by
  obtain ⟨h1, S, ⟨g, c, m, vals, hI⟩, h4⟩ := h
  exact ⟨hj, g, c, hI.head.c2⟩
set_option maxHeartbeats 1000000 in
theorem refusal_any (jb b F n rec N : Nat) (v : Value) (l : PutI) (w : World) (hJ : JOn w jb b F n rec N) (h : Puts w v l) (hl : l.length ≤ maxLen) (hd : ∀ p ∈ l, p.2.length ≤ 140737488351232)
    (hF : F ≤ 4096) (h4 : 4 ≤ n) (h256 : n ≤ 256) (hN : N ≤ 4096) :
    Calls Tryz.prog 124 #[devp jb, v] w fun e w' => e = .returned (.int .i64 (whyL N F n l)) ∧ Below w.heap.size w w' := by
  have H1 := Lib.hid (contains_any 178 jb (wrongB N) v l w h hl (enters_of Tryz.func178 (by kernel_rfl) rfl) fun p hp W hb => by
    obtain ⟨hj, g, c, hc⟩ := hJ.below hb
    exact wrong_any jb b F n rec g N c p.1 p.2 W hj hc hN (hd p hp))
  have H2 := Lib.hid fun W (hb0 : Below w.heap.size w W) => contains_any 179 jb (withinB F n) v l W (h.below hb0) hl (enters_of Tryz.func179 (by kernel_rfl) rfl) fun p hp W' hb => within_any jb b F n rec p.1 p.2 W' ((hJ.j.below hb0).below hb) hF (by omega)
  have H3 := Lib.hid fun W (hb0 : Below w.heap.size w W) => max_any jb b F n rec W (hJ.j.below hb0) h4 h256
  obtain ⟨A, c, rfl, -⟩ := h
  have hc : capL n ≤ 256 := by unfold capL; omega
  unfold maxLen at hl
  clear hJ
  generalize hW : whyL N F n l = r
  have HW := Lib.hid hW
  clear hW
  generalize hq : capL n = q at *
  have HQ := Lib.hid hq
  clear hq
  go_enter Tryz.func124, Tryz.ntmps124
  go_wp2_with fail
  refine H1.out.mono ?_
  rintro e w1 ⟨rfl, hb1⟩
  cases ha : l.any (wrongB N)
  · go_wp2_with fail
    refine (H2.out _ hb1).mono ?_
    rintro e w2 ⟨rfl, hb2⟩
    have HB2 := Lib.hid (hb1.trans (hb2.mono hb1.size))
    cases hw : l.any (withinB F n)
    · go_wp2_with fail
      refine (H3.out _ HB2.out).mono ?_
      rintro e w3 ⟨rfl, rfl⟩
      by_cases hlt : q < l.length
      · have hI : (q : Int) < (l.length : Int) := by omega
        go_wp2_with fail
        go_ret
        exact ⟨by rw [← HW.out]; simp [whyL, ha, hw, hlt, HQ.out], HB2.out⟩
      · have hI : decide ((q : Int) < (l.length : Int)) = false := decide_eq_false (by omega)
        go_wp2_with fail
        go_ret
        exact ⟨by rw [← HW.out]; simp [whyL, ha, hw, hlt, HQ.out], HB2.out⟩
    · go_wp2_with fail
      go_ret
      exact ⟨by rw [← HW.out]; simp [whyL, ha, hw], HB2.out⟩
  · go_wp2_with fail
    go_ret
    exact ⟨by rw [← HW.out]; simp [whyL, ha], hb1⟩
end Go.Proofs.YtnfiapjdkjbdhaaGreat
/- Layer 4 (journal): what is written in each step. -/
namespace Go.Proofs.YtnfiapjdkjbdhaaGreat
open Go.RowKit Go.Maps
set_option linter.unusedVariables false
set_option linter.unusedSimpArgs false
set_option maxRecDepth 10000
def Dv.headOf (M : Dv) (F : Nat) : Hd := hd (if M.down then M.dur F else M.cur F)
theorem JAt.up {w W : World} {jb b F n rec : Nat} (h : JAt w jb b F n rec) (hb : Below w.heap.size w W) : W.cell? ⟨jb, 0, none⟩ = some (devp b) ∧ W.cell? ⟨jb, 1, none⟩ = some (.int .i64 (F : Int)) :=
  ⟨(h.below hb).c0, (h.below hb).c1⟩
theorem row3 {W : World} {g : Nat} {a b c : Value} {t : TypeId} (h : W.heap[g]? = some (.cells #[a, b, c] t (0, 0))) : W.cell? ⟨g, 0, none⟩ = some a ∧ W.cell? ⟨g, 1, none⟩ = some b ∧ W.cell? ⟨g, 2, none⟩ = some c := by
  refine ⟨?_, ?_, ?_⟩ <;> (unfold World.cell?; rw [h]; rfl)
theorem frz3 {W : World} {g : Nat} {a b c : Value} {t : TypeId} (h : W.heap[g]? = some (.cells #[a, b, c] t (0, 0))) : W.frozen? ⟨g, 0, none⟩ = false ∧ W.frozen? ⟨g, 1, none⟩ = false ∧ W.frozen? ⟨g, 2, none⟩ = false :=
  ⟨frozen_of_row W _ 0 _ t h, frozen_of_row W _ 1 _ t h, frozen_of_row W _ 2 _ t h⟩
set_option maxHeartbeats 1000000 in
theorem head_any {S : Nat → Prop} {W : World} {b : Nat} {M : Dv} (jb F n rec : Nat) (h : DevAt S W b M) (hj : JAt W jb b F n rec) (hF : F < M.n) (hw : M.wr ≤ 1099511627776) :
    Calls Tryz.prog 81 #[devp jb] W fun e w' => e = .returned (hdV (M.headOf F)) ∧ Below W.heap.size W w' := by
  have hf := h.fine
  obtain ⟨V, hV⟩ : ∃ V, V = W.alloc (.cells #[.int .u64 0, .bool false, .int .i64 0] 154) := ⟨_, rfl⟩
  have hVb : Below W.heap.size W V := by rw [hV]; exact (Below.refl _ _).alloc (Nat.le_refl _) _
  have hVs : V.heap.size = W.heap.size + 1 := by rw [hV]; simp
  have hnew : V.heap[W.heap.size]? = some (.cells #[.int .u64 0, .bool false, .int .i64 0] 154 (0, 0)) := by rw [hV]; exact heap_alloc_new W _
  unfold Dv.headOf
  cases hdn : M.down
  · have hR := Lib.hid fun W' (hb : Below W.heap.size W W') => read_any (h.below hb) hdn hw F hF
    have hlen := hf.cur hF
    have H2 := Lib.hid fun W' => readHead_any (M.cur F) W' hlen
    have HJ := Lib.hid hj
    clear h hf hj hlen
    rw [if_neg (by simp)]
    generalize M.cur F = s at *
    have B := Lib.hid ((Below.refl V.heap.size V).drew)
    obtain ⟨d0, d1⟩ := HJ.out.up (hVb.trans (B.out.mono (by omega)))
    go_enter Tryz.func81, Tryz.ntmps81
    go_wp2_with fail
    rw [← hV]
    clear hV
    go_region_held3 (fun W' => W'.cell? ⟨jb, 0, none⟩ = some (devp b) ∧ W'.cell? ⟨jb, 1, none⟩ = some (.int .i64 (F : Int)))
      (exact ⟨d0, d1⟩)
      (first | (go_at_call 133; ((with_reducible refine (hR.out _ (hVb.trans (B.out.mono (by omega)))).mono ?_); rintro e w4 ⟨rfl, hb⟩; have B := Lib.hid (chain B.out hb); obtain ⟨d0, d1⟩ := HJ.out.up (hVb.trans (B.out.mono (by omega))))))
    clear d0 d1
    go_wp2_with fail
    with_reducible refine (H2.out _).mono ?_
    rintro e w5 ⟨rfl, hb⟩
    have B := Lib.hid (chain B.out hb)
    clear hb
    have hrow := (B.out.block W.heap.size (by omega)).trans hnew
    obtain ⟨x0, x1, x2⟩ := row3 hrow
    obtain ⟨f0, f1, f2⟩ := frz3 hrow
    unfold hdV
    go_wp2_with fail
    have hfin := set3 hrow (.int .u64 ((hd s).gen : Int)) (.bool (hd s).pend) (.int .i64 ((hd s).cnt : Int))
    refine bodyPost_ret (v := hdV (hd s)) ?_ rfl ⟨rfl, (((hVb.trans (B.out.mono (by omega))).setCell (Nat.le_refl _) _).setCell (Nat.le_refl _) _).setCell (Nat.le_refl _) _⟩
    exact results_cell_row rfl _ _ W.heap.size 154 _ (0, 0) _ rfl hfin Tryz.underlying154 rfl (by kernel_rfl)
  · have hR := Lib.hid fun W' (hb : Below W.heap.size W W') => read_down b (.int .i64 (F : Int)) W' ((h.below hb).down_cell hdn)
    have hD := Lib.hid fun W' (hb : Below W.heap.size W W') => (show Calls Tryz.prog 25 #[devp b, .int .i64 (F : Int)] W' fun e w' => e = .returned (.tuple #[str (M.dur F), .int .i64 0]) ∧ W' = w' by
      obtain ⟨g, c, m, vals, hI⟩ := h.below hb
      exact durable_raw b g c M.n F W' _ (hI.fine.dur F hF) hI.fine.n hF hI.head.c2 (hI.du.at_ F hF))
    have hlen := hf.dur F hF
    have H2 := Lib.hid fun W' => readHead_any (M.dur F) W' hlen
    have HJ := Lib.hid hj
    clear h hf hj hlen
    rw [if_pos rfl]
    generalize M.dur F = s at *
    have B := Lib.hid ((Below.refl V.heap.size V).drew)
    obtain ⟨d0, d1⟩ := HJ.out.up (hVb.trans (B.out.mono (by omega)))
    go_enter Tryz.func81, Tryz.ntmps81
    go_wp2_with fail
    rw [← hV]
    clear hV
    go_region_held3 (fun W' => W'.cell? ⟨jb, 0, none⟩ = some (devp b) ∧ W'.cell? ⟨jb, 1, none⟩ = some (.int .i64 (F : Int)))
      (exact ⟨d0, d1⟩)
      (first | (go_at_call 133; ((with_reducible refine (hR.out _ (hVb.trans (B.out.mono (by omega)))).mono ?_); rintro e w4 ⟨rfl, rfl⟩)))
    go_wp2_with fail
    have B := Lib.hid (Below.drew B.out)
    obtain ⟨d0, d1⟩ := HJ.out.up (hVb.trans (B.out.mono (by omega)))
    go_region_held3 (fun W' => W'.cell? ⟨jb, 0, none⟩ = some (devp b) ∧ W'.cell? ⟨jb, 1, none⟩ = some (.int .i64 (F : Int)))
      (exact ⟨d0, d1⟩)
      (first | (go_at_call 25; ((with_reducible refine (hD.out _ (hVb.trans (B.out.mono (by omega)))).mono ?_); rintro e w4 ⟨rfl, rfl⟩)))
    clear d0 d1
    go_wp2_with fail
    with_reducible refine (H2.out _).mono ?_
    rintro e w5 ⟨rfl, hb⟩
    have B := Lib.hid (chain B.out hb)
    clear hb
    have hrow := (B.out.block W.heap.size (by omega)).trans hnew
    obtain ⟨x0, x1, x2⟩ := row3 hrow
    obtain ⟨f0, f1, f2⟩ := frz3 hrow
    unfold hdV
    go_wp2_with fail
    have hfin := set3 hrow (.int .u64 ((hd s).gen : Int)) (.bool (hd s).pend) (.int .i64 ((hd s).cnt : Int))
    refine bodyPost_ret (v := hdV (hd s)) ?_ rfl ⟨rfl, (((hVb.trans (B.out.mono (by omega))).setCell (Nat.le_refl _) _).setCell (Nat.le_refl _) _).setCell (Nat.le_refl _) _⟩
    exact results_cell_row rfl _ _ W.heap.size 154 _ (0, 0) _ rfl hfin Tryz.underlying154 rfl (by kernel_rfl)
abbrev txV (g : Nat) (v : Value) : Value := .agg #[.int .u64 (g : Int), v]
def Fresh (w w' : World) (v : Value) : Prop := ∀ k, v.ownBlock = some k → w.heap.size ≤ k ∧ k < w'.heap.size
theorem puts_lit (w : World) (s : Int) (d : List UInt8) : Puts (w.alloc (.cells #[.int .i64 s, str d] 117)) (.slice (some ⟨w.heap.size, 0, none⟩) 1 1) [(s, d)] := by
  obtain ⟨c0, c1⟩ := cells2 w (.int .i64 s) (str d) 117
  refine ⟨_, 1, rfl, fun j p hj => ⟨_, rfl, ?_⟩⟩
  match j, hj with
  | 0, hj =>
    simp at hj
    subst hj
    exact ⟨c0, c1⟩
theorem up1 {w : World} {o : Obj} {q : Addr} {v : Value} (h : w.cell? q = some v) : (w.alloc o).cell? q = some v := by
  rw [World.cell?_alloc_lt _ _ _ (World.block_lt_of_cell? w _ h)]
  exact h
set_option maxHeartbeats 1000000 in
theorem tell_any {W : World} (jb b F n rec g c : Nat) (p : Bool) (hj : JAt W jb b F n rec) (hg : g < 18446744073709551616) (hc : c < 65536) :
    Calls Tryz.prog 181 #[devp jb, .agg #[.int .u64 (g : Int), .bool p, .int .i64 (c : Int)]] W fun e w' => ∃ v, e = .returned v ∧ Puts w' v [((F : Int), headL g p.toNat c)] ∧ Fresh W w' v ∧ Below W.heap.size W w' := by
  obtain ⟨V, hV⟩ : ∃ V, V = W.alloc (.cells #[.int .u64 (g : Int), .bool p, .int .i64 (c : Int)] 154) := ⟨_, rfl⟩
  have hVb : Below W.heap.size W V := by rw [hV]; exact (Below.refl _ _).alloc (Nat.le_refl _) _
  have hVs : V.heap.size = W.heap.size + 1 := by rw [hV]; simp
  have hnew : V.heap[W.heap.size]? = some (.cells #[.int .u64 (g : Int), .bool p, .int .i64 (c : Int)] 154 (0, 0)) := by rw [hV]; exact heap_alloc_new W _
  have HS := Lib.hid fun W' => headSec_any g c p W' hg hc
  have HJ := Lib.hid hj
  generalize headL g p.toNat c = s at *
  clear hj
  have B := Lib.hid ((Below.refl V.heap.size V).drew)
  obtain ⟨d0, d1⟩ := HJ.out.up (hVb.trans (B.out.mono (by omega)))
  obtain ⟨x0, x1, x2⟩ := row3 ((B.out.block W.heap.size (by omega)).trans hnew)
  go_enter Tryz.func181, Tryz.ntmps181
  go_wp2_with fail
  rw [← hV]
  clear hV
  go_region_held3 (fun W' => W'.cell? ⟨jb, 0, none⟩ = some (devp b) ∧ W'.cell? ⟨jb, 1, none⟩ = some (.int .i64 (F : Int)) ∧ W'.cell? ⟨W.heap.size, 0, none⟩ = some (.int .u64 (g : Int)) ∧ W'.cell? ⟨W.heap.size, 1, none⟩ = some (.bool p) ∧ W'.cell? ⟨W.heap.size, 2, none⟩ = some (.int .i64 (c : Int)))
    (first | exact ⟨d0, d1, x0, x1, x2⟩ | exact ⟨up1 d0, up1 d1, up1 x0, up1 x1, up1 x2⟩)
    (first | (go_at_call 218; ((with_reducible refine (HS.out _).mono ?_); rintro e w4 ⟨rfl, hb⟩; have B := Lib.hid (chain B.out hb); obtain ⟨d0, d1⟩ := HJ.out.up (hVb.trans (B.out.mono (by omega))); obtain ⟨x0, x1, x2⟩ := row3 ((B.out.block W.heap.size (by omega)).trans hnew))))
  go_wp2_with fail
  go_ret
  have hB := hVb.trans (B.out.mono (by omega))
  exact ⟨_, rfl, puts_lit _ _ _, (fun k hk => by cases hk; exact ⟨by have := hB.size; omega, by simp⟩), hB.alloc hB.size _⟩
theorem txV_box {W : World} (g : Nat) (v : Value) (t : TypeId) : (W.alloc (.cells #[.int .u64 (g : Int), v] t)).cell? ⟨W.heap.size, 0, none⟩ = some (.int .u64 (g : Int)) ∧ (W.alloc (.cells #[.int .u64 (g : Int), v] t)).cell? ⟨W.heap.size, 1, none⟩ = some v := cells2 W _ _ t
set_option maxHeartbeats 1000000 in
theorem mark_any {W : World} (jb b F n rec g : Nat) (v : Value) (l : PutI) (hj : JAt W jb b F n rec) (hv : Puts W v l) (hg : g < 18446744073709551616) (hl : l.length < 65536) :
    Calls Tryz.prog 127 #[devp jb, txV g v] W fun e w' => ∃ v', e = .returned v' ∧ Puts w' v' [((F : Int), headL g 1 l.length)] ∧ Fresh W w' v' ∧ Below W.heap.size W w' := by
  obtain ⟨A, c, rfl, -⟩ := hv
  have hB : Below W.heap.size W (W.alloc (.cells #[.int .u64 (g : Int), .slice A l.length c] 158)) := (Below.refl _ _).alloc (Nat.le_refl _) _
  obtain ⟨k0, k1⟩ := txV_box (W := W) g (.slice A l.length c) 158
  have HT := Lib.hid (tell_any jb b F n rec g l.length true (hj.below hB) hg hl)
  clear hj
  go_enter Tryz.func127, Tryz.ntmps127
  go_wp2_with fail
  refine HT.out.mono ?_
  rintro e w1 ⟨v', rfl, hp, hf, hb⟩
  go_wp2_with fail
  go_ret
  exact ⟨_, rfl, hp, (fun k hk => ⟨by have := (hf k hk).1; simp at this; omega, (hf k hk).2⟩), hB.trans (hb.mono (by simp))⟩
set_option maxHeartbeats 1000000 in
theorem end_any {W : World} (jb b F n rec g : Nat) (A : Option Addr) (m c : Nat) (hj : JAt W jb b F n rec) (hg : g < 18446744073709551616) :
    Calls Tryz.prog 148 #[devp jb, txV g (.slice A m c)] W fun e w' => ∃ v', e = .returned v' ∧ Puts w' v' [((F : Int), headL g 0 0)] ∧ Fresh W w' v' ∧ Below W.heap.size W w' := by
  have hB : Below W.heap.size W (W.alloc (.cells #[.int .u64 (g : Int), .slice A m c] 158)) := (Below.refl _ _).alloc (Nat.le_refl _) _
  obtain ⟨k0, k1⟩ := txV_box (W := W) g (.slice A m c) 158
  have HT := Lib.hid (tell_any jb b F n rec g 0 false (hj.below hB) hg (by decide))
  clear hj
  go_enter Tryz.func148, Tryz.ntmps148
  go_wp2_with fail
  refine HT.out.mono ?_
  rintro e w1 ⟨v', rfl, hp, hf, hb⟩
  go_wp2_with fail
  go_ret
  exact ⟨_, rfl, hp, (fun k hk => ⟨by have := (hf k hk).1; simp at this; omega, (hf k hk).2⟩), hB.trans (hb.mono (by simp))⟩
theorem place_any {W : World} (jb g : Nat) (A : Option Addr) (m c : Nat) :
    Calls Tryz.prog 147 #[devp jb, txV g (.slice A m c)] W fun e w' => e = .returned (.slice A m c) ∧ Below W.heap.size W w' := by
  have hB : Below W.heap.size W (W.alloc (.cells #[.int .u64 (g : Int), .slice A m c] 158)) := (Below.refl _ _).alloc (Nat.le_refl _) _
  obtain ⟨k0, k1⟩ := txV_box (W := W) g (.slice A m c) 158
  go_enter Tryz.func147, Tryz.ntmps147
  go_wp2_with fail
  go_ret
  exact ⟨rfl, hB⟩
abbrev meth (f jb : Nat) : Value := .func (.func f) #[devp jb] #[]
theorem redoing_any (W : World) (jb : Nat) :
    Calls Tryz.prog 84 #[devp jb] W fun e w' => e = .returned (.slice (some ⟨W.heap.size, 0, none⟩) 2 2) ∧ w' = W.alloc (.cells #[meth 147 jb, meth 148 jb] 233) := by
  go_enter Tryz.func84, Tryz.ntmps84
  go_wp2_with fail
  go_ret
  exact ⟨rfl, rfl⟩
end Go.Proofs.YtnfiapjdkjbdhaaGreat
/- Layer 4 (journal): the steps are taken. -/
namespace Go.Proofs.YtnfiapjdkjbdhaaGreat
open Go.RowKit Go.Maps
set_option linter.unusedVariables false
set_option linter.unusedSimpArgs false
set_option maxRecDepth 10000
theorem Held.back {K K' : Nat → Prop} {w w1 W : World} {b : Nat} {M : Dv} (h : Held K' w1 W b M) (hk : Keeps K w w1) (hK : ∀ k, K k → K' k) : Held K w W b M :=
  ⟨hk.trans h.1 hK, h.2.elim fun S hS => ⟨S, hS.1, fun k hk' hK2 => hS.2 k hk' (hK k hK2)⟩⟩
theorem puts_take_down (M : Dv) (l : PutL) (q : Nat) (h : (M.puts (l.take q)).down = true) : M.puts l = M.puts (l.take q) := by
  have : M.puts l = (M.puts (l.take q)).puts (l.drop q) := by unfold Dv.puts; rw [← List.foldl_append, List.take_append_drop]
  rw [this, puts_down _ h]
theorem runD_take_down (M : Dv) (ls : List PutL) (q : Nat) (h : (M.runD (ls.take q)).down = true) : M.runD ls = M.runD (ls.take q) := by
  have : M.runD ls = (M.runD (ls.take q)).runD (ls.drop q) := by unfold Dv.runD; rw [← List.foldl_append, List.take_append_drop]
  rw [this, runD_down _ h]
theorem runD_take_succ (M : Dv) (ls : List PutL) (q : Nat) (h : q < ls.length) : M.runD (ls.take (q + 1)) = (M.runD (ls.take q)).step ls[q] := by
  rw [List.take_succ_eq_append_getElem h, runD_snoc]
theorem puts_take_succ (M : Dv) (l : PutL) (q : Nat) (h : q < l.length) : M.puts (l.take (q + 1)) = (M.puts (l.take q)).wrote (l[q].1 : Int) l[q].2 := by
  rw [List.take_succ_eq_append_getElem h, puts_snoc]
theorem flat_len_take (ls : List PutL) (k : Nat) (h : k < ls.length) : (ls.take k).flatten.length + ls[k].length ≤ ls.flatten.length := by
  have h1 : ls.flatten = (ls.take (k + 1)).flatten ++ (ls.drop (k + 1)).flatten := by rw [← List.flatten_append, List.take_append_drop]
  rw [h1, List.take_succ_eq_append_getElem h, List.flatten_append, List.length_append, List.length_append]
  simp
def StepOk (K : Nat → Prop) (w : World) (jb : Nat) (t : Value) (f : Nat) (l : PutL) : Prop :=
  (∀ args W, (callFunc f args).run Tryz.prog W = .ok (.enter f args) W) ∧
  ∀ W, Keeps K w W → Calls Tryz.prog f #[devp jb, t] W fun e w' => ∃ v, e = .returned v ∧ Puts w' v (castL l) ∧ (∀ k, v.ownBlock = some k → K k ∨ (W.heap.size ≤ k ∧ k < w'.heap.size)) ∧ Below W.heap.size W w'
theorem cells_two {W : World} {g : Nat} {a b : Value} {t : TypeId} (h : W.heap[g]? = some (.cells #[a, b] t (0, 0))) : W.cell? ⟨g, 0, none⟩ = some a ∧ W.cell? ⟨g, 1, none⟩ = some b := by
  refine ⟨?_, ?_⟩ <;> (unfold World.cell?; rw [h]; rfl)
set_option maxHeartbeats 4000000 in
theorem run_any {K : Nat → Prop} {w : World} {b : Nat} {M : Dv} (jb F n rec g : Nat) (pv : Value) (sv : Value) (fs : List Nat) (ls : List PutL) (h : Held K w w b M) (hj : JAt w jb b F n rec) (hKj : K jb)
    (hsv : Row w sv (fs.map fun f => meth f jb)) (hKs : ∀ k, sv.ownBlock = some k → K k) (hlen : fs.length = ls.length) (hne : ls ≠ [])
    (hst : ∀ i (h1 : i < fs.length) (h2 : i < ls.length), StepOk K w jb (txV g pv) fs[i] ls[i])
    (hok : ∀ l ∈ ls, PutsOk M.n l) (hwr : M.wr + ls.flatten.length ≤ 1099511627776) (hsmall : ∀ l ∈ ls, l.length ≤ 1048576) (hfs : fs.length ≤ 1000) :
    Calls Tryz.prog 83 #[devp jb, txV g pv, sv] w fun e w' => e = .returned (.int .i64 (if (M.runD ls).down then 30 else 0)) ∧ Held K w w' b (M.runD ls) := by
  obtain ⟨A, c, rfl, hc⟩ := hsv
  rw [List.length_map, hlen]
  rw [hlen] at hfs
  have HL := Lib.hid hlen
  clear hlen
  -- the box
  obtain ⟨V, hV⟩ : ∃ V, V = w.alloc (.cells #[.int .u64 (g : Int), pv] 158) := ⟨_, rfl⟩
  have hVb : Below w.heap.size w V := by rw [hV]; exact (Below.refl _ _).alloc (Nat.le_refl _) _
  have hVs : V.heap.size = w.heap.size + 1 := by rw [hV]; simp
  have hnew : V.heap[w.heap.size]? = some (.cells #[.int .u64 (g : Int), pv] 158 (0, 0)) := by rw [hV]; exact heap_alloc_new w _
  obtain ⟨K', hK'⟩ : ∃ K' : Nat → Prop, K' = fun k => K k ∨ k = w.heap.size := ⟨_, rfl⟩
  have hV1 : Held K' V V b M := h.more hVb fun k hk => by
    rw [hK'] at hk
    rcases hk with hk | hk
    · exact .inl hk
    · exact .inr (by omega)
  have hKV : Keeps K w V := h.keeps.below hVb
  have hKK : ∀ k, K k → K' k := fun k hk => by rw [hK']; exact .inl hk
  have hKb : K' w.heap.size := by rw [hK']; exact .inr rfl
  have hKlt : ∀ k, K k → k < w.heap.size := h.keeps.lt
  clear hK' h
  have HH := Lib.hid hV1
  have HC := Lib.hid hc
  have HST := Lib.hid hst
  have HOK := Lib.hid hok
  have HSM := Lib.hid hsmall
  have HJ := Lib.hid hj
  clear hV1 hc hst hok hj hsmall
  go_enter Tryz.func83, Tryz.ntmps83
  go_wp2_with fail
  rw [← hV]
  clear hV
  go_step3
  go_wp2_with fail
  go_step3
  go_wp2_with fail
  go_loopw [7, 14] (fun e i wr => ∃ k : Nat, k ≤ ls.length ∧ i = .int .i64 k ∧ e = .int .i64 0 ∧ Held K' V wr b (M.runD (ls.take k)) ∧ (0 < k → (M.runD (ls.take k)).down = false)) (fun _ i _ => ls.length - (Go.RowKit.intOf i).toNat)
  case atStart => exact ⟨0, Nat.zero_le _, rfl, rfl, HH.out, fun h => absurd h (by omega)⟩
  case round =>
    obtain ⟨k, hk, rfl, rfl, hN, hdn⟩ := hrel
    have HN := Lib.hid hN
    have HD := Lib.hid hdn
    clear hN hdn
    by_cases hlt : k < ls.length
    · have hlt2 : k < fs.length := by rw [HL.out]; exact hlt
      obtain ⟨sb, rfl, hcell⟩ := HC.out k (meth fs[k] jb) (by rw [List.getElem?_map, List.getElem?_eq_getElem hlt2]; rfl)
      obtain ⟨heg, hcall0⟩ := HST.out k hlt2 hlt
      have hKsb : K sb := hKs sb rfl
      have hsc : wr.cell? ⟨sb, k, none⟩ = some (meth fs[k] jb) := (cell_same k ((HN.out.keeps.same sb (hKK sb hKsb)).trans (hVb.block sb (hKlt sb hKsb)))).trans hcell
      have hbox := cells_two ((HN.out.keeps.same _ hKb).trans hnew)
      obtain ⟨x0, x1⟩ := hbox
      have hKw : Keeps K w wr := hKV.trans HN.out.keeps hKK
      have hcall := Lib.hid (hcall0 wr hKw)
      clear hcall0
      have hsucc := runD_take_succ M ls k hlt
      have hokk := HOK.out ls[k] (List.getElem_mem _)
      have hsmk := HSM.out ls[k] (List.getElem_mem _)
      have hfl := flat_len_take ls k hlt
      have hwrk := runD_wr M (ls.take k)
      have hnk := runD_n M (ls.take k)
      have htd := runD_take_down M ls (k + 1)
      rw [hsucc] at htd
      have HT := Lib.hid htd
      have HS := Lib.hid hsucc
      clear hsucc htd hcell
      generalize hP : M.runD (ls.take k) = P at *
      clear hP
      generalize ls[k] = l at *
      generalize fs[k] = f at *
      have hI : (k : Int) < (ls.length : Int) := by omega
      go_wp2_with fail
      refine hcall.out.mono ?_
      clear hcall
      rintro e w1 ⟨v, rfl, hpv, hkv, hb1⟩
      obtain ⟨K2, hK2⟩ : ∃ K2 : Nat → Prop, K2 = fun k => K' k ∨ v.ownBlock = some k := ⟨_, rfl⟩
      have hW1 : Held K2 w1 w1 b P := HN.out.more hb1 fun k hk => by
        rw [hK2] at hk
        rcases hk with hk | hk
        · exact .inl hk
        · rcases hkv k hk with e | e
          · exact .inl (hKK k e)
          · exact .inr e
      have hK2K : ∀ k, K' k → K2 k := fun k hk => by rw [hK2]; exact .inl hk
      have hKv : ∀ k, v.ownBlock = some k → K2 k := fun k hk => by rw [hK2]; exact .inr hk
      have hVw1 : Keeps K' V w1 := HN.out.keeps.below hb1
      clear hK2 hkv
      have HW := Lib.hid hW1
      have hj1 : JAt w1 jb b F n rec := HJ.out.kept ((hVw1.same jb (hKK jb hKj)).trans (hVb.block jb (hKlt jb hKj)))
      have HJ1 := Lib.hid hj1
      obtain ⟨A2, c2, rfl, hpc⟩ := hpv
      have HPC := Lib.hid hpc
      clear hpc hj1 hW1 x0 x1 hsc heg
      rw [castL_length]
      go_wp2_with fail
      go_loopw [7, 22] (fun e i wr => ∃ q : Nat, q ≤ l.length ∧ i = .int .i64 q ∧ e = .int .i64 0 ∧ Held K2 w1 wr b (P.puts (l.take q))) (fun _ i _ => l.length - (Go.RowKit.intOf i).toNat)
      case atStart => exact ⟨0, Nat.zero_le _, rfl, rfl, HW.out⟩
      case round =>
        obtain ⟨q, hq, rfl, rfl, hQ⟩ := hrel
        have HQ := Lib.hid hQ
        clear hQ
        by_cases hlq : q < l.length
        · obtain ⟨a, rfl, h1, h2⟩ := HPC.out q _ (castL_at l q hlq)
          have hpw := puts_take_succ P l q hlq
          have hpd := puts_take_down P l q
          have hpo := hokk l[q] (List.getElem_mem _)
          have hpn := puts_n P (l.take q)
          have hpr := puts_wr P (l.take q)
          rw [List.length_take, Nat.min_eq_left hq] at hpr
          have hka : K2 a.block := hKv _ rfl
          have hsame := HQ.out.keeps.same a.block hka
          unfold behind at h2
          have hd1 : wr.cell? (a.add (q * 2)) = some (.int .i64 (l[q].1 : Int)) := (World.cell?_of_block (a := a.add (q * 2)) (by rw [add_block]; exact hsame)).trans h1
          have hd2 : wr.cell? ⟨(a.add (q * 2)).block, (a.add (q * 2)).off + 1, none⟩ = some (str l[q].2) := (World.cell?_of_block (a := ⟨(a.add (q * 2)).block, (a.add (q * 2)).off + 1, none⟩) (by simp only [add_block]; exact hsame)).trans h2
          clear h1 h2 hsame
          have HPW := Lib.hid hpw
          have HPD := Lib.hid hpd
          clear hpw hpd
          generalize hR : P.puts (l.take q) = R at *
          clear hR
          generalize l[q] = x at *
          obtain ⟨s, d⟩ := x
          simp only at hd1 hd2 hpo
          have hI2 : (q : Int) < (l.length : Int) := by omega
          -- the put's own block
          obtain ⟨X, hX⟩ : ∃ X, X = wr.alloc (.cells #[.int .i64 (s : Int), str d] 117) := ⟨_, rfl⟩
          have hXb : Below wr.heap.size wr X := by rw [hX]; exact (Below.refl _ _).alloc (Nat.le_refl _) _
          have hXn : X.heap[wr.heap.size]? = some (.cells #[.int .i64 (s : Int), str d] 117 (0, 0)) := by rw [hX]; exact heap_alloc_new wr _
          have hXs : X.heap.size = wr.heap.size + 1 := by rw [hX]; simp
          obtain ⟨K3, hK3⟩ : ∃ K3 : Nat → Prop, K3 = fun k => K2 k ∨ k = wr.heap.size := ⟨_, rfl⟩
          have HX := Lib.hid (show Held K3 X.drew X.drew b R from HQ.out.more (hXb.trans (Below.refl wr.heap.size X).drew) fun k hk => by
            rw [hK3] at hk
            rcases hk with hk | hk
            · exact .inl hk
            · exact .inr ⟨by omega, by show k < X.heap.size; omega⟩)
          have hK3K : ∀ k, K2 k → K3 k := fun k hk => by rw [hK3]; exact .inl hk
          have hK3p : K3 wr.heap.size := by rw [hK3]; exact .inr rfl
          have hwX : Keeps K2 w1 X.drew := HQ.out.keeps.below (hXb.trans (Below.refl wr.heap.size X).drew)
          clear hK3
          have hdr : X.drew.heap[wr.heap.size]? = some (.cells #[.int .i64 (s : Int), str d] 117 (0, 0)) := hXn
          obtain ⟨p0, p1⟩ := cells_two hdr
          have hjq := HJ1.out.kept (hwX.same jb (hK2K jb (hKK jb hKj)))
          have HJQ := Lib.hid hjq
          have HDR := Lib.hid hdr
          have j0 := hjq.c0
          have hXX : wr.alloc (.cells #[.int .i64 (s : Int), str d] 117) = X := hX.symm
          clear hX hjq hdr hXn
          have hwR : R.wr < 1099511627776 := by omega
          cases hdn : R.down
          · obtain ⟨-, hE⟩ := wrote_up R hdn s (by rw [hpn, hnk]; exact hpo.1) d hpo.2
            have HWR := Lib.hid (held_write HX.out hwR (s : Int) d)
            rw [hE] at HWR
            go_wp2_with fail
            clear hXX
            go_region_held3 (fun W' => W'.cell? ⟨jb, 0, none⟩ = some (devp b) ∧ W'.cell? ⟨wr.heap.size, 0, none⟩ = some (.int .i64 (s : Int)) ∧ W'.cell? ⟨wr.heap.size, 1, none⟩ = some (str d))
              (exact ⟨j0, p0, p1⟩)
              (first | (go_at_call 77; ((with_reducible refine HWR.out.mono ?_); rintro e w4 ⟨rfl, hH⟩; have j0 := (HJQ.out.kept (hH.keeps.same jb (hK3K jb (hK2K jb (hKK jb hKj))))).c0; obtain ⟨p0, p1⟩ := cells_two ((hH.keeps.same _ hK3p).trans HDR.out))))
            have HH2 := Lib.hid (hH.back hwX hK3K)
            clear hH j0 p0 p1 HWR
            go_wp2_with fail
            go_roundw
            case rel => exact ⟨q + 1, by omega, by simp, rfl, by rw [HPW.out]; exact HH2.out⟩
            case measure => simp [Go.RowKit.intOf]; omega
          · have hE := wroteE_down R hdn (s : Int) d
            have HWR := Lib.hid (held_write HX.out hwR (s : Int) d)
            rw [hE, wrote_down R hdn] at HWR
            have hfin := HPD.out hdn
            have hstep : P.step l = R := by
              unfold Dv.step Dv.fl
              rw [hfin, if_pos hdn]
            have hrun : M.runD ls = R := by rw [HT.out (by rw [hstep]; exact hdn), hstep]
            have HR := Lib.hid hrun
            clear hfin hstep hrun
            go_wp2_with fail
            clear hXX
            go_region_held3 (fun W' => W'.cell? ⟨jb, 0, none⟩ = some (devp b) ∧ W'.cell? ⟨wr.heap.size, 0, none⟩ = some (.int .i64 (s : Int)) ∧ W'.cell? ⟨wr.heap.size, 1, none⟩ = some (str d))
              (exact ⟨j0, p0, p1⟩)
              (first | (go_at_call 77; ((with_reducible refine HWR.out.mono ?_); rintro e w4 ⟨rfl, hH⟩; have j0 := (HJQ.out.kept (hH.keeps.same jb (hK3K jb (hK2K jb (hKK jb hKj))))).c0; obtain ⟨p0, p1⟩ := cells_two ((hH.keeps.same _ hK3p).trans HDR.out))))
            have HH2 := Lib.hid (hH.back hwX hK3K)
            clear hH j0 p0 p1 HWR
            go_wp2_with fail
            rw [Exit.noGoto_ret]
            go_ret
            exact ⟨by rw [HR.out, hdn]; rfl, by rw [HR.out]; exact HH2.out.back (hKV.trans hVw1 hKK) fun k hk => hK2K k (hKK k hk)⟩
        · obtain rfl : q = l.length := by omega
          have hQ := HQ.out
          rw [List.take_length] at hQ
          have HQ2 := Lib.hid hQ
          clear hQ HQ
          have hpr := puts_wr P l
          have j0 := (HJ1.out.kept (HQ2.out.keeps.same jb (hK2K jb (hKK jb hKj)))).c0
          cases hdn : (P.puts l).down
          · have hstep : P.step l = (P.puts l).flush := by
              unfold Dv.step Dv.fl
              rw [if_neg (by rw [hdn]; simp)]
            have hdn2 : (P.step l).down = false := by rw [hstep]; exact hdn
            have HF := Lib.hid (held_flush HQ2.out hdn (by omega))
            rw [← hstep] at HF
            clear hstep
            go_wp2_with fail
            refine HF.out.mono ?_
            rintro e w4 ⟨rfl, hH⟩
            have HH2 := Lib.hid (hH.back hVw1 hK2K)
            clear hH j0 HF
            go_wp2_with fail
            go_roundw
            case rel => exact ⟨k + 1, by omega, by simp, rfl, by rw [HS.out]; exact HH2.out, fun _ => by rw [HS.out]; exact hdn2⟩
            case measure => simp [Go.RowKit.intOf]; omega
          · have hstep : P.step l = P.puts l := by
              unfold Dv.step Dv.fl
              rw [if_pos hdn]
            have hrun : M.runD ls = P.puts l := by rw [HT.out (by rw [hstep]; exact hdn), hstep]
            have HR := Lib.hid hrun
            have HF := Lib.hid (held_flush_down HQ2.out hdn)
            clear hstep hrun
            go_wp2_with fail
            refine HF.out.mono ?_
            rintro e w4 ⟨rfl, hH⟩
            have HH2 := Lib.hid (hH.back hVw1 hK2K)
            clear hH j0 HF
            go_wp2_with fail
            rw [Exit.noGoto_ret]
            go_ret
            exact ⟨by rw [HR.out, hdn]; rfl, by rw [HR.out]; exact HH2.out.back hKV hKK⟩
    · obtain rfl : k = ls.length := by omega
      have hp : 0 < ls.length := List.length_pos_iff.2 hne
      have hdn := HD.out hp
      have hN := HN.out
      rw [List.take_length] at hdn hN
      have HN2 := Lib.hid hN
      clear hN HN
      have HR := Lib.hid hdn
      go_wp2_with fail
      rw [Exit.noGoto_ret]
      go_ret
      exact ⟨by rw [HR.out]; rfl, HN2.out.back hKV hKK⟩
end Go.Proofs.YtnfiapjdkjbdhaaGreat
/- Layer 4 (journal): the groups of a transaction, one by one. -/
namespace Go.Proofs.YtnfiapjdkjbdhaaGreat
open Go.RowKit Go.Maps Go.Shelf
set_option linter.unusedVariables false
set_option linter.unusedSimpArgs false
set_option maxRecDepth 10000
attribute [local go_sem] Oper.semAt_some
theorem chunk_any (A : Option Addr) (m c : Nat) (w : World) :
    Calls Tryz.prog 215 #[.slice A m c, .int .i64 32] w fun e w' => e = .returned (.func (.func 241) #[] #[.pointer (some ⟨w.heap.size, 0, none⟩), .pointer (some ⟨w.heap.size + 1, 0, none⟩)]) ∧
      w' = (w.alloc (.cells #[.slice A m c] 114)).alloc (.cells #[.int .i64 32] 3) := by
  have k0 : ((w.alloc (.cells #[.slice A m c] 114)).alloc (.cells #[.int .i64 32] 3)).cell? ⟨w.heap.size + 1, 0, none⟩ = some (.int .i64 32) := by
    exact (by simp)
  go_enter Tryz.func215, Tryz.ntmps215
  go_wp2
  go_ret
  exact ⟨rfl, rfl⟩
def groupV (g m j : Nat) : Value := .slice (some ⟨g, 32 * j * 2, none⟩) (min 32 (m - 32 * j)) (min 32 (m - 32 * j))
set_option maxHeartbeats 2000000 in
theorem chunk_in (l B1 B2 g m cap : Nat) (hm : m ≤ 1048576) (hcap : m ≤ cap) (hcap2 : cap ≤ maxLen) (J : Nat → World → Prop) (W : World)
    (hJ : ∀ j W', J j W' → W'.cell? ⟨B1, 0, none⟩ = some (.slice (some ⟨g, 0, none⟩) m cap) ∧ W'.cell? ⟨B2, 0, none⟩ = some (.int .i64 32)) (hd : ∀ j W', J j W' → J j W'.drew) (h0 : J 0 W)
    (hround : ∀ j, j < (m + 31) / 32 → ∀ W1, J j W1 → YieldAt Fence.wide 6 Tryz.prog l #[groupV g m j] W1 fun e W' => e = .returned (.bool true) ∧ J (j + 1) W') :
    CallsIn Fence.wide 7 Tryz.prog 241 #[.func (.yield l) #[] #[], .pointer (some ⟨B1, 0, none⟩), .pointer (some ⟨B2, 0, none⟩)] W fun e W' => (∃ v, e = .returned v) ∧ J ((m + 31) / 32) W' := by
  unfold maxLen at hcap2
  have HJ := Lib.hid hJ
  have HD := Lib.hid hd
  have HR := Lib.hid hround
  clear hJ hd hround
  refine callsIn_of_wp Tryz.func241 rfl trivial ?_ rfl
  simp only [Tryz.ntmps241, List.size_toArray, List.length_cons, List.length_nil, Nat.reduceAdd, Nat.reduceSub, Array.replicate_succ, Array.replicate_zero, List.push_toArray, List.append_toArray, List.nil_append, List.cons_append]
  gi_wp2
  gi_loopw [4] (fun i wr => ∃ j : Nat, j ≤ (m + 31) / 32 ∧ i = .int .i64 ((32 * j : Nat) : Int) ∧ J j wr) (fun i _ => m + 64 - (Go.RowKit.intOf i).toNat)
  case atStart => exact ⟨0, Nat.zero_le _, rfl, h0⟩
  case round =>
    obtain ⟨j, hj, rfl, hJj⟩ := hrel
    obtain ⟨c1, c2⟩ := HJ.out j wr hJj
    by_cases hlt : 32 * j < m
    · have hI : ((32 * j : Nat) : Int) < (m : Int) := by omega
      have hI1 : (0 : Int) ≤ ((32 * j : Nat) : Int) := by omega
      have hI2 : ((32 * j : Nat) : Int) ≤ (cap : Int) := by omega
      have hjN : j < (m + 31) / 32 := by omega
      obtain ⟨fn, tmps, assign, body, hy, hRr⟩ := HR.out j hjN wr.drew (HD.out j wr hJj)
      unfold groupV at hy
      generalize hk : 32 * j = k at *
      have HK := Lib.hid hk
      clear hk
      have hs : ((k : Int) + min 32 (((m - k : Nat)) : Int)).toNat - k = min 32 (m - k) := by omega
      rw [← hs] at hy
      have HS := Lib.hid hs
      clear hs
      gi_wp2
      gi_region
      gi_wp2
      refine hRr.mono ?_
      rintro e W3 ⟨rfl, hJ3⟩
      obtain ⟨c1, c2⟩ := HJ.out (j + 1) W3 hJ3
      gi_wp2
      go_roundw
      case rel => exact ⟨j + 1, by omega, by have := HK.out; congr 1; omega, hJ3⟩
      case measure => simp [Go.RowKit.intOf]; omega
    · have hI : decide (((32 * j : Nat) : Int) < (m : Int)) = false := decide_eq_false (by omega)
      obtain rfl : j = (m + 31) / 32 := by omega
      gi_wp2
      go_end0
      exact ⟨⟨_, rfl⟩, hJj⟩
set_option maxHeartbeats 2000000 in
theorem chunk_nil (l B1 B2 cap : Nat) (A : Option Addr) (J : Nat → World → Prop) (W : World) (hc : W.cell? ⟨B1, 0, none⟩ = some (.slice A 0 cap)) (h0 : J 0 W) :
    CallsIn Fence.wide 7 Tryz.prog 241 #[.func (.yield l) #[] #[], .pointer (some ⟨B1, 0, none⟩), .pointer (some ⟨B2, 0, none⟩)] W fun e W' => (∃ v, e = .returned v) ∧ J 0 W' := by
  refine callsIn_of_wp Tryz.func241 rfl trivial ?_ rfl
  simp only [Tryz.ntmps241, List.size_toArray, List.length_cons, List.length_nil, Nat.reduceAdd, Nat.reduceSub, Array.replicate_succ, Array.replicate_zero, List.push_toArray, List.append_toArray, List.nil_append, List.cons_append]
  gi_wp2
  gi_loopw [4] (fun i wr => i = .int .i64 0 ∧ W = wr) (fun i _ => 0)
  case atStart => exact ⟨rfl, rfl⟩
  case round =>
    obtain ⟨rfl, rfl⟩ := hrel
    gi_wp2
    go_end0
    exact ⟨⟨_, rfl⟩, h0⟩
def txtAppend (args : Array Value) : Sem Value := Builtin.append_ #[230, 230] 230 args
@[go_sem ↓] theorem txt_append_fold (args : Array Value) : Builtin.append_ #[230, 230] 230 args = txtAppend args := rfl
theorem txtInfo : (Tryz.prog.info? 9).map (fun i => (i.zero, i.size, i.bytes)) = some (some (str []), 1, 16) := by kernel_rfl
abbrev OwnT (W : World) (base : Nat) (v : Value) (ss : List (List UInt8)) : Prop := W.ownsRow base 9 1 v ss.length (ss.map str)
theorem append_txt (W : World) (base : Nat) (v : Value) (ss : List (List UInt8)) (s : List UInt8) (h : OwnT W base v ss) (a c : Nat) (hc : W.cell? ⟨a, 0, none⟩ = some (str s)) (hl : ss.length ≤ 1048576) (hb : base ≤ W.heap.size) :
    ∃ v' W', (txtAppend #[v, .slice (some ⟨a, 0, none⟩) 1 c]).run Tryz.prog W = .ok v' W' ∧ OwnT W' base v' (ss ++ [s]) ∧ W.grownBy W' v.ownBlock ∧ (v'.ownBlock = v.ownBlock ∨ v'.ownBlock = some W.heap.size) := by
  obtain ⟨i, hi, hz, hsz, hby⟩ := info_parts txtInfo
  obtain ⟨v', W', hap, hown, hg, _, hor⟩ := run_append_own_at (P := Tryz.prog) (w := W) base 230 230 9 i (str []) 1 16 Tryz.underlying230 hi hz hsz hby rfl (by decide) v ss.length (ss.map str) h
    ⟨a, 0, none⟩ 1 c [str s] rfl (fun j u hu => by
      rw [Addr.add_lit]
      cases j with
      | zero => simp at hu; subst hu; exact hc
      | succ j => simp at hu) (fun u hu => by simp at hu; subst hu; rfl) (by unfold maxLen; omega) (by omega) hb
  refine ⟨v', W', hap, ?_, hg, hor⟩
  show W'.ownsRow base 9 1 v' (ss ++ [s]).length ((ss ++ [s]).map str)
  rw [List.length_append, List.map_append]
  exact hown
theorem append_txts (W : World) (base : Nat) (v u : Value) (ss ts : List (List UInt8)) (h : OwnT W base v ss) (hu : OwnT W base u ts) (hl : ss.length + ts.length ≤ 1048576) (hb : base ≤ W.heap.size) :
    ∃ v' W', (txtAppend #[v, u]).run Tryz.prog W = .ok v' W' ∧ OwnT W' base v' (ss ++ ts) ∧ W.grownBy W' v.ownBlock := by
  obtain ⟨i, hi, hz, hsz, hby⟩ := info_parts txtInfo
  rcases hu.2 with ⟨rfl, h0⟩ | ⟨g, cap, cur, rfl, _⟩
  · have := List.length_eq_zero_iff.1 h0
    subst this
    refine ⟨v, W, run_append_owned_none W base 230 230 9 i 1 Tryz.underlying230 hi v _ _ h, by rw [List.append_nil]; exact h, ⟨rfl, rfl, rfl, Nat.le_refl _, fun _ _ _ => rfl⟩⟩
  · obtain ⟨v', W', hap, hown, hg, _, _⟩ := run_append_own_at (P := Tryz.prog) (w := W) base 230 230 9 i (str []) 1 16 Tryz.underlying230 hi hz hsz hby rfl (by decide) v ss.length (ss.map str) h
      ⟨g, 0, none⟩ ts.length cap (ts.map str) (by simp) (fun j x hj => hu.cells (g := g) rfl j x hj) (fun x hx => by obtain ⟨s, _, rfl⟩ := List.mem_map.1 hx; rfl) (by unfold maxLen; omega) (by omega) hb
    refine ⟨v', W', hap, ?_, hg⟩
    show W'.ownsRow base 9 1 v' (ss ++ ts).length ((ss ++ ts).map str)
    rw [List.length_append, List.map_append]
    exact hown
theorem owns_keep {W W' : World} {base : Nat} {e : TypeId} {v : Value} {n : Nat} {xs : List Value} (h : W.ownsRow base e 1 v n xs) (hk : ∀ k, v.ownBlock = some k → W'.heap[k]? = W.heap[k]?) : W'.ownsRow base e 1 v n xs := by
  refine ⟨h.1, ?_⟩
  rcases h.2 with h0 | ⟨g, cap, cur, rfl, hb, hg, hr⟩
  · exact .inl h0
  · exact .inr ⟨g, cap, cur, rfl, hb, (hk g rfl).trans hg, hr⟩
structure BodyI (W0 : World) (B : Nat) (ns cs : List (List UInt8)) (V : World) : Prop where
  only : Only (fun k => k = B ∨ k = B + 1) W0 V
  rows : ∃ nv cv, V.heap[B]? = some (.cells #[nv] 230 (0, 0)) ∧ V.heap[B + 1]? = some (.cells #[cv] 230 (0, 0)) ∧ OwnT V (W0.heap.size + 2) nv ns ∧ OwnT V (W0.heap.size + 2) cv cs ∧ (∀ k, nv.ownBlock = some k → cv.ownBlock ≠ some k)
section
variable {W0 V : World} {B : Nat} {ns cs : List (List UInt8)}
theorem own_slice {W : World} {base : Nat} {v : Value} {ss : List (List UInt8)} {s : List UInt8} (h : OwnT W base v (ss ++ [s])) : ∃ g m cap, v = .slice (some ⟨g, 0, none⟩) m cap := by
  rcases h.2 with ⟨_, h0⟩ | ⟨g, cap, cur, hv, _⟩
  · simp at h0
  · exact ⟨g, _, cap, hv⟩
theorem BodyI.same {V' : World} (h : BodyI W0 B ns cs V) (hB : B + 1 < W0.heap.size) (ho : V'.os = V.os) (ht : V'.tape = V.tape) (hu : V'.output = V.output) (hs : V.heap.size ≤ V'.heap.size)
    (hk : ∀ k, k < V.heap.size → k ≠ W0.heap.size → k ≠ W0.heap.size + 1 → V'.heap[k]? = V.heap[k]?) : BodyI W0 B ns cs V' := by
  obtain ⟨hO, nv, cv, h1, h2, h3, h4, h5⟩ := h
  have hsz := hO.size
  refine ⟨⟨ho.trans hO.os, ht.trans hO.tape, hu.trans hO.output, Nat.le_trans hO.size hs, fun k hkl hn => (hk k (by omega) (by omega) (by omega)).trans (hO.block k hkl hn)⟩,
    nv, cv, (hk B (by omega) (by omega) (by omega)).trans h1, (hk (B + 1) (by omega) (by omega) (by omega)).trans h2, ?_, ?_, h5⟩
  · refine ⟨h3.1, ?_⟩
    rcases h3.2 with h0 | ⟨g', cap, cur, hv, hb, hg, hr⟩
    · exact .inl h0
    · exact .inr ⟨g', cap, cur, hv, hb, (hk g' (Array.getElem?_eq_some_iff.1 hg).1 (by omega) (by omega)).trans hg, hr⟩
  · refine ⟨h4.1, ?_⟩
    rcases h4.2 with h0 | ⟨g', cap, cur, hv, hb, hg, hr⟩
    · exact .inl h0
    · exact .inr ⟨g', cap, cur, hv, hb, (hk g' (Array.getElem?_eq_some_iff.1 hg).1 (by omega) (by omega)).trans hg, hr⟩
theorem BodyI.put (h : BodyI W0 B ns cs V) (hB : B + 1 < W0.heap.size) (l : Nat) (o : Obj) (h1 : W0.heap.size ≤ l) (h2 : l ≤ W0.heap.size + 1) : BodyI W0 B ns cs (V.putObj l o) :=
  h.same hB rfl rfl rfl (by simp) (fun k _ h3 h4 => World.putObj_heap_other (by omega))
theorem BodyI.below {V' : World} (h : BodyI W0 B ns cs V) (hB : B + 1 < W0.heap.size) (hb : Below V.heap.size V V') : BodyI W0 B ns cs V' :=
  h.same hB hb.os hb.tape hb.output hb.size (fun k hk _ _ => hb.block k hk)
theorem BodyI.addC (h : BodyI W0 B ns cs V) (hB : B + 1 < W0.heap.size) (hV : W0.heap.size + 2 ≤ V.heap.size) (s : List UInt8) (hl : cs.length ≤ 1048576) :
    ∃ cv cv' W', V.cell? ⟨B + 1, 0, none⟩ = some cv ∧ (txtAppend #[cv, .slice (some ⟨V.heap.size, 0, none⟩) 1 1]).run Tryz.prog (V.alloc (.cells #[str s] 9)) = .ok cv' W' ∧ W'.cell? ⟨B + 1, 0, none⟩ = some cv ∧ W'.frozen? ⟨B + 1, 0, none⟩ = false ∧
      BodyI W0 B ns (cs ++ [s]) (W'.setCell ⟨B + 1, 0, none⟩ cv') ∧ KeepF W0.heap.size V (W'.setCell ⟨B + 1, 0, none⟩ cv') ∧ V.heap.size ≤ (W'.setCell ⟨B + 1, 0, none⟩ cv').heap.size ∧ ∃ g m cap, cv' = .slice (some ⟨g, 0, none⟩) m cap := by
  obtain ⟨hO, nv, cv, h1, h2, h3, h4, h5⟩ := h
  have hsz := hO.size
  obtain ⟨cv', W', hap, hown, hg, hor⟩ := append_txt (V.alloc (.cells #[str s] 9)) (W0.heap.size + 2) cv cs s (World.ownsRow.alloc h4 _) V.heap.size 1 (cell_new_l V _ _) hl (by simp; omega)
  have hvb : ∀ k, cv.ownBlock = some k → W0.heap.size + 2 ≤ k ∧ k < V.heap.size := fun k hk => h4.lt k hk
  have hs2 : V.heap.size + 1 ≤ W'.heap.size := by have := hg.size; simpa using this
  have hkeep : ∀ k, k < V.heap.size → cv.ownBlock ≠ some k → W'.heap[k]? = V.heap[k]? := fun k hk hne => (hg.block k (by simp; omega) (fun e => hne e.symm)).trans (Below.heap_alloc V _ k hk)
  have hlow : ∀ k, k < W0.heap.size + 2 → W'.heap[k]? = V.heap[k]? := fun k hk => hkeep k (by omega) (fun e => by have := hvb k e; omega)
  have hset : ∀ k, k ≠ B + 1 → (W'.setCell ⟨B + 1, 0, none⟩ cv').heap[k]? = W'.heap[k]? := fun k hk => set_other _ _ _ _ _ hk
  have hc' : W'.heap[B + 1]? = some (.cells #[cv] 230 (0, 0)) := (hlow _ (by omega)).trans h2
  refine ⟨cv, cv', W', cell_of_row _ _ 0 _ _ _ h2, hap, cell_of_row _ _ 0 _ _ _ hc', frozen_of_row _ _ 0 _ _ hc', ⟨⟨hg.os.trans hO.os, hg.tape.trans hO.tape, hg.output.trans hO.output, by rw [set_size]; omega, fun k hk hn => ?_⟩, nv, cv', ?_, ?_, ?_, ?_, ?_⟩, ⟨?_, ?_⟩, by rw [set_size]; omega, own_slice hown⟩
  · rw [hset k (fun e => hn (.inr e)), hlow k (by omega)]
    exact hO.block k hk hn
  · rw [hset B (by omega), hlow B (by omega)]; exact h1
  · exact heap_setCell_same W' (B + 1) 0 _ _ cv' hc'
  · refine owns_keep h3 fun k hk => ?_
    have := h3.lt k hk
    rw [hset k (by omega)]
    exact hkeep k this.2 (h5 k hk)
  · exact ownsRow_setCell_below hown (by show B + 1 < _; omega) _
  · intro k hk
    rcases hor with e | e
    · rw [e]; exact h5 k hk
    · rw [e]
      have := h3.lt k hk
      simp
      omega
  · rw [hset _ (by omega)]; exact hlow _ (by omega)
  · rw [hset _ (by omega)]; exact hlow _ (by omega)
theorem BodyI.addN (h : BodyI W0 B ns cs V) (hB : B + 1 < W0.heap.size) (hV : W0.heap.size + 2 ≤ V.heap.size) (s : List UInt8) (hl : ns.length ≤ 1048576) :
    ∃ cv cv' W', V.cell? ⟨B, 0, none⟩ = some cv ∧ (txtAppend #[cv, .slice (some ⟨V.heap.size, 0, none⟩) 1 1]).run Tryz.prog (V.alloc (.cells #[str s] 9)) = .ok cv' W' ∧ W'.cell? ⟨B, 0, none⟩ = some cv ∧ W'.frozen? ⟨B, 0, none⟩ = false ∧
      BodyI W0 B (ns ++ [s]) cs (W'.setCell ⟨B, 0, none⟩ cv') ∧ KeepF W0.heap.size V (W'.setCell ⟨B, 0, none⟩ cv') ∧ V.heap.size ≤ (W'.setCell ⟨B, 0, none⟩ cv').heap.size ∧ ∃ g m cap, cv' = .slice (some ⟨g, 0, none⟩) m cap := by
  obtain ⟨hO, cv, nv, h2, h1, h4, h3, h5⟩ := h
  have hsz := hO.size
  obtain ⟨cv', W', hap, hown, hg, hor⟩ := append_txt (V.alloc (.cells #[str s] 9)) (W0.heap.size + 2) cv ns s (World.ownsRow.alloc h4 _) V.heap.size 1 (cell_new_l V _ _) hl (by simp; omega)
  have hvb : ∀ k, cv.ownBlock = some k → W0.heap.size + 2 ≤ k ∧ k < V.heap.size := fun k hk => h4.lt k hk
  have hs2 : V.heap.size + 1 ≤ W'.heap.size := by have := hg.size; simpa using this
  have hkeep : ∀ k, k < V.heap.size → cv.ownBlock ≠ some k → W'.heap[k]? = V.heap[k]? := fun k hk hne => (hg.block k (by simp; omega) (fun e => hne e.symm)).trans (Below.heap_alloc V _ k hk)
  have hlow : ∀ k, k < W0.heap.size + 2 → W'.heap[k]? = V.heap[k]? := fun k hk => hkeep k (by omega) (fun e => by have := hvb k e; omega)
  have hset : ∀ k, k ≠ B → (W'.setCell ⟨B, 0, none⟩ cv').heap[k]? = W'.heap[k]? := fun k hk => set_other _ _ _ _ _ hk
  have hc' : W'.heap[B]? = some (.cells #[cv] 230 (0, 0)) := (hlow _ (by omega)).trans h2
  refine ⟨cv, cv', W', cell_of_row _ _ 0 _ _ _ h2, hap, cell_of_row _ _ 0 _ _ _ hc', frozen_of_row _ _ 0 _ _ hc', ⟨⟨hg.os.trans hO.os, hg.tape.trans hO.tape, hg.output.trans hO.output, by rw [set_size]; omega, fun k hk hn => ?_⟩, cv', nv, ?_, ?_, ?_, ?_, ?_⟩, ⟨?_, ?_⟩, by rw [set_size]; omega, own_slice hown⟩
  · rw [hset k (fun e => hn (.inl e)), hlow k (by omega)]
    exact hO.block k hk hn
  · exact heap_setCell_same W' B 0 _ _ cv' hc'
  · rw [hset (B + 1) (by omega), hlow (B + 1) (by omega)]; exact h1
  · exact ownsRow_setCell_below hown (by show B < _; omega) _
  · refine owns_keep h3 fun k hk => ?_
    have := h3.lt k hk
    rw [hset k (by omega)]
    exact hkeep k this.2 (fun e => h5 k e hk)
  · intro k hk e2
    have h6 := h3.lt k e2
    rcases hor with e | e
    · rw [e] at hk; exact h5 k hk e2
    · rw [e] at hk
      cases hk
      simp at h6
      omega
  · rw [hset _ (by omega)]; exact hlow _ (by omega)
  · rw [hset _ (by omega)]; exact hlow _ (by omega)
end
end Go.Proofs.YtnfiapjdkjbdhaaGreat
