/- Layer 8 (tx): the document's answer: Patch, Commit. -/
import Derived.Test.YthgdkpkhnhjifaaGreatTxR2
namespace Go.Proofs.YthgdkpkhnhjifaaGreat
open Go.RowKit Go.Maps
set_option linter.unusedVariables false
set_option linter.unusedSimpArgs false
set_option maxRecDepth 10000
section
variable {W : World} {rb : Nat} {v u : Value} {L : PutL} {most : Nat}
theorem refPatch_out (h : RefIn W rb v u L most) {ss : List (List UInt8)} (hv : Txt W v ss) (hs : ss.length ≤ 4096) (i f : Int) (s : List UInt8) (hi : i < 0 ∨ (ss.length : Int) ≤ i) :
    Calls Tryz.prog 39 #[devp rb, .int .i64 i, .int .i64 f, str s] W fun e w' => e = .returned (.int .i64 2) ∧ Below W.heap.size W w' := by
  have HR := Lib.hid (refRead_out h hv hs i hi)
  have c3 := h.c3
  clear h hv hi
  go_enter Tryz.func39, Tryz.ntmps39
  go_wp2_with fail
  refine HR.out.mono ?_
  rintro e w1 ⟨rfl, hb⟩
  have HB := Lib.hid hb
  clear hb
  go_wp2_with fail
  go_ret
  exact ⟨rfl, HB.out⟩
theorem refPatch_bad (h : RefIn W rb v u L most) {N : Nat} {g : Nat → List UInt8} (hv : Txt W v (secs N g)) (hN : N ≤ 4096) (i : Nat) (hi : i < N) (f : Int) (s : List UInt8) (hs : s.length ≤ 140737488351232) (hf : f < 0 ∨ 64 - (s.length : Int) < f) :
    Calls Tryz.prog 39 #[devp rb, .int .i64 (i : Int), .int .i64 f, str s] W fun e w' => e = .returned (.int .i64 2) ∧ Below W.heap.size W w' := by
  have HR := Lib.hid (refRead_any h hv hN i hi)
  have c3 := h.c3
  clear h hv hi
  generalize (look L i).getD (g i) = now at *
  by_cases h0 : f < 0
  · have d0 : decide (f < 0) = true := decide_eq_true h0
    go_enter Tryz.func39, Tryz.ntmps39
    go_wp2_with fail
    refine HR.out.mono ?_
    rintro e w1 ⟨rfl, hb⟩
    have HB := Lib.hid hb
    clear hb
    go_wp2_with fail
    go_ret
    exact ⟨rfl, HB.out⟩
  have d0 : decide (f < 0) = false := decide_eq_false h0
  by_cases h1 : 64 < f
  · have d1 : decide (64 < f) = true := decide_eq_true h1
    go_enter Tryz.func39, Tryz.ntmps39
    go_wp2_with fail
    refine HR.out.mono ?_
    rintro e w1 ⟨rfl, hb⟩
    have HB := Lib.hid hb
    clear hb
    go_wp2_with fail
    go_ret
    exact ⟨rfl, HB.out⟩
  · have d1 : decide (64 < f) = false := decide_eq_false h1
    have d2 : decide (64 - f < (s.length : Int)) = true := decide_eq_true (by omega)
    have h2 : f ≤ 64 := by omega
    have h3 : 0 ≤ f := by omega
    clear hf
    go_enter Tryz.func39, Tryz.ntmps39
    go_wp2_with fail
    refine HR.out.mono ?_
    rintro e w1 ⟨rfl, hb⟩
    have HB := Lib.hid hb
    clear hb
    go_wp2_with fail
    go_ret
    exact ⟨rfl, HB.out⟩
set_option maxHeartbeats 1000000 in
theorem refPatch_any (h : RefIn W rb v u L most) {N : Nat} {g : Nat → List UInt8} (hv : Txt W v (secs N g)) (hN : N ≤ 4096) (i : Nat) (hi : i < N) (f : Nat) (s : List UInt8) (hf : f + s.length ≤ 64) (h64 : ((look L i).getD (g i)).length = 64) (Q : Value → World → Prop)
    (hw : ∀ V, Below W.heap.size W V → Calls Tryz.prog 25 #[devp rb, .int .i64 (i : Int), str (over ((look L i).getD (g i)) f s)] V fun e w' => ∃ r, e = .returned r ∧ Q r w') :
    Calls Tryz.prog 39 #[devp rb, .int .i64 (i : Int), .int .i64 (f : Int), str s] W fun e w' => ∃ r, e = .returned r ∧ Q r w' := by
  have HR := Lib.hid (refRead_any h hv hN i hi)
  have c3 := h.c3
  have HW := Lib.hid hw
  generalize (look L i).getD (g i) = now at *
  have b1 : (f : Int) ≤ (now.length : Int) := by omega
  have b2 : (f : Int) + (s.length : Int) ≤ (now.length : Int) := by omega
  have b3 : (0 : Int) ≤ (f : Int) + (s.length : Int) := by omega
  have b4 : IntKind.i64.wrap ((f : Int) + (s.length : Int)) = (f : Int) + (s.length : Int) := IntWalk.i64_in _ (by omega)
  have b5 : ((f : Int) + (s.length : Int)).toNat = f + s.length := by omega
  have b6 : ¬ 9223372036854775807 < min f now.length + s.length := by omega
  have b7 : ¬ 9223372036854775807 < min f now.length + s.length + (now.length - (f + s.length)) := by omega
  have b8 : ¬ 9223372036854775807 < min f now.length + (s.length + (now.length - (f + s.length))) := by omega
  have d0 : decide ((f : Int) < 0) = false := decide_eq_false (by omega)
  have d1 : decide ((64 : Int) < (f : Int)) = false := decide_eq_false (by omega)
  have d2 : decide (64 - (f : Int) < (s.length : Int)) = false := decide_eq_false (by omega)
  have h2 : (f : Int) ≤ 64 := by omega
  have d3 : decide (64 < f) = false := decide_eq_false (by omega)
  unfold over at HW
  rw [List.append_assoc] at HW
  clear h hw hv h64
  go_enter Tryz.func39, Tryz.ntmps39
  go_wp2_with fail
  refine HR.out.mono ?_
  rintro e Y ⟨rfl, hb⟩
  have HBY := Lib.hid hb
  clear hb
  go_wp2_with fail
  go_region_held3 (fun W' => True)
    (exact trivial)
    (first | (go_at_call 25; ((with_reducible refine (HW.out _ (HBY.out.drew)).mono ?_); rintro e w4 ⟨r, rfl, hq⟩; have HQ := Lib.hid hq; clear hq)))
  go_wp2_with fail
  go_ret
  exact ⟨_, rfl, HQ.out⟩
set_option maxHeartbeats 1000000 in
theorem refCommit_any (h : RefIn W rb v u L most) (N : Nat) (f : Nat → List UInt8) (hv : Txt W v (secs N f)) (hl : ∀ p ∈ L, p.1 < N) (hN : N ≤ 4096) (hN0 : 0 < N) :
    Calls Tryz.prog 20 #[devp rb] W fun e w' => ∃ v', e = .returned v' ∧ OwnT w' W.heap.size v' (secs N (laid f L)) ∧ Only (fun k => k = rb) W w' := by
  obtain ⟨A0, c0', rfl, -⟩ := hv.at
  obtain ⟨v1, W1, hap, hown1, hb1⟩ := append_clone W W.heap.size _ (secs N f) hv (fun e => by have := secs_length N f; rw [e] at this; simp at this; omega) (by rw [secs_length]; omega) (Nat.le_refl _)
  have c0 := h.c0
  have hlt := h.lt.1
  have HI := Lib.hid h
  have HL := Lib.hid hl
  have hrow := h.row
  obtain ⟨B, c, rfl, hcap, hnone, hcells⟩ := hrow
  have HC := Lib.hid hcells
  have hsm := h.small
  rw [secs_length] at hap c0
  obtain ⟨g1, cap1, hv1, -⟩ := own_form hown1 (by rw [secs_length]; exact hN0)
  subst hv1
  have h1 := Lib.hid hown1
  have h2 := Lib.hid hb1
  clear h hv hl hown1 hb1 hcells
  go_enter Tryz.func20, Tryz.ntmps20
  go_wp2_with fail
  go_loopw [4] (fun i wr => ∃ k : Nat, k ≤ L.length ∧ i = .int .i64 k ∧ OwnT wr W.heap.size (.slice (some ⟨g1, 0, none⟩) (secs N f).length cap1) (secs N (laid f (L.take k))) ∧ Below W.heap.size W wr) (fun i _ => L.length - (intOf i).toNat)
  case atStart => exact ⟨0, Nat.zero_le _, rfl, h1.out, h2.out⟩
  case round =>
    obtain ⟨k, hk, rfl, hown, hb⟩ := hrel
    have hsz := hb.size
    have k1 := (HI.out.below hb).c1
    have k3 := (HI.out.below hb).c3
    have f3 := (HI.out.below hb).f3
    by_cases hltk : k < L.length
    · obtain ⟨g, rfl, hc1, hc2⟩ := HC.out k hltk
      have hlN := HL.out L[k] (List.getElem_mem _)
      have hts : laid f (L.take (k + 1)) = upd (laid f (L.take k)) L[k].1 L[k].2 := by rw [List.take_succ_eq_append_getElem hltk, laid_snoc]
      have hd1 := (hb.cell (World.block_lt_of_cell? W _ hc1)).trans hc1
      have hd2 := (hb.cell (World.block_lt_of_cell? W _ hc2)).trans hc2
      clear hc1 hc2
      have HT := Lib.hid hts
      clear hts
      generalize laid f (L.take k) = fk at *
      generalize L[k] = p at hd1 hd2 HT hlN
      obtain ⟨s, d⟩ := p
      simp only at hd1 hd2 hlN
      obtain ⟨gg, cap, hvg, hg1, hg2, hcc1, hcc2⟩ := own_form hown (by rw [secs_length]; omega)
      obtain ⟨rfl, rfl⟩ : g1 = gg ∧ cap1 = cap := by injection hvg with e1 e2 e3; injection e1 with e1; injection e1 with e1; exact ⟨e1, e3⟩
      have hlen : (secs N fk).length = N := secs_length N fk
      rw [secs_length] at hown
      unfold OwnT at hown
      rw [hlen] at hown hcc1
      clear hvg
      have hcell := hown.cellAt s (by rw [Nat.mul_one]; exact hlN)
      rw [List.getElem?_map, List.getElem?_eq_getElem (by rw [secs_length]; exact hlN)] at hcell
      have hfrz := hown.frozenAt s
      obtain ⟨hst, -⟩ := hown.stored s (str d)
      rw [← List.map_set, secs_set N fk s hlN] at hst
      have hfin : OwnT (wr.setCell ⟨g1, s, none⟩ (str d)) W.heap.size (.slice (some ⟨g1, 0, none⟩) N cap1) (secs N (upd fk s d)) := by
        show World.ownsRow _ _ _ _ _ _ _
        rw [secs_length]
        exact hst
      have HF := Lib.hid hfin
      have HB := Lib.hid (hb.setCell (p := ⟨g1, s, none⟩) hg1 (str d))
      have hI : (k : Int) < (L.length : Int) := by omega
      have hs0 : s < (secs N f).length := by rw [secs_length]; exact hlN
      clear hown hst hfin hlen f3 k3
      go_wp2_with fail
      go_region
      go_wp2_with fail
      go_roundw
      case rel => exact ⟨k + 1, by omega, by simp, by rw [HT.out, secs_length N f]; exact HF.out, HB.out.drew⟩
      case measure => simp [intOf]; omega
    · obtain rfl : k = L.length := by omega
      rw [List.take_length] at hown
      have hfin : OwnT (wr.setCell ⟨rb, 3, none⟩ (.bool true)) W.heap.size (.slice (some ⟨g1, 0, none⟩) (secs N f).length cap1) (secs N (laid f L)) := by
        have := ownsRow_setCell_below (a := ⟨rb, 3, none⟩) hown hlt (.bool true)
        exact this
      have HF := Lib.hid hfin
      have HO := Lib.hid ((Only.of_below (S := fun k => k = rb) hb).trans (Only.setCell (fun k => k = rb) wr ⟨rb, 3, none⟩ (.bool true) rfl) fun j hj => .inl hj)
      clear hfin hown hb
      go_wp2_with fail
      go_ret
      exact ⟨_, rfl, HF.out, HO.out⟩
end
end Go.Proofs.YthgdkpkhnhjifaaGreat
