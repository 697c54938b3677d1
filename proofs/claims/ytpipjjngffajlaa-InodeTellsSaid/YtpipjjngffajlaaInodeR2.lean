/- Layer 7 (inode), the document's answers: May whole, and Put. Written by tools/geninoder2.py. -/
import Derived.Test.YtpipjjngffajlaaInodeR1
namespace Go.Proofs.Ytpipjjngffajlaa
open Go.RowKit
set_option linter.unusedVariables false
set_option linter.unusedSimpArgs false
set_option maxRecDepth 10000
theorem refMay_any (x : Im) (hf : x.fits) (w : World) :
    Calls Try.prog 18 #[x.v] w fun e w' => e = .returned (.bool (decide x.may)) ∧ Below w.heap.size w w' := by
  by_cases h0 : x.k = 0
  · exact refMay_zero x h0 w
  by_cases hh : headBad x = true
  · have hm : ¬ x.may := by
      unfold Im.may
      rw [if_neg h0]
      rintro ⟨h1, h2, h3, h4, _⟩
      unfold headBad at hh
      simp only [Bool.or_eq_true, Bool.and_eq_true, decide_eq_true_eq] at hh
      rcases hh with ((hh | hh) | hh) | ⟨hh, hh2⟩
      · omega
      · omega
      · omega
      · exact hh2 (h4 hh)
    have e : decide x.may = false := by simp [hm]
    rw [e]
    exact refMay_bad x h0 hh hf.2.2.1 w
  · unfold headBad at hh
    simp only [Bool.or_eq_true, Bool.and_eq_true, decide_eq_true_eq, not_or, not_and] at hh
    obtain ⟨⟨⟨h1, h2⟩, h3⟩, h4⟩ := hh
    refine refMay_rows x h0 h1 h2 h3 _ _ rfl rfl ?_ hf w _ ?_
    · by_cases hk : x.k = 2
      · have := h4 hk
        simp only [Bool.and_eq_false_imp]
        intro _
        simp
        omega
      · simp only [Bool.and_eq_false_imp]
        intro e
        simp at e
        omega
    · rw [decide_eq_true_eq, rows_ok]
      unfold Im.may
      rw [if_neg h0]
      constructor
      · rintro ⟨_, _, _, _, h5, h6⟩; exact ⟨h5, h6⟩
      · rintro ⟨h5, h6⟩
        exact ⟨by omega, by omega, by omega, fun e => by have := h4 e; omega, h5, h6⟩
theorem conv_kind (W : World) (g : Nat) (n : Int) (t : List UInt8) (h : W.heap[g]? = some (.cells #[.int .u8 n, .int .u8 0] 5 (0, 0))) (ht : [UInt8.ofNat n.toNat, 0] = t) :
    (convert 60 9 (.slice (some ⟨g, 0, none⟩) 2 2)).run Try.prog W = .ok (str t) W := by
  subst ht
  exact conv_two 60 9 5 Try.underlying60 Try.underlying5 Try.underlying9 W n 0 g h
theorem two_below (n : Nat) (w : World) (h : n < 65536) :
    Calls Try.prog 30 #[w16 n] w fun e w' => e = .returned (str (leB 2 n)) ∧ Below w.heap.size w w' := by
  refine (two_any n w h).mono ?_
  rintro e w' ⟨rfl, rfl⟩
  exact ⟨rfl, (Below.refl _ _).alloc (Nat.le_refl _) _⟩
theorem leB4_two (z : Nat) (h : z < 4294967296) : leB 4 z = leB 2 (z % 65536) ++ leB 2 (z / 65536) := by
  simp only [leB, List.cons_append, List.nil_append, List.cons.injEq, and_true]
  refine ⟨?_, ?_, ?_, ?_⟩ <;> congr 1 <;> omega
set_option maxHeartbeats 40000000 in
theorem refPut_any (x : Im) (hf : x.fits) (w : World) :
    Calls Try.prog 20 #[x.v] w fun e w' => e = .returned (str x.putL) ∧ Below w.heap.size w w' := by
  have H1 := Lib.hid fun W => two_below x.n W hf.2.1
  have hz := hf.2.2.1
  have H2 := Lib.hid fun W => two_below (x.z % 65536) W (by omega)
  have H3 := Lib.hid fun W => two_below (x.z / 65536) W (by omega)
  have hzm : IntKind.u16.wrap (x.z : Int) = ((x.z % 65536 : Nat) : Int) := by simp [IntKind.wrap, IntKind.bits, IntKind.signed]
  have hzd : ((x.z : Int) / 65536) = ((x.z / 65536 : Nat) : Int) := by omega
  have hqw : IntKind.u16.wrap ((x.z / 65536 : Nat) : Int) = ((x.z / 65536 : Nat) : Int) := IntWalk.u16_in _ (by omega)
  have hp16 : x.z % 65536 < 65536 := by omega
  have hq16 : x.z / 65536 < 65536 := by omega
  have HB := Lib.hid fun W => blocks_any x W
  have Hlt := Lib.hid (bl_lt hf)
  have hlen := bl_len x
  have ht0 : [UInt8.ofNat ((x.k : Int)).toNat, 0] = leB 1 x.k ++ leB 1 0 := by
    simp [leB, Nat.mod_eq_of_lt hf.1]
  have m0 : (leB 1 x.k ++ leB 1 0).length = 2 := by simp [leB_length]
  have m1 : (leB 2 x.n).length = 2 := leB_length _ _
  have m2 : (leB 2 (x.z % 65536)).length = 2 := leB_length _ _
  have m3 : (leB 2 (x.z / 65536)).length = 2 := leB_length _ _
  have hs0 : (leB 1 x.k ++ leB 1 0 ++ (leB 2 x.n ++ (leB 2 (x.z % 65536) ++ leB 2 (x.z / 65536)))).length = 8 := by simp [leB_length]
  have HF : Hid (x.putL = (leB 1 x.k ++ leB 1 0 ++ (leB 2 x.n ++ (leB 2 (x.z % 65536) ++ leB 2 (x.z / 65536)))) ++ catL x.bl ++ List.replicate 14 0) := Lib.hid (by rw [Im.putL, leB4_two x.z hz]; simp [catL, Im.bl, List.append_assoc])
  have Ht0 := Lib.hid ht0
  generalize leB 1 x.k ++ leB 1 0 = t0 at *
  generalize leB 2 x.n = t1 at *
  generalize leB 2 (x.z % 65536) = t2 at *
  generalize leB 2 (x.z / 65536) = t3 at *
  generalize x.putL = tt at *
  generalize x.z % 65536 = p at *
  generalize x.z / 65536 = q at *
  generalize hL : x.bl = l at *
  clear hL ht0
  go_enter Try.func20, Try.ntmps20
  go_upto_region 1 with fail
  have HX0 := Lib.hid (heap_alloc_new w (.cells #[.int .u8 x.k, w16 x.n, .int .u32 x.z, w16 x.d0, w16 x.d1, w16 x.d2, w16 x.d3, w16 x.i] 26))
  have k0 := cell_of_row _ _ 0 _ _ (0, 0) HX0.out
  have k1 := cell_of_row _ _ 1 _ _ (0, 0) HX0.out
  have k2 := cell_of_row _ _ 2 _ _ (0, 0) HX0.out
  simp only [List.getElem?_toArray, List.getElem?_cons_zero, List.getElem?_cons_succ] at k0 k1 k2
  have HW := Lib.hid ((Below.refl w.heap.size w).alloc (Nat.le_refl _) (.cells #[.int .u8 x.k, w16 x.n, .int .u32 x.z, w16 x.d0, w16 x.d1, w16 x.d2, w16 x.d3, w16 x.i] 26))
  have hltA : w.heap.size < (w.alloc (.cells #[.int .u8 x.k, w16 x.n, .int .u32 x.z, w16 x.d0, w16 x.d1, w16 x.d2, w16 x.d3, w16 x.i] 26)).heap.size := by simp
  generalize w.alloc (.cells #[.int .u8 x.k, w16 x.n, .int .u32 x.z, w16 x.d0, w16 x.d1, w16 x.d2, w16 x.d3, w16 x.i] 26) = V0 at *
  go_cut [3] (fun q wx => q = str (t0 ++ (t1 ++ (t2 ++ t3))) ∧ Below V0.heap.size V0 wx)
  case first =>
    as_aux_lemma =>
      have ht0 := Ht0.out
      go_wp2_with fail
      have hX := Lib.hid ((Below.refl V0.heap.size V0).drew)
      refine wp_region_held_drew (S := (fun W => W.cell? ⟨w.heap.size, 0, none⟩ = some (.int .u8 x.k) ∧ W.cell? ⟨w.heap.size, 1, none⟩ = some (w16 x.n) ∧ W.cell? ⟨w.heap.size, 2, none⟩ = some (.int .u32 x.z))) (by kernel_rfl) (⟨k0, k1, k2⟩) (fun hHeld => ?_)
      generalize hW0 : V0.drew = W0 at *
      refine wpAnyH_take (i := 0) (oi := _) (v := ?_) rfl (by kernel_rfl) (by kernel_rfl) (by kernel_rfl) (fun _ _ _ h => h) (Or.inl ⟨by rfl, ?_⟩) (by assumption) ?_
      rotate_left
      · intro w hSw
        try dsimp only at hSw
        go_simp
        try with_reducible rfl
      (try simp only [Act.put, List.setIfInBounds_toArray, List.set_cons_zero, List.set_cons_succ, List.getElem_toArray, List.getElem_cons_zero, List.getElem_cons_succ])
      refine wpAnyH_take (i := 1) (oi := _) (v := ?_) rfl (by kernel_rfl) (by kernel_rfl) (by kernel_rfl) (fun _ _ _ h => h) (Or.inl ⟨by rfl, ?_⟩) (by assumption) ?_
      rotate_left
      · intro w hSw
        try dsimp only at hSw
        go_simp
        try with_reducible rfl
      (try simp only [Act.put, List.setIfInBounds_toArray, List.set_cons_zero, List.set_cons_succ, List.getElem_toArray, List.getElem_cons_zero, List.getElem_cons_succ])
      refine wpAnyH_take (i := 4) (oi := _) (v := ?_) rfl (by kernel_rfl) (by kernel_rfl) (by kernel_rfl) (fun _ _ _ h => h) (Or.inl ⟨by rfl, ?_⟩) (by assumption) ?_
      rotate_left
      · intro w hSw
        try dsimp only at hSw
        go_simp
        try with_reducible rfl
      (try simp only [Act.put, List.setIfInBounds_toArray, List.set_cons_zero, List.set_cons_succ, List.getElem_toArray, List.getElem_cons_zero, List.getElem_cons_succ])
      refine wpAnyH_take (i := 5) (oi := _) (v := ?_) rfl (by kernel_rfl) (by kernel_rfl) (by kernel_rfl) (fun _ _ _ h => h) (Or.inl ⟨by rfl, ?_⟩) (by assumption) ?_
      rotate_left
      · intro w hSw
        try dsimp only at hSw
        go_simp
        try with_reducible rfl
      (try simp only [Act.put, List.setIfInBounds_toArray, List.set_cons_zero, List.set_cons_succ, List.getElem_toArray, List.getElem_cons_zero, List.getElem_cons_succ])
      refine wpAnyH_take (i := 8) (oi := _) (v := ?_) rfl (by kernel_rfl) (by kernel_rfl) (by kernel_rfl) (fun _ _ _ h => h) (Or.inl ⟨by rfl, ?_⟩) (by assumption) ?_
      rotate_left
      · intro w hSw
        try dsimp only at hSw
        go_simp
        try with_reducible rfl
      (try simp only [Act.put, List.setIfInBounds_toArray, List.set_cons_zero, List.set_cons_succ, List.getElem_toArray, List.getElem_cons_zero, List.getElem_cons_succ])
      refine wpAnyH_take (i := 9) (oi := _) (v := ?_) rfl (by kernel_rfl) (by kernel_rfl) (by kernel_rfl) (fun _ _ _ h => h) (Or.inl ⟨by rfl, ?_⟩) (by assumption) ?_
      rotate_left
      · intro w hSw
        try dsimp only at hSw
        go_simp
        try with_reducible rfl
      (try simp only [Act.put, List.setIfInBounds_toArray, List.set_cons_zero, List.set_cons_succ, List.getElem_toArray, List.getElem_cons_zero, List.getElem_cons_succ])
      refine wpAnyH_take (i := 10) (oi := _) (v := ?_) rfl (by kernel_rfl) (by kernel_rfl) (by kernel_rfl) (fun _ _ _ h => h) (Or.inl ⟨by rfl, ?_⟩) (by assumption) ?_
      rotate_left
      · intro w hSw
        try dsimp only at hSw
        go_simp
        try with_reducible rfl
      (try simp only [Act.put, List.setIfInBounds_toArray, List.set_cons_zero, List.set_cons_succ, List.getElem_toArray, List.getElem_cons_zero, List.getElem_cons_succ])
      refine wpAnyH_take (i := 13) (oi := _) (v := ?_) rfl (by kernel_rfl) (by kernel_rfl) (by kernel_rfl) (fun _ _ _ h => h) (Or.inl ⟨by rfl, ?_⟩) (by assumption) ?_
      rotate_left
      · intro w hSw
        try dsimp only at hSw
        go_simp
        try with_reducible rfl
      (try simp only [Act.put, List.setIfInBounds_toArray, List.set_cons_zero, List.set_cons_succ, List.getElem_toArray, List.getElem_cons_zero, List.getElem_cons_succ])
      refine wpAnyH_take (i := 14) (oi := _) (v := ?_) rfl (by kernel_rfl) (by kernel_rfl) (by kernel_rfl) (fun _ _ _ h => h) (Or.inl ⟨by rfl, ?_⟩) (by assumption) ?_
      rotate_left
      · intro w hSw
        try dsimp only at hSw
        go_simp
        try with_reducible rfl
      (try simp only [Act.put, List.setIfInBounds_toArray, List.set_cons_zero, List.set_cons_succ, List.getElem_toArray, List.getElem_cons_zero, List.getElem_cons_succ])
      refine wpAnyH_take (i := 15) (oi := _) (v := ?_) rfl (by kernel_rfl) (by kernel_rfl) (by kernel_rfl) (fun _ _ _ h => h) (Or.inl ⟨by rfl, ?_⟩) (by assumption) ?_
      rotate_left
      · intro w hSw
        try dsimp only at hSw
        go_simp
        try with_reducible rfl
      (try simp only [Act.put, List.setIfInBounds_toArray, List.set_cons_zero, List.set_cons_succ, List.getElem_toArray, List.getElem_cons_zero, List.getElem_cons_succ])
      refine wpAnyH_take (i := 16) (oi := _) (v := ?_) rfl (by kernel_rfl) (by kernel_rfl) (by kernel_rfl) (fun _ _ _ h => h) (Or.inl ⟨by rfl, ?_⟩) (by assumption) ?_
      rotate_left
      · intro w hSw
        try dsimp only at hSw
        go_simp
        try with_reducible rfl
      (try simp only [Act.put, List.setIfInBounds_toArray, List.set_cons_zero, List.set_cons_succ, List.getElem_toArray, List.getElem_cons_zero, List.getElem_cons_succ])
      refine wpAnyH_ready (rs := [2, 6]) (by kernel_rfl) (by simp) ?_
      refine AllReadyH.cons (o := _) rfl (fun K hK => ?_) ?_
      · go_simp
        have hs := Lib.hid ((Below.refl _ _).alloc (Nat.le_refl _) (.cells #[.int .u8 x.k, .int .u8 0] 5) : Below W0.heap.size W0 (W0.alloc (.cells #[.int .u8 x.k, .int .u8 0] 5)))
        have FB := Lib.hid (heap_alloc_new W0 (.cells #[.int .u8 x.k, .int .u8 0] 5))
        have hX := Lib.hid (hX.out.trans (hs.out.mono hX.out.size))
        clear hs
        refine hK.out _ _ (⟨(hX.out.cell (p := ⟨w.heap.size, 0, none⟩) hltA).trans k0, (hX.out.cell (p := ⟨w.heap.size, 1, none⟩) hltA).trans k1, (hX.out.cell (p := ⟨w.heap.size, 2, none⟩) hltA).trans k2⟩) (fun hHeld => ?_)
        clear hK K
        (try simp only [Act.put, List.setIfInBounds_toArray, List.set_cons_zero, List.set_cons_succ, List.getElem_toArray, List.getElem_cons_zero, List.getElem_cons_succ])
        generalize W0.alloc (.cells #[.int .u8 x.k, .int .u8 0] 5) = W1 at *
        refine wpAnyH_ready (rs := [3, 6]) (by kernel_rfl) (by simp) ?_
        refine AllReadyH.cons (o := _) rfl (fun K hK => ?_) ?_
        · have hcv := conv_kind _ _ _ _ FB.out ht0
          go_simp
          clear hcv
          refine hK.out _ _ (⟨(hX.out.cell (p := ⟨w.heap.size, 0, none⟩) hltA).trans k0, (hX.out.cell (p := ⟨w.heap.size, 1, none⟩) hltA).trans k1, (hX.out.cell (p := ⟨w.heap.size, 2, none⟩) hltA).trans k2⟩) (fun hHeld => ?_)
          clear hK K
          (try simp only [Act.put, List.setIfInBounds_toArray, List.set_cons_zero, List.set_cons_succ, List.getElem_toArray, List.getElem_cons_zero, List.getElem_cons_succ])
          refine wpAnyH_ready (rs := [6]) (by kernel_rfl) (by simp) ?_
          refine AllReadyH.cons (o := _) rfl (fun K hK => ?_) AllReadyH.nil
          go_simp
          with_reducible refine (H1.out _).mono ?_
          rintro e W2 ⟨rfl, hs⟩
          have hX := Lib.hid (hX.out.trans (hs.mono hX.out.size))
          clear hs
          refine hK.out _ _ (⟨(hX.out.cell (p := ⟨w.heap.size, 0, none⟩) hltA).trans k0, (hX.out.cell (p := ⟨w.heap.size, 1, none⟩) hltA).trans k1, (hX.out.cell (p := ⟨w.heap.size, 2, none⟩) hltA).trans k2⟩) (fun hHeld => ?_)
          clear hK K
          (try simp only [Act.put, List.setIfInBounds_toArray, List.set_cons_zero, List.set_cons_succ, List.getElem_toArray, List.getElem_cons_zero, List.getElem_cons_succ])
          refine wpAnyH_take (i := 7) (oi := _) (v := ?_) rfl (by kernel_rfl) (by kernel_rfl) (by kernel_rfl) (fun _ _ _ h => h) (Or.inl ⟨by rfl, ?_⟩) (by assumption) ?_
          rotate_left
          · intro w hSw
            try dsimp only at hSw
            go_simp
            try with_reducible rfl
          (try simp only [Act.put, List.setIfInBounds_toArray, List.set_cons_zero, List.set_cons_succ, List.getElem_toArray, List.getElem_cons_zero, List.getElem_cons_succ])
          refine wpAnyH_ready (rs := [11]) (by kernel_rfl) (by simp) ?_
          refine AllReadyH.cons (o := _) rfl (fun K hK => ?_) AllReadyH.nil
          go_simp
          with_reducible refine (H2.out _).mono ?_
          rintro e W3 ⟨rfl, hs⟩
          have hX := Lib.hid (hX.out.trans (hs.mono hX.out.size))
          clear hs
          refine hK.out _ _ (⟨(hX.out.cell (p := ⟨w.heap.size, 0, none⟩) hltA).trans k0, (hX.out.cell (p := ⟨w.heap.size, 1, none⟩) hltA).trans k1, (hX.out.cell (p := ⟨w.heap.size, 2, none⟩) hltA).trans k2⟩) (fun hHeld => ?_)
          clear hK K
          (try simp only [Act.put, List.setIfInBounds_toArray, List.set_cons_zero, List.set_cons_succ, List.getElem_toArray, List.getElem_cons_zero, List.getElem_cons_succ])
          refine wpAnyH_take (i := 12) (oi := _) (v := ?_) rfl (by kernel_rfl) (by kernel_rfl) (by kernel_rfl) (fun _ _ _ h => h) (Or.inl ⟨by rfl, ?_⟩) (by assumption) ?_
          rotate_left
          · intro w hSw
            try dsimp only at hSw
            go_simp
            try with_reducible rfl
          (try simp only [Act.put, List.setIfInBounds_toArray, List.set_cons_zero, List.set_cons_succ, List.getElem_toArray, List.getElem_cons_zero, List.getElem_cons_succ])
          refine wpAnyH_ready (rs := [17]) (by kernel_rfl) (by simp) ?_
          refine AllReadyH.cons (o := _) rfl (fun K hK => ?_) AllReadyH.nil
          go_simp
          with_reducible refine (H3.out _).mono ?_
          rintro e W4 ⟨rfl, hs⟩
          have hX := Lib.hid (hX.out.trans (hs.mono hX.out.size))
          clear hs
          refine hK.out _ _ (⟨(hX.out.cell (p := ⟨w.heap.size, 0, none⟩) hltA).trans k0, (hX.out.cell (p := ⟨w.heap.size, 1, none⟩) hltA).trans k1, (hX.out.cell (p := ⟨w.heap.size, 2, none⟩) hltA).trans k2⟩) (fun hHeld => ?_)
          clear hK K
          (try simp only [Act.put, List.setIfInBounds_toArray, List.set_cons_zero, List.set_cons_succ, List.getElem_toArray, List.getElem_cons_zero, List.getElem_cons_succ])
          refine wpAnyH_take (i := 18) (oi := _) (v := ?_) rfl (by kernel_rfl) (by kernel_rfl) (by kernel_rfl) (fun _ _ _ h => h) (Or.inl ⟨by rfl, ?_⟩) (by assumption) ?_
          rotate_left
          · intro w hSw
            try dsimp only at hSw
            go_simp
            try with_reducible rfl
          (try simp only [Act.put, List.setIfInBounds_toArray, List.set_cons_zero, List.set_cons_succ, List.getElem_toArray, List.getElem_cons_zero, List.getElem_cons_succ])
          refine wpAnyH_take (i := 19) (oi := _) (v := ?_) rfl (by kernel_rfl) (by kernel_rfl) (by kernel_rfl) (fun _ _ _ h => h) (Or.inl ⟨by rfl, ?_⟩) (by assumption) ?_
          rotate_left
          · intro w hSw
            try dsimp only at hSw
            go_simp
            try with_reducible rfl
          (try simp only [Act.put, List.setIfInBounds_toArray, List.set_cons_zero, List.set_cons_succ, List.getElem_toArray, List.getElem_cons_zero, List.getElem_cons_succ])
          refine wpAnyH_done (by kernel_rfl) ?_ _
          go_wp2_with fail
          go_meet
          case rel => exact ⟨rfl, hX.out⟩
        refine AllReadyH.cons (o := _) rfl (fun K hK => ?_) AllReadyH.nil
        go_simp
        with_reducible refine (H1.out _).mono ?_
        rintro e W2 ⟨rfl, hs⟩
        have FB := Lib.hid ((hs.block _ (row_lt' FB.out)).trans FB.out)
        have hX := Lib.hid (hX.out.trans (hs.mono hX.out.size))
        clear hs
        refine hK.out _ _ (⟨(hX.out.cell (p := ⟨w.heap.size, 0, none⟩) hltA).trans k0, (hX.out.cell (p := ⟨w.heap.size, 1, none⟩) hltA).trans k1, (hX.out.cell (p := ⟨w.heap.size, 2, none⟩) hltA).trans k2⟩) (fun hHeld => ?_)
        clear hK K
        (try simp only [Act.put, List.setIfInBounds_toArray, List.set_cons_zero, List.set_cons_succ, List.getElem_toArray, List.getElem_cons_zero, List.getElem_cons_succ])
        refine wpAnyH_ready (rs := [3, 11]) (by kernel_rfl) (by simp) ?_
        refine AllReadyH.cons (o := _) rfl (fun K hK => ?_) ?_
        · have hcv := conv_kind _ _ _ _ FB.out ht0
          go_simp
          clear hcv
          refine hK.out _ _ (⟨(hX.out.cell (p := ⟨w.heap.size, 0, none⟩) hltA).trans k0, (hX.out.cell (p := ⟨w.heap.size, 1, none⟩) hltA).trans k1, (hX.out.cell (p := ⟨w.heap.size, 2, none⟩) hltA).trans k2⟩) (fun hHeld => ?_)
          clear hK K
          (try simp only [Act.put, List.setIfInBounds_toArray, List.set_cons_zero, List.set_cons_succ, List.getElem_toArray, List.getElem_cons_zero, List.getElem_cons_succ])
          refine wpAnyH_take (i := 7) (oi := _) (v := ?_) rfl (by kernel_rfl) (by kernel_rfl) (by kernel_rfl) (fun _ _ _ h => h) (Or.inl ⟨by rfl, ?_⟩) (by assumption) ?_
          rotate_left
          · intro w hSw
            try dsimp only at hSw
            go_simp
            try with_reducible rfl
          (try simp only [Act.put, List.setIfInBounds_toArray, List.set_cons_zero, List.set_cons_succ, List.getElem_toArray, List.getElem_cons_zero, List.getElem_cons_succ])
          refine wpAnyH_ready (rs := [11]) (by kernel_rfl) (by simp) ?_
          refine AllReadyH.cons (o := _) rfl (fun K hK => ?_) AllReadyH.nil
          go_simp
          with_reducible refine (H2.out _).mono ?_
          rintro e W3 ⟨rfl, hs⟩
          have hX := Lib.hid (hX.out.trans (hs.mono hX.out.size))
          clear hs
          refine hK.out _ _ (⟨(hX.out.cell (p := ⟨w.heap.size, 0, none⟩) hltA).trans k0, (hX.out.cell (p := ⟨w.heap.size, 1, none⟩) hltA).trans k1, (hX.out.cell (p := ⟨w.heap.size, 2, none⟩) hltA).trans k2⟩) (fun hHeld => ?_)
          clear hK K
          (try simp only [Act.put, List.setIfInBounds_toArray, List.set_cons_zero, List.set_cons_succ, List.getElem_toArray, List.getElem_cons_zero, List.getElem_cons_succ])
          refine wpAnyH_take (i := 12) (oi := _) (v := ?_) rfl (by kernel_rfl) (by kernel_rfl) (by kernel_rfl) (fun _ _ _ h => h) (Or.inl ⟨by rfl, ?_⟩) (by assumption) ?_
          rotate_left
          · intro w hSw
            try dsimp only at hSw
            go_simp
            try with_reducible rfl
          (try simp only [Act.put, List.setIfInBounds_toArray, List.set_cons_zero, List.set_cons_succ, List.getElem_toArray, List.getElem_cons_zero, List.getElem_cons_succ])
          refine wpAnyH_ready (rs := [17]) (by kernel_rfl) (by simp) ?_
          refine AllReadyH.cons (o := _) rfl (fun K hK => ?_) AllReadyH.nil
          go_simp
          with_reducible refine (H3.out _).mono ?_
          rintro e W4 ⟨rfl, hs⟩
          have hX := Lib.hid (hX.out.trans (hs.mono hX.out.size))
          clear hs
          refine hK.out _ _ (⟨(hX.out.cell (p := ⟨w.heap.size, 0, none⟩) hltA).trans k0, (hX.out.cell (p := ⟨w.heap.size, 1, none⟩) hltA).trans k1, (hX.out.cell (p := ⟨w.heap.size, 2, none⟩) hltA).trans k2⟩) (fun hHeld => ?_)
          clear hK K
          (try simp only [Act.put, List.setIfInBounds_toArray, List.set_cons_zero, List.set_cons_succ, List.getElem_toArray, List.getElem_cons_zero, List.getElem_cons_succ])
          refine wpAnyH_take (i := 18) (oi := _) (v := ?_) rfl (by kernel_rfl) (by kernel_rfl) (by kernel_rfl) (fun _ _ _ h => h) (Or.inl ⟨by rfl, ?_⟩) (by assumption) ?_
          rotate_left
          · intro w hSw
            try dsimp only at hSw
            go_simp
            try with_reducible rfl
          (try simp only [Act.put, List.setIfInBounds_toArray, List.set_cons_zero, List.set_cons_succ, List.getElem_toArray, List.getElem_cons_zero, List.getElem_cons_succ])
          refine wpAnyH_take (i := 19) (oi := _) (v := ?_) rfl (by kernel_rfl) (by kernel_rfl) (by kernel_rfl) (fun _ _ _ h => h) (Or.inl ⟨by rfl, ?_⟩) (by assumption) ?_
          rotate_left
          · intro w hSw
            try dsimp only at hSw
            go_simp
            try with_reducible rfl
          (try simp only [Act.put, List.setIfInBounds_toArray, List.set_cons_zero, List.set_cons_succ, List.getElem_toArray, List.getElem_cons_zero, List.getElem_cons_succ])
          refine wpAnyH_done (by kernel_rfl) ?_ _
          go_wp2_with fail
          go_meet
          case rel => exact ⟨rfl, hX.out⟩
        refine AllReadyH.cons (o := _) rfl (fun K hK => ?_) AllReadyH.nil
        go_simp
        with_reducible refine (H2.out _).mono ?_
        rintro e W3 ⟨rfl, hs⟩
        have FB := Lib.hid ((hs.block _ (row_lt' FB.out)).trans FB.out)
        have hX := Lib.hid (hX.out.trans (hs.mono hX.out.size))
        clear hs
        refine hK.out _ _ (⟨(hX.out.cell (p := ⟨w.heap.size, 0, none⟩) hltA).trans k0, (hX.out.cell (p := ⟨w.heap.size, 1, none⟩) hltA).trans k1, (hX.out.cell (p := ⟨w.heap.size, 2, none⟩) hltA).trans k2⟩) (fun hHeld => ?_)
        clear hK K
        (try simp only [Act.put, List.setIfInBounds_toArray, List.set_cons_zero, List.set_cons_succ, List.getElem_toArray, List.getElem_cons_zero, List.getElem_cons_succ])
        refine wpAnyH_ready (rs := [3, 17]) (by kernel_rfl) (by simp) ?_
        refine AllReadyH.cons (o := _) rfl (fun K hK => ?_) ?_
        · have hcv := conv_kind _ _ _ _ FB.out ht0
          go_simp
          clear hcv
          refine hK.out _ _ (⟨(hX.out.cell (p := ⟨w.heap.size, 0, none⟩) hltA).trans k0, (hX.out.cell (p := ⟨w.heap.size, 1, none⟩) hltA).trans k1, (hX.out.cell (p := ⟨w.heap.size, 2, none⟩) hltA).trans k2⟩) (fun hHeld => ?_)
          clear hK K
          (try simp only [Act.put, List.setIfInBounds_toArray, List.set_cons_zero, List.set_cons_succ, List.getElem_toArray, List.getElem_cons_zero, List.getElem_cons_succ])
          refine wpAnyH_take (i := 7) (oi := _) (v := ?_) rfl (by kernel_rfl) (by kernel_rfl) (by kernel_rfl) (fun _ _ _ h => h) (Or.inl ⟨by rfl, ?_⟩) (by assumption) ?_
          rotate_left
          · intro w hSw
            try dsimp only at hSw
            go_simp
            try with_reducible rfl
          (try simp only [Act.put, List.setIfInBounds_toArray, List.set_cons_zero, List.set_cons_succ, List.getElem_toArray, List.getElem_cons_zero, List.getElem_cons_succ])
          refine wpAnyH_take (i := 12) (oi := _) (v := ?_) rfl (by kernel_rfl) (by kernel_rfl) (by kernel_rfl) (fun _ _ _ h => h) (Or.inl ⟨by rfl, ?_⟩) (by assumption) ?_
          rotate_left
          · intro w hSw
            try dsimp only at hSw
            go_simp
            try with_reducible rfl
          (try simp only [Act.put, List.setIfInBounds_toArray, List.set_cons_zero, List.set_cons_succ, List.getElem_toArray, List.getElem_cons_zero, List.getElem_cons_succ])
          refine wpAnyH_ready (rs := [17]) (by kernel_rfl) (by simp) ?_
          refine AllReadyH.cons (o := _) rfl (fun K hK => ?_) AllReadyH.nil
          go_simp
          with_reducible refine (H3.out _).mono ?_
          rintro e W4 ⟨rfl, hs⟩
          have hX := Lib.hid (hX.out.trans (hs.mono hX.out.size))
          clear hs
          refine hK.out _ _ (⟨(hX.out.cell (p := ⟨w.heap.size, 0, none⟩) hltA).trans k0, (hX.out.cell (p := ⟨w.heap.size, 1, none⟩) hltA).trans k1, (hX.out.cell (p := ⟨w.heap.size, 2, none⟩) hltA).trans k2⟩) (fun hHeld => ?_)
          clear hK K
          (try simp only [Act.put, List.setIfInBounds_toArray, List.set_cons_zero, List.set_cons_succ, List.getElem_toArray, List.getElem_cons_zero, List.getElem_cons_succ])
          refine wpAnyH_take (i := 18) (oi := _) (v := ?_) rfl (by kernel_rfl) (by kernel_rfl) (by kernel_rfl) (fun _ _ _ h => h) (Or.inl ⟨by rfl, ?_⟩) (by assumption) ?_
          rotate_left
          · intro w hSw
            try dsimp only at hSw
            go_simp
            try with_reducible rfl
          (try simp only [Act.put, List.setIfInBounds_toArray, List.set_cons_zero, List.set_cons_succ, List.getElem_toArray, List.getElem_cons_zero, List.getElem_cons_succ])
          refine wpAnyH_take (i := 19) (oi := _) (v := ?_) rfl (by kernel_rfl) (by kernel_rfl) (by kernel_rfl) (fun _ _ _ h => h) (Or.inl ⟨by rfl, ?_⟩) (by assumption) ?_
          rotate_left
          · intro w hSw
            try dsimp only at hSw
            go_simp
            try with_reducible rfl
          (try simp only [Act.put, List.setIfInBounds_toArray, List.set_cons_zero, List.set_cons_succ, List.getElem_toArray, List.getElem_cons_zero, List.getElem_cons_succ])
          refine wpAnyH_done (by kernel_rfl) ?_ _
          go_wp2_with fail
          go_meet
          case rel => exact ⟨rfl, hX.out⟩
        refine AllReadyH.cons (o := _) rfl (fun K hK => ?_) AllReadyH.nil
        go_simp
        with_reducible refine (H3.out _).mono ?_
        rintro e W4 ⟨rfl, hs⟩
        have FB := Lib.hid ((hs.block _ (row_lt' FB.out)).trans FB.out)
        have hX := Lib.hid (hX.out.trans (hs.mono hX.out.size))
        clear hs
        refine hK.out _ _ (⟨(hX.out.cell (p := ⟨w.heap.size, 0, none⟩) hltA).trans k0, (hX.out.cell (p := ⟨w.heap.size, 1, none⟩) hltA).trans k1, (hX.out.cell (p := ⟨w.heap.size, 2, none⟩) hltA).trans k2⟩) (fun hHeld => ?_)
        clear hK K
        (try simp only [Act.put, List.setIfInBounds_toArray, List.set_cons_zero, List.set_cons_succ, List.getElem_toArray, List.getElem_cons_zero, List.getElem_cons_succ])
        refine wpAnyH_ready (rs := [3]) (by kernel_rfl) (by simp) ?_
        refine AllReadyH.cons (o := _) rfl (fun K hK => ?_) AllReadyH.nil
        have hcv := conv_kind _ _ _ _ FB.out ht0
        go_simp
        clear hcv
        refine hK.out _ _ (⟨(hX.out.cell (p := ⟨w.heap.size, 0, none⟩) hltA).trans k0, (hX.out.cell (p := ⟨w.heap.size, 1, none⟩) hltA).trans k1, (hX.out.cell (p := ⟨w.heap.size, 2, none⟩) hltA).trans k2⟩) (fun hHeld => ?_)
        clear hK K
        (try simp only [Act.put, List.setIfInBounds_toArray, List.set_cons_zero, List.set_cons_succ, List.getElem_toArray, List.getElem_cons_zero, List.getElem_cons_succ])
        refine wpAnyH_take (i := 7) (oi := _) (v := ?_) rfl (by kernel_rfl) (by kernel_rfl) (by kernel_rfl) (fun _ _ _ h => h) (Or.inl ⟨by rfl, ?_⟩) (by assumption) ?_
        rotate_left
        · intro w hSw
          try dsimp only at hSw
          go_simp
          try with_reducible rfl
        (try simp only [Act.put, List.setIfInBounds_toArray, List.set_cons_zero, List.set_cons_succ, List.getElem_toArray, List.getElem_cons_zero, List.getElem_cons_succ])
        refine wpAnyH_take (i := 12) (oi := _) (v := ?_) rfl (by kernel_rfl) (by kernel_rfl) (by kernel_rfl) (fun _ _ _ h => h) (Or.inl ⟨by rfl, ?_⟩) (by assumption) ?_
        rotate_left
        · intro w hSw
          try dsimp only at hSw
          go_simp
          try with_reducible rfl
        (try simp only [Act.put, List.setIfInBounds_toArray, List.set_cons_zero, List.set_cons_succ, List.getElem_toArray, List.getElem_cons_zero, List.getElem_cons_succ])
        refine wpAnyH_take (i := 18) (oi := _) (v := ?_) rfl (by kernel_rfl) (by kernel_rfl) (by kernel_rfl) (fun _ _ _ h => h) (Or.inl ⟨by rfl, ?_⟩) (by assumption) ?_
        rotate_left
        · intro w hSw
          try dsimp only at hSw
          go_simp
          try with_reducible rfl
        (try simp only [Act.put, List.setIfInBounds_toArray, List.set_cons_zero, List.set_cons_succ, List.getElem_toArray, List.getElem_cons_zero, List.getElem_cons_succ])
        refine wpAnyH_take (i := 19) (oi := _) (v := ?_) rfl (by kernel_rfl) (by kernel_rfl) (by kernel_rfl) (fun _ _ _ h => h) (Or.inl ⟨by rfl, ?_⟩) (by assumption) ?_
        rotate_left
        · intro w hSw
          try dsimp only at hSw
          go_simp
          try with_reducible rfl
        (try simp only [Act.put, List.setIfInBounds_toArray, List.set_cons_zero, List.set_cons_succ, List.getElem_toArray, List.getElem_cons_zero, List.getElem_cons_succ])
        refine wpAnyH_done (by kernel_rfl) ?_ _
        go_wp2_with fail
        go_meet
        case rel => exact ⟨rfl, hX.out⟩
      refine AllReadyH.cons (o := _) rfl (fun K hK => ?_) AllReadyH.nil
      go_simp
      with_reducible refine (H1.out _).mono ?_
      rintro e W1 ⟨rfl, hs⟩
      have hX := Lib.hid (hX.out.trans (hs.mono hX.out.size))
      clear hs
      refine hK.out _ _ (⟨(hX.out.cell (p := ⟨w.heap.size, 0, none⟩) hltA).trans k0, (hX.out.cell (p := ⟨w.heap.size, 1, none⟩) hltA).trans k1, (hX.out.cell (p := ⟨w.heap.size, 2, none⟩) hltA).trans k2⟩) (fun hHeld => ?_)
      clear hK K
      (try simp only [Act.put, List.setIfInBounds_toArray, List.set_cons_zero, List.set_cons_succ, List.getElem_toArray, List.getElem_cons_zero, List.getElem_cons_succ])
      refine wpAnyH_ready (rs := [2, 11]) (by kernel_rfl) (by simp) ?_
      refine AllReadyH.cons (o := _) rfl (fun K hK => ?_) ?_
      · go_simp
        have hs := Lib.hid ((Below.refl _ _).alloc (Nat.le_refl _) (.cells #[.int .u8 x.k, .int .u8 0] 5) : Below W1.heap.size W1 (W1.alloc (.cells #[.int .u8 x.k, .int .u8 0] 5)))
        have FB := Lib.hid (heap_alloc_new W1 (.cells #[.int .u8 x.k, .int .u8 0] 5))
        have hX := Lib.hid (hX.out.trans (hs.out.mono hX.out.size))
        clear hs
        refine hK.out _ _ (⟨(hX.out.cell (p := ⟨w.heap.size, 0, none⟩) hltA).trans k0, (hX.out.cell (p := ⟨w.heap.size, 1, none⟩) hltA).trans k1, (hX.out.cell (p := ⟨w.heap.size, 2, none⟩) hltA).trans k2⟩) (fun hHeld => ?_)
        clear hK K
        (try simp only [Act.put, List.setIfInBounds_toArray, List.set_cons_zero, List.set_cons_succ, List.getElem_toArray, List.getElem_cons_zero, List.getElem_cons_succ])
        generalize W1.alloc (.cells #[.int .u8 x.k, .int .u8 0] 5) = W2 at *
        refine wpAnyH_ready (rs := [3, 11]) (by kernel_rfl) (by simp) ?_
        refine AllReadyH.cons (o := _) rfl (fun K hK => ?_) ?_
        · have hcv := conv_kind _ _ _ _ FB.out ht0
          go_simp
          clear hcv
          refine hK.out _ _ (⟨(hX.out.cell (p := ⟨w.heap.size, 0, none⟩) hltA).trans k0, (hX.out.cell (p := ⟨w.heap.size, 1, none⟩) hltA).trans k1, (hX.out.cell (p := ⟨w.heap.size, 2, none⟩) hltA).trans k2⟩) (fun hHeld => ?_)
          clear hK K
          (try simp only [Act.put, List.setIfInBounds_toArray, List.set_cons_zero, List.set_cons_succ, List.getElem_toArray, List.getElem_cons_zero, List.getElem_cons_succ])
          refine wpAnyH_take (i := 7) (oi := _) (v := ?_) rfl (by kernel_rfl) (by kernel_rfl) (by kernel_rfl) (fun _ _ _ h => h) (Or.inl ⟨by rfl, ?_⟩) (by assumption) ?_
          rotate_left
          · intro w hSw
            try dsimp only at hSw
            go_simp
            try with_reducible rfl
          (try simp only [Act.put, List.setIfInBounds_toArray, List.set_cons_zero, List.set_cons_succ, List.getElem_toArray, List.getElem_cons_zero, List.getElem_cons_succ])
          refine wpAnyH_ready (rs := [11]) (by kernel_rfl) (by simp) ?_
          refine AllReadyH.cons (o := _) rfl (fun K hK => ?_) AllReadyH.nil
          go_simp
          with_reducible refine (H2.out _).mono ?_
          rintro e W3 ⟨rfl, hs⟩
          have hX := Lib.hid (hX.out.trans (hs.mono hX.out.size))
          clear hs
          refine hK.out _ _ (⟨(hX.out.cell (p := ⟨w.heap.size, 0, none⟩) hltA).trans k0, (hX.out.cell (p := ⟨w.heap.size, 1, none⟩) hltA).trans k1, (hX.out.cell (p := ⟨w.heap.size, 2, none⟩) hltA).trans k2⟩) (fun hHeld => ?_)
          clear hK K
          (try simp only [Act.put, List.setIfInBounds_toArray, List.set_cons_zero, List.set_cons_succ, List.getElem_toArray, List.getElem_cons_zero, List.getElem_cons_succ])
          refine wpAnyH_take (i := 12) (oi := _) (v := ?_) rfl (by kernel_rfl) (by kernel_rfl) (by kernel_rfl) (fun _ _ _ h => h) (Or.inl ⟨by rfl, ?_⟩) (by assumption) ?_
          rotate_left
          · intro w hSw
            try dsimp only at hSw
            go_simp
            try with_reducible rfl
          (try simp only [Act.put, List.setIfInBounds_toArray, List.set_cons_zero, List.set_cons_succ, List.getElem_toArray, List.getElem_cons_zero, List.getElem_cons_succ])
          refine wpAnyH_ready (rs := [17]) (by kernel_rfl) (by simp) ?_
          refine AllReadyH.cons (o := _) rfl (fun K hK => ?_) AllReadyH.nil
          go_simp
          with_reducible refine (H3.out _).mono ?_
          rintro e W4 ⟨rfl, hs⟩
          have hX := Lib.hid (hX.out.trans (hs.mono hX.out.size))
          clear hs
          refine hK.out _ _ (⟨(hX.out.cell (p := ⟨w.heap.size, 0, none⟩) hltA).trans k0, (hX.out.cell (p := ⟨w.heap.size, 1, none⟩) hltA).trans k1, (hX.out.cell (p := ⟨w.heap.size, 2, none⟩) hltA).trans k2⟩) (fun hHeld => ?_)
          clear hK K
          (try simp only [Act.put, List.setIfInBounds_toArray, List.set_cons_zero, List.set_cons_succ, List.getElem_toArray, List.getElem_cons_zero, List.getElem_cons_succ])
          refine wpAnyH_take (i := 18) (oi := _) (v := ?_) rfl (by kernel_rfl) (by kernel_rfl) (by kernel_rfl) (fun _ _ _ h => h) (Or.inl ⟨by rfl, ?_⟩) (by assumption) ?_
          rotate_left
          · intro w hSw
            try dsimp only at hSw
            go_simp
            try with_reducible rfl
          (try simp only [Act.put, List.setIfInBounds_toArray, List.set_cons_zero, List.set_cons_succ, List.getElem_toArray, List.getElem_cons_zero, List.getElem_cons_succ])
          refine wpAnyH_take (i := 19) (oi := _) (v := ?_) rfl (by kernel_rfl) (by kernel_rfl) (by kernel_rfl) (fun _ _ _ h => h) (Or.inl ⟨by rfl, ?_⟩) (by assumption) ?_
          rotate_left
          · intro w hSw
            try dsimp only at hSw
            go_simp
            try with_reducible rfl
          (try simp only [Act.put, List.setIfInBounds_toArray, List.set_cons_zero, List.set_cons_succ, List.getElem_toArray, List.getElem_cons_zero, List.getElem_cons_succ])
          refine wpAnyH_done (by kernel_rfl) ?_ _
          go_wp2_with fail
          go_meet
          case rel => exact ⟨rfl, hX.out⟩
        refine AllReadyH.cons (o := _) rfl (fun K hK => ?_) AllReadyH.nil
        go_simp
        with_reducible refine (H2.out _).mono ?_
        rintro e W3 ⟨rfl, hs⟩
        have FB := Lib.hid ((hs.block _ (row_lt' FB.out)).trans FB.out)
        have hX := Lib.hid (hX.out.trans (hs.mono hX.out.size))
        clear hs
        refine hK.out _ _ (⟨(hX.out.cell (p := ⟨w.heap.size, 0, none⟩) hltA).trans k0, (hX.out.cell (p := ⟨w.heap.size, 1, none⟩) hltA).trans k1, (hX.out.cell (p := ⟨w.heap.size, 2, none⟩) hltA).trans k2⟩) (fun hHeld => ?_)
        clear hK K
        (try simp only [Act.put, List.setIfInBounds_toArray, List.set_cons_zero, List.set_cons_succ, List.getElem_toArray, List.getElem_cons_zero, List.getElem_cons_succ])
        refine wpAnyH_ready (rs := [3, 17]) (by kernel_rfl) (by simp) ?_
        refine AllReadyH.cons (o := _) rfl (fun K hK => ?_) ?_
        · have hcv := conv_kind _ _ _ _ FB.out ht0
          go_simp
          clear hcv
          refine hK.out _ _ (⟨(hX.out.cell (p := ⟨w.heap.size, 0, none⟩) hltA).trans k0, (hX.out.cell (p := ⟨w.heap.size, 1, none⟩) hltA).trans k1, (hX.out.cell (p := ⟨w.heap.size, 2, none⟩) hltA).trans k2⟩) (fun hHeld => ?_)
          clear hK K
          (try simp only [Act.put, List.setIfInBounds_toArray, List.set_cons_zero, List.set_cons_succ, List.getElem_toArray, List.getElem_cons_zero, List.getElem_cons_succ])
          refine wpAnyH_take (i := 7) (oi := _) (v := ?_) rfl (by kernel_rfl) (by kernel_rfl) (by kernel_rfl) (fun _ _ _ h => h) (Or.inl ⟨by rfl, ?_⟩) (by assumption) ?_
          rotate_left
          · intro w hSw
            try dsimp only at hSw
            go_simp
            try with_reducible rfl
          (try simp only [Act.put, List.setIfInBounds_toArray, List.set_cons_zero, List.set_cons_succ, List.getElem_toArray, List.getElem_cons_zero, List.getElem_cons_succ])
          refine wpAnyH_take (i := 12) (oi := _) (v := ?_) rfl (by kernel_rfl) (by kernel_rfl) (by kernel_rfl) (fun _ _ _ h => h) (Or.inl ⟨by rfl, ?_⟩) (by assumption) ?_
          rotate_left
          · intro w hSw
            try dsimp only at hSw
            go_simp
            try with_reducible rfl
          (try simp only [Act.put, List.setIfInBounds_toArray, List.set_cons_zero, List.set_cons_succ, List.getElem_toArray, List.getElem_cons_zero, List.getElem_cons_succ])
          refine wpAnyH_ready (rs := [17]) (by kernel_rfl) (by simp) ?_
          refine AllReadyH.cons (o := _) rfl (fun K hK => ?_) AllReadyH.nil
          go_simp
          with_reducible refine (H3.out _).mono ?_
          rintro e W4 ⟨rfl, hs⟩
          have hX := Lib.hid (hX.out.trans (hs.mono hX.out.size))
          clear hs
          refine hK.out _ _ (⟨(hX.out.cell (p := ⟨w.heap.size, 0, none⟩) hltA).trans k0, (hX.out.cell (p := ⟨w.heap.size, 1, none⟩) hltA).trans k1, (hX.out.cell (p := ⟨w.heap.size, 2, none⟩) hltA).trans k2⟩) (fun hHeld => ?_)
          clear hK K
          (try simp only [Act.put, List.setIfInBounds_toArray, List.set_cons_zero, List.set_cons_succ, List.getElem_toArray, List.getElem_cons_zero, List.getElem_cons_succ])
          refine wpAnyH_take (i := 18) (oi := _) (v := ?_) rfl (by kernel_rfl) (by kernel_rfl) (by kernel_rfl) (fun _ _ _ h => h) (Or.inl ⟨by rfl, ?_⟩) (by assumption) ?_
          rotate_left
          · intro w hSw
            try dsimp only at hSw
            go_simp
            try with_reducible rfl
          (try simp only [Act.put, List.setIfInBounds_toArray, List.set_cons_zero, List.set_cons_succ, List.getElem_toArray, List.getElem_cons_zero, List.getElem_cons_succ])
          refine wpAnyH_take (i := 19) (oi := _) (v := ?_) rfl (by kernel_rfl) (by kernel_rfl) (by kernel_rfl) (fun _ _ _ h => h) (Or.inl ⟨by rfl, ?_⟩) (by assumption) ?_
          rotate_left
          · intro w hSw
            try dsimp only at hSw
            go_simp
            try with_reducible rfl
          (try simp only [Act.put, List.setIfInBounds_toArray, List.set_cons_zero, List.set_cons_succ, List.getElem_toArray, List.getElem_cons_zero, List.getElem_cons_succ])
          refine wpAnyH_done (by kernel_rfl) ?_ _
          go_wp2_with fail
          go_meet
          case rel => exact ⟨rfl, hX.out⟩
        refine AllReadyH.cons (o := _) rfl (fun K hK => ?_) AllReadyH.nil
        go_simp
        with_reducible refine (H3.out _).mono ?_
        rintro e W4 ⟨rfl, hs⟩
        have FB := Lib.hid ((hs.block _ (row_lt' FB.out)).trans FB.out)
        have hX := Lib.hid (hX.out.trans (hs.mono hX.out.size))
        clear hs
        refine hK.out _ _ (⟨(hX.out.cell (p := ⟨w.heap.size, 0, none⟩) hltA).trans k0, (hX.out.cell (p := ⟨w.heap.size, 1, none⟩) hltA).trans k1, (hX.out.cell (p := ⟨w.heap.size, 2, none⟩) hltA).trans k2⟩) (fun hHeld => ?_)
        clear hK K
        (try simp only [Act.put, List.setIfInBounds_toArray, List.set_cons_zero, List.set_cons_succ, List.getElem_toArray, List.getElem_cons_zero, List.getElem_cons_succ])
        refine wpAnyH_ready (rs := [3]) (by kernel_rfl) (by simp) ?_
        refine AllReadyH.cons (o := _) rfl (fun K hK => ?_) AllReadyH.nil
        have hcv := conv_kind _ _ _ _ FB.out ht0
        go_simp
        clear hcv
        refine hK.out _ _ (⟨(hX.out.cell (p := ⟨w.heap.size, 0, none⟩) hltA).trans k0, (hX.out.cell (p := ⟨w.heap.size, 1, none⟩) hltA).trans k1, (hX.out.cell (p := ⟨w.heap.size, 2, none⟩) hltA).trans k2⟩) (fun hHeld => ?_)
        clear hK K
        (try simp only [Act.put, List.setIfInBounds_toArray, List.set_cons_zero, List.set_cons_succ, List.getElem_toArray, List.getElem_cons_zero, List.getElem_cons_succ])
        refine wpAnyH_take (i := 7) (oi := _) (v := ?_) rfl (by kernel_rfl) (by kernel_rfl) (by kernel_rfl) (fun _ _ _ h => h) (Or.inl ⟨by rfl, ?_⟩) (by assumption) ?_
        rotate_left
        · intro w hSw
          try dsimp only at hSw
          go_simp
          try with_reducible rfl
        (try simp only [Act.put, List.setIfInBounds_toArray, List.set_cons_zero, List.set_cons_succ, List.getElem_toArray, List.getElem_cons_zero, List.getElem_cons_succ])
        refine wpAnyH_take (i := 12) (oi := _) (v := ?_) rfl (by kernel_rfl) (by kernel_rfl) (by kernel_rfl) (fun _ _ _ h => h) (Or.inl ⟨by rfl, ?_⟩) (by assumption) ?_
        rotate_left
        · intro w hSw
          try dsimp only at hSw
          go_simp
          try with_reducible rfl
        (try simp only [Act.put, List.setIfInBounds_toArray, List.set_cons_zero, List.set_cons_succ, List.getElem_toArray, List.getElem_cons_zero, List.getElem_cons_succ])
        refine wpAnyH_take (i := 18) (oi := _) (v := ?_) rfl (by kernel_rfl) (by kernel_rfl) (by kernel_rfl) (fun _ _ _ h => h) (Or.inl ⟨by rfl, ?_⟩) (by assumption) ?_
        rotate_left
        · intro w hSw
          try dsimp only at hSw
          go_simp
          try with_reducible rfl
        (try simp only [Act.put, List.setIfInBounds_toArray, List.set_cons_zero, List.set_cons_succ, List.getElem_toArray, List.getElem_cons_zero, List.getElem_cons_succ])
        refine wpAnyH_take (i := 19) (oi := _) (v := ?_) rfl (by kernel_rfl) (by kernel_rfl) (by kernel_rfl) (fun _ _ _ h => h) (Or.inl ⟨by rfl, ?_⟩) (by assumption) ?_
        rotate_left
        · intro w hSw
          try dsimp only at hSw
          go_simp
          try with_reducible rfl
        (try simp only [Act.put, List.setIfInBounds_toArray, List.set_cons_zero, List.set_cons_succ, List.getElem_toArray, List.getElem_cons_zero, List.getElem_cons_succ])
        refine wpAnyH_done (by kernel_rfl) ?_ _
        go_wp2_with fail
        go_meet
        case rel => exact ⟨rfl, hX.out⟩
      refine AllReadyH.cons (o := _) rfl (fun K hK => ?_) AllReadyH.nil
      go_simp
      with_reducible refine (H2.out _).mono ?_
      rintro e W2 ⟨rfl, hs⟩
      have hX := Lib.hid (hX.out.trans (hs.mono hX.out.size))
      clear hs
      refine hK.out _ _ (⟨(hX.out.cell (p := ⟨w.heap.size, 0, none⟩) hltA).trans k0, (hX.out.cell (p := ⟨w.heap.size, 1, none⟩) hltA).trans k1, (hX.out.cell (p := ⟨w.heap.size, 2, none⟩) hltA).trans k2⟩) (fun hHeld => ?_)
      clear hK K
      (try simp only [Act.put, List.setIfInBounds_toArray, List.set_cons_zero, List.set_cons_succ, List.getElem_toArray, List.getElem_cons_zero, List.getElem_cons_succ])
      refine wpAnyH_ready (rs := [2, 17]) (by kernel_rfl) (by simp) ?_
      refine AllReadyH.cons (o := _) rfl (fun K hK => ?_) ?_
      · go_simp
        have hs := Lib.hid ((Below.refl _ _).alloc (Nat.le_refl _) (.cells #[.int .u8 x.k, .int .u8 0] 5) : Below W2.heap.size W2 (W2.alloc (.cells #[.int .u8 x.k, .int .u8 0] 5)))
        have FB := Lib.hid (heap_alloc_new W2 (.cells #[.int .u8 x.k, .int .u8 0] 5))
        have hX := Lib.hid (hX.out.trans (hs.out.mono hX.out.size))
        clear hs
        refine hK.out _ _ (⟨(hX.out.cell (p := ⟨w.heap.size, 0, none⟩) hltA).trans k0, (hX.out.cell (p := ⟨w.heap.size, 1, none⟩) hltA).trans k1, (hX.out.cell (p := ⟨w.heap.size, 2, none⟩) hltA).trans k2⟩) (fun hHeld => ?_)
        clear hK K
        (try simp only [Act.put, List.setIfInBounds_toArray, List.set_cons_zero, List.set_cons_succ, List.getElem_toArray, List.getElem_cons_zero, List.getElem_cons_succ])
        generalize W2.alloc (.cells #[.int .u8 x.k, .int .u8 0] 5) = W3 at *
        refine wpAnyH_ready (rs := [3, 17]) (by kernel_rfl) (by simp) ?_
        refine AllReadyH.cons (o := _) rfl (fun K hK => ?_) ?_
        · have hcv := conv_kind _ _ _ _ FB.out ht0
          go_simp
          clear hcv
          refine hK.out _ _ (⟨(hX.out.cell (p := ⟨w.heap.size, 0, none⟩) hltA).trans k0, (hX.out.cell (p := ⟨w.heap.size, 1, none⟩) hltA).trans k1, (hX.out.cell (p := ⟨w.heap.size, 2, none⟩) hltA).trans k2⟩) (fun hHeld => ?_)
          clear hK K
          (try simp only [Act.put, List.setIfInBounds_toArray, List.set_cons_zero, List.set_cons_succ, List.getElem_toArray, List.getElem_cons_zero, List.getElem_cons_succ])
          refine wpAnyH_take (i := 7) (oi := _) (v := ?_) rfl (by kernel_rfl) (by kernel_rfl) (by kernel_rfl) (fun _ _ _ h => h) (Or.inl ⟨by rfl, ?_⟩) (by assumption) ?_
          rotate_left
          · intro w hSw
            try dsimp only at hSw
            go_simp
            try with_reducible rfl
          (try simp only [Act.put, List.setIfInBounds_toArray, List.set_cons_zero, List.set_cons_succ, List.getElem_toArray, List.getElem_cons_zero, List.getElem_cons_succ])
          refine wpAnyH_take (i := 12) (oi := _) (v := ?_) rfl (by kernel_rfl) (by kernel_rfl) (by kernel_rfl) (fun _ _ _ h => h) (Or.inl ⟨by rfl, ?_⟩) (by assumption) ?_
          rotate_left
          · intro w hSw
            try dsimp only at hSw
            go_simp
            try with_reducible rfl
          (try simp only [Act.put, List.setIfInBounds_toArray, List.set_cons_zero, List.set_cons_succ, List.getElem_toArray, List.getElem_cons_zero, List.getElem_cons_succ])
          refine wpAnyH_ready (rs := [17]) (by kernel_rfl) (by simp) ?_
          refine AllReadyH.cons (o := _) rfl (fun K hK => ?_) AllReadyH.nil
          go_simp
          with_reducible refine (H3.out _).mono ?_
          rintro e W4 ⟨rfl, hs⟩
          have hX := Lib.hid (hX.out.trans (hs.mono hX.out.size))
          clear hs
          refine hK.out _ _ (⟨(hX.out.cell (p := ⟨w.heap.size, 0, none⟩) hltA).trans k0, (hX.out.cell (p := ⟨w.heap.size, 1, none⟩) hltA).trans k1, (hX.out.cell (p := ⟨w.heap.size, 2, none⟩) hltA).trans k2⟩) (fun hHeld => ?_)
          clear hK K
          (try simp only [Act.put, List.setIfInBounds_toArray, List.set_cons_zero, List.set_cons_succ, List.getElem_toArray, List.getElem_cons_zero, List.getElem_cons_succ])
          refine wpAnyH_take (i := 18) (oi := _) (v := ?_) rfl (by kernel_rfl) (by kernel_rfl) (by kernel_rfl) (fun _ _ _ h => h) (Or.inl ⟨by rfl, ?_⟩) (by assumption) ?_
          rotate_left
          · intro w hSw
            try dsimp only at hSw
            go_simp
            try with_reducible rfl
          (try simp only [Act.put, List.setIfInBounds_toArray, List.set_cons_zero, List.set_cons_succ, List.getElem_toArray, List.getElem_cons_zero, List.getElem_cons_succ])
          refine wpAnyH_take (i := 19) (oi := _) (v := ?_) rfl (by kernel_rfl) (by kernel_rfl) (by kernel_rfl) (fun _ _ _ h => h) (Or.inl ⟨by rfl, ?_⟩) (by assumption) ?_
          rotate_left
          · intro w hSw
            try dsimp only at hSw
            go_simp
            try with_reducible rfl
          (try simp only [Act.put, List.setIfInBounds_toArray, List.set_cons_zero, List.set_cons_succ, List.getElem_toArray, List.getElem_cons_zero, List.getElem_cons_succ])
          refine wpAnyH_done (by kernel_rfl) ?_ _
          go_wp2_with fail
          go_meet
          case rel => exact ⟨rfl, hX.out⟩
        refine AllReadyH.cons (o := _) rfl (fun K hK => ?_) AllReadyH.nil
        go_simp
        with_reducible refine (H3.out _).mono ?_
        rintro e W4 ⟨rfl, hs⟩
        have FB := Lib.hid ((hs.block _ (row_lt' FB.out)).trans FB.out)
        have hX := Lib.hid (hX.out.trans (hs.mono hX.out.size))
        clear hs
        refine hK.out _ _ (⟨(hX.out.cell (p := ⟨w.heap.size, 0, none⟩) hltA).trans k0, (hX.out.cell (p := ⟨w.heap.size, 1, none⟩) hltA).trans k1, (hX.out.cell (p := ⟨w.heap.size, 2, none⟩) hltA).trans k2⟩) (fun hHeld => ?_)
        clear hK K
        (try simp only [Act.put, List.setIfInBounds_toArray, List.set_cons_zero, List.set_cons_succ, List.getElem_toArray, List.getElem_cons_zero, List.getElem_cons_succ])
        refine wpAnyH_ready (rs := [3]) (by kernel_rfl) (by simp) ?_
        refine AllReadyH.cons (o := _) rfl (fun K hK => ?_) AllReadyH.nil
        have hcv := conv_kind _ _ _ _ FB.out ht0
        go_simp
        clear hcv
        refine hK.out _ _ (⟨(hX.out.cell (p := ⟨w.heap.size, 0, none⟩) hltA).trans k0, (hX.out.cell (p := ⟨w.heap.size, 1, none⟩) hltA).trans k1, (hX.out.cell (p := ⟨w.heap.size, 2, none⟩) hltA).trans k2⟩) (fun hHeld => ?_)
        clear hK K
        (try simp only [Act.put, List.setIfInBounds_toArray, List.set_cons_zero, List.set_cons_succ, List.getElem_toArray, List.getElem_cons_zero, List.getElem_cons_succ])
        refine wpAnyH_take (i := 7) (oi := _) (v := ?_) rfl (by kernel_rfl) (by kernel_rfl) (by kernel_rfl) (fun _ _ _ h => h) (Or.inl ⟨by rfl, ?_⟩) (by assumption) ?_
        rotate_left
        · intro w hSw
          try dsimp only at hSw
          go_simp
          try with_reducible rfl
        (try simp only [Act.put, List.setIfInBounds_toArray, List.set_cons_zero, List.set_cons_succ, List.getElem_toArray, List.getElem_cons_zero, List.getElem_cons_succ])
        refine wpAnyH_take (i := 12) (oi := _) (v := ?_) rfl (by kernel_rfl) (by kernel_rfl) (by kernel_rfl) (fun _ _ _ h => h) (Or.inl ⟨by rfl, ?_⟩) (by assumption) ?_
        rotate_left
        · intro w hSw
          try dsimp only at hSw
          go_simp
          try with_reducible rfl
        (try simp only [Act.put, List.setIfInBounds_toArray, List.set_cons_zero, List.set_cons_succ, List.getElem_toArray, List.getElem_cons_zero, List.getElem_cons_succ])
        refine wpAnyH_take (i := 18) (oi := _) (v := ?_) rfl (by kernel_rfl) (by kernel_rfl) (by kernel_rfl) (fun _ _ _ h => h) (Or.inl ⟨by rfl, ?_⟩) (by assumption) ?_
        rotate_left
        · intro w hSw
          try dsimp only at hSw
          go_simp
          try with_reducible rfl
        (try simp only [Act.put, List.setIfInBounds_toArray, List.set_cons_zero, List.set_cons_succ, List.getElem_toArray, List.getElem_cons_zero, List.getElem_cons_succ])
        refine wpAnyH_take (i := 19) (oi := _) (v := ?_) rfl (by kernel_rfl) (by kernel_rfl) (by kernel_rfl) (fun _ _ _ h => h) (Or.inl ⟨by rfl, ?_⟩) (by assumption) ?_
        rotate_left
        · intro w hSw
          try dsimp only at hSw
          go_simp
          try with_reducible rfl
        (try simp only [Act.put, List.setIfInBounds_toArray, List.set_cons_zero, List.set_cons_succ, List.getElem_toArray, List.getElem_cons_zero, List.getElem_cons_succ])
        refine wpAnyH_done (by kernel_rfl) ?_ _
        go_wp2_with fail
        go_meet
        case rel => exact ⟨rfl, hX.out⟩
      refine AllReadyH.cons (o := _) rfl (fun K hK => ?_) AllReadyH.nil
      go_simp
      with_reducible refine (H3.out _).mono ?_
      rintro e W3 ⟨rfl, hs⟩
      have hX := Lib.hid (hX.out.trans (hs.mono hX.out.size))
      clear hs
      refine hK.out _ _ (⟨(hX.out.cell (p := ⟨w.heap.size, 0, none⟩) hltA).trans k0, (hX.out.cell (p := ⟨w.heap.size, 1, none⟩) hltA).trans k1, (hX.out.cell (p := ⟨w.heap.size, 2, none⟩) hltA).trans k2⟩) (fun hHeld => ?_)
      clear hK K
      (try simp only [Act.put, List.setIfInBounds_toArray, List.set_cons_zero, List.set_cons_succ, List.getElem_toArray, List.getElem_cons_zero, List.getElem_cons_succ])
      refine wpAnyH_ready (rs := [2]) (by kernel_rfl) (by simp) ?_
      refine AllReadyH.cons (o := _) rfl (fun K hK => ?_) AllReadyH.nil
      go_simp
      have hs := Lib.hid ((Below.refl _ _).alloc (Nat.le_refl _) (.cells #[.int .u8 x.k, .int .u8 0] 5) : Below W3.heap.size W3 (W3.alloc (.cells #[.int .u8 x.k, .int .u8 0] 5)))
      have FB := Lib.hid (heap_alloc_new W3 (.cells #[.int .u8 x.k, .int .u8 0] 5))
      have hX := Lib.hid (hX.out.trans (hs.out.mono hX.out.size))
      clear hs
      refine hK.out _ _ (⟨(hX.out.cell (p := ⟨w.heap.size, 0, none⟩) hltA).trans k0, (hX.out.cell (p := ⟨w.heap.size, 1, none⟩) hltA).trans k1, (hX.out.cell (p := ⟨w.heap.size, 2, none⟩) hltA).trans k2⟩) (fun hHeld => ?_)
      clear hK K
      (try simp only [Act.put, List.setIfInBounds_toArray, List.set_cons_zero, List.set_cons_succ, List.getElem_toArray, List.getElem_cons_zero, List.getElem_cons_succ])
      generalize W3.alloc (.cells #[.int .u8 x.k, .int .u8 0] 5) = W4 at *
      refine wpAnyH_ready (rs := [3]) (by kernel_rfl) (by simp) ?_
      refine AllReadyH.cons (o := _) rfl (fun K hK => ?_) AllReadyH.nil
      have hcv := conv_kind _ _ _ _ FB.out ht0
      go_simp
      clear hcv
      refine hK.out _ _ (⟨(hX.out.cell (p := ⟨w.heap.size, 0, none⟩) hltA).trans k0, (hX.out.cell (p := ⟨w.heap.size, 1, none⟩) hltA).trans k1, (hX.out.cell (p := ⟨w.heap.size, 2, none⟩) hltA).trans k2⟩) (fun hHeld => ?_)
      clear hK K
      (try simp only [Act.put, List.setIfInBounds_toArray, List.set_cons_zero, List.set_cons_succ, List.getElem_toArray, List.getElem_cons_zero, List.getElem_cons_succ])
      refine wpAnyH_take (i := 7) (oi := _) (v := ?_) rfl (by kernel_rfl) (by kernel_rfl) (by kernel_rfl) (fun _ _ _ h => h) (Or.inl ⟨by rfl, ?_⟩) (by assumption) ?_
      rotate_left
      · intro w hSw
        try dsimp only at hSw
        go_simp
        try with_reducible rfl
      (try simp only [Act.put, List.setIfInBounds_toArray, List.set_cons_zero, List.set_cons_succ, List.getElem_toArray, List.getElem_cons_zero, List.getElem_cons_succ])
      refine wpAnyH_take (i := 12) (oi := _) (v := ?_) rfl (by kernel_rfl) (by kernel_rfl) (by kernel_rfl) (fun _ _ _ h => h) (Or.inl ⟨by rfl, ?_⟩) (by assumption) ?_
      rotate_left
      · intro w hSw
        try dsimp only at hSw
        go_simp
        try with_reducible rfl
      (try simp only [Act.put, List.setIfInBounds_toArray, List.set_cons_zero, List.set_cons_succ, List.getElem_toArray, List.getElem_cons_zero, List.getElem_cons_succ])
      refine wpAnyH_take (i := 18) (oi := _) (v := ?_) rfl (by kernel_rfl) (by kernel_rfl) (by kernel_rfl) (fun _ _ _ h => h) (Or.inl ⟨by rfl, ?_⟩) (by assumption) ?_
      rotate_left
      · intro w hSw
        try dsimp only at hSw
        go_simp
        try with_reducible rfl
      (try simp only [Act.put, List.setIfInBounds_toArray, List.set_cons_zero, List.set_cons_succ, List.getElem_toArray, List.getElem_cons_zero, List.getElem_cons_succ])
      refine wpAnyH_take (i := 19) (oi := _) (v := ?_) rfl (by kernel_rfl) (by kernel_rfl) (by kernel_rfl) (fun _ _ _ h => h) (Or.inl ⟨by rfl, ?_⟩) (by assumption) ?_
      rotate_left
      · intro w hSw
        try dsimp only at hSw
        go_simp
        try with_reducible rfl
      (try simp only [Act.put, List.setIfInBounds_toArray, List.set_cons_zero, List.set_cons_succ, List.getElem_toArray, List.getElem_cons_zero, List.getElem_cons_succ])
      refine wpAnyH_done (by kernel_rfl) ?_ _
      go_wp2_with fail
      go_meet
      case rel => exact ⟨rfl, hX.out⟩
  case rest =>
    as_aux_lemma =>
      obtain ⟨rfl, hX⟩ := hcut
      have hB0 := Lib.hid (HW.out.trans (hX.mono HW.out.size))
      have hE := Lib.hid ((hX.block _ (row_lt' HX0.out)).trans HX0.out)
      clear hX
      have ha0 := cell_of_row _ _ 0 _ _ (0, 0) hE.out
      have ha1 := cell_of_row _ _ 1 _ _ (0, 0) hE.out
      have ha2 := cell_of_row _ _ 2 _ _ (0, 0) hE.out
      have ha3 := cell_of_row _ _ 3 _ _ (0, 0) hE.out
      have ha4 := cell_of_row _ _ 4 _ _ (0, 0) hE.out
      have ha5 := cell_of_row _ _ 5 _ _ (0, 0) hE.out
      have ha6 := cell_of_row _ _ 6 _ _ (0, 0) hE.out
      have ha7 := cell_of_row _ _ 7 _ _ (0, 0) hE.out
      simp only [List.getElem?_toArray, List.getElem?_cons_zero, List.getElem?_cons_succ] at ha0 ha1 ha2 ha3 ha4 ha5 ha6 ha7
      clear k0 k1 k2
      have HCL := Lib.hid (catL_length l)
      generalize hs0' : t0 ++ (t1 ++ (t2 ++ t3)) = s0 at *
      clear hs0' m0 m1 m2 m3 Ht0
      have hmk : ∀ W : World, (Instr.makeSlice 60 (.int .i64 14) (.int .i64 14)).run Try.prog W = .ok (.slice (some ⟨W.heap.size, 0, none⟩) 14 14) (W.alloc (.cells (byteCells (List.replicate 14 0)) 5)) := make_bytes 14 (by omega)
      have hcv := fun W g => conv_noughts W 14 g
      have hz14 : (List.replicate 14 (0 : UInt8)).length = 14 := List.length_replicate
      generalize byteCells (List.replicate 14 0) = Z at *
      generalize List.replicate 14 (0 : UInt8) = zl at *
      go_wp2_with fail
      refine (HB.out _).mono ?_
      rintro e w1 ⟨v, rfl, hu, hb1⟩
      obtain ⟨A, c, rfl, hc⟩ := hu
      have Hc := Lib.hid hc
      have HB1 := Lib.hid (hB0.out.trans (hb1.mono hB0.out.size))
      clear hc hb1 ha0 ha1 ha2 ha3 ha4 ha5 ha6 ha7
      rw [hlen]
      go_wp2_with fail
      go_loopw [3, 5] (fun s i wr => ∃ k : Nat, k ≤ 5 ∧ i = .int .i64 k ∧ s = str (s0 ++ catL (l.take k)) ∧ Below w1.heap.size w1 wr) (fun _ i _ => 5 - (nOf i).toNat)
      case atStart => exact ⟨0, Nat.zero_le _, rfl, by simp [catL], Below.refl _ _⟩
      case round =>
        obtain ⟨k, hk, rfl, rfl, hb⟩ := hrel
        by_cases hlt2 : k < 5
        · have hkl : k < l.length := by omega
          obtain ⟨b, hbe⟩ : ∃ b, b = l[k] := ⟨_, rfl⟩
          have hb16 : b < 65536 := by rw [hbe]; exact Hlt.out _ (List.getElem_mem _)
          obtain ⟨a, rfl, hcell⟩ := Hc.out k b (by rw [hbe]; simp [hkl])
          have hcell1 : wr.cell? (a.add k) = some (w16 b) := (hb.cell (World.block_lt_of_cell? w1 _ hcell)).trans hcell
          have htk : s0 ++ catL (l.take (k + 1)) = s0 ++ (catL (l.take k) ++ leB 2 b) := by have := catN_take 2 l k hkl; rw [hbe]; exact congrArg (s0 ++ ·) this
          have Htk := Lib.hid htk
          have hl1 : (s0 ++ catL (l.take k)).length ≤ 20 := by rw [List.length_append, catL_length, List.length_take, hs0]; omega
          have Htk2 := Lib.hid (List.append_assoc s0 (catL (l.take k)) (leB 2 b))
          rw [← Htk2.out] at htk
          have Htk := Lib.hid htk
          clear htk hcell hbe Htk2
          generalize s0 ++ catL (l.take k) = t at *
          have hl2 : (leB 2 b).length = 2 := leB_length _ _
          have HN := Lib.hid fun W => two_below b W hb16
          clear hmk hcv hs0
          go_wp2_with fail
          refine (HN.out _).mono ?_
          rintro e w2 ⟨rfl, hb2⟩
          go_wp2
          go_roundw
          case rel => exact ⟨k + 1, by omega, by go_num, by rw [Htk.out], hb.trans (hb2.mono hb.size)⟩
          case measure => simp [nOf]; omega
        · have : k = 5 := by omega
          subst this
          have htk5 : l.take 5 = l := List.take_of_length_le (by omega)
          rw [htk5]
          clear htk5
          have hl1 : (s0 ++ catL l).length = 18 := by rw [List.length_append, HCL.out, hs0, hlen]
          have hsub : (32 : Int) - ((s0 ++ catL l).length : Int) = 14 := by omega
          generalize s0 ++ catL l = t at *
          go_wp2
          go_ret
          refine ⟨?_, (HB1.out.trans (hb.mono HB1.out.size)).alloc (Nat.le_trans HB1.out.size hb.size) _⟩
          exact congrArg (fun q => Ending.returned (str q)) HF.out.symm
end Go.Proofs.Ytpipjjngffajlaa
