import Derived.Test.YtnfiapjdkjbdhaaGreatQ9
namespace Go.Proofs.YtnfiapjdkjbdhaaGreat
open Go.RowKit
set_option linter.unusedVariables false
set_option linter.unusedSimpArgs false
set_option maxRecDepth 10000
set_option maxHeartbeats 400000 in
theorem check_any (x : Im) (hf : x.fits) (n : Int) (hn : n = if x.may then 0 else 2) (w : World) :
    Calls Tryz.prog 89 #[x.v] w fun e w' => e = .returned (.int .i64 n) ∧ Below w.heap.size w w' := by
  have HV := Lib.hid fun W => valid_any x hf W
  have Hn := Lib.hid hn
  clear hn
  by_cases hm : x.may
  · have Hm := Lib.hid hm
    simp only [hm, decide_true] at HV
    clear hm
    go_enter Tryz.func89, Tryz.ntmps89
    go_wp2_with fail
    refine (HV.out _).mono ?_
    rintro e w1 ⟨rfl, hb1⟩
    go_wp2
    go_ret
    exact ⟨by rw [Hn.out, if_pos Hm.out]; rfl, ((Below.refl _ _).alloc (Nat.le_refl _) _).trans (hb1.mono (by simp))⟩
  · have Hm := Lib.hid hm
    simp only [hm, decide_false] at HV
    clear hm
    go_enter Tryz.func89, Tryz.ntmps89
    go_wp2_with fail
    refine (HV.out _).mono ?_
    rintro e w1 ⟨rfl, hb1⟩
    go_wp2
    go_ret
    exact ⟨by rw [Hn.out, if_neg Hm.out]; rfl, ((Below.refl _ _).alloc (Nat.le_refl _) _).trans (hb1.mono (by simp))⟩
set_option maxHeartbeats 400000 in
theorem put_bad (x : Im) (hf : x.fits) (hm : ¬ x.may) (w : World) :
    Calls Tryz.prog 43 #[x.v] w fun e w' => e = .returned (.tuple #[str [], .int .i64 2]) ∧ Below w.heap.size w w' := by
  have HV := Lib.hid fun W => check_any x hf 2 (by rw [if_neg hm]) W
  clear hm
  go_enter Tryz.func43, Tryz.ntmps43
  go_wp2_with fail
  refine (HV.out _).mono ?_
  rintro e w1 ⟨rfl, hb1⟩
  go_wp2
  go_ret2
  exact ⟨rfl, ((Below.refl _ _).alloc (Nat.le_refl _) _).trans (hb1.mono (by simp))⟩
theorem one_at {q : IntKind} (n : Nat) (v : Value) (h : v = .int q (n : Int) := by rfl) : ∀ j m : Nat, [n][j]? = some m → #[v][j]? = some (.int q (m : Int)) := fun j m hj => by
  subst h
  match j, hj with
  | 0, hj => simp at hj; subst hj; rfl
  | j + 1, hj => simp at hj
theorem two_at {q : IntKind} (n : Nat) (v u : Value) (h : v = .int q (n : Int) := by rfl) (k : u = .int q 0 := by rfl) : ∀ j m : Nat, [n, 0][j]? = some m → #[v, u][j]? = some (.int q (m : Int)) := fun j m hj => by
  subst h k
  match j, hj with
  | 0, hj => simp at hj; subst hj; rfl
  | 1, hj => simp at hj; subst hj; rfl
  | j + 2, hj => simp at hj
set_option maxHeartbeats 40000000 in
theorem put_ok (x : Im) (hf : x.fits) (hm : x.may) (w : World) :
    Calls Tryz.prog 43 #[x.v] w fun e w' => e = .returned (.tuple #[str x.putL, .int .i64 0]) ∧ Below w.heap.size w w' := by
  have HV := Lib.hid fun W => check_any x hf 0 (by rw [if_pos hm]) W
  have HN := Lib.hid fun W => named_any x W
  have H1 := Lib.hid fun W v (h : NumS .u8 W v [x.k, 0]) => putu8_any [x.k, 0] v W h (by have := hf.1; simp; omega) (by simp)
  have H2 := Lib.hid fun W v (h : NumS .u16 W v [x.n]) => putu16_any [x.n] v W h (by have := hf.2.1; simp; omega) (by simp)
  have H3 := Lib.hid fun W v (h : NumS .u32 W v [x.z]) => putu32_any [x.z] v W h (by have := hf.2.2.1; simp; omega) (by simp)
  have H4 := Lib.hid fun W v (h : U16s W v x.bl) => putu16_any x.bl v W h (bl_lt hf) (by simp [Im.bl])
  have m1 : (catN 1 [x.k, 0]).length = 2 := catN_length _ _
  have m2 : (catN 2 [x.n]).length = 2 := catN_length _ _
  have m3 : (catN 4 [x.z]).length = 4 := catN_length _ _
  have m4 : (catN 2 x.bl).length = 10 := catN_length _ _
  have HF : Hid (x.putL = (catN 1 [x.k, 0] ++ (catN 2 [x.n] ++ (catN 4 [x.z] ++ catN 2 x.bl))) ++ List.replicate 14 0) := Lib.hid (by simp [Im.putL, catN, Im.bl, List.append_assoc])
  have HP := fun W => pad_ok (catN 1 [x.k, 0] ++ (catN 2 [x.n] ++ (catN 4 [x.z] ++ catN 2 x.bl))) 14 32 W (by simp [m1, m2, m3, m4]) (by simp [m1, m2, m3, m4])
  generalize catN 1 [x.k, 0] = t1 at *
  generalize catN 2 [x.n] = t2 at *
  generalize catN 4 [x.z] = t3 at *
  generalize catN 2 x.bl = t4 at *
  rw [← HF.out] at HP
  have HP := Lib.hid HP
  generalize x.putL = tt at *
  clear hm HF
  go_enter Tryz.func43, Tryz.ntmps43
  go_wp2_with fail
  refine (HV.out _).mono ?_
  rintro e w1 ⟨rfl, hb1⟩
  have hx : w1.heap[w.heap.size]? = some (.cells #[.int .u8 x.k, w16 x.n, .int .u32 x.z, w16 x.d0, w16 x.d1, w16 x.d2, w16 x.d3, w16 x.i] 41 (0, 0)) := (hb1.block w.heap.size (by simp)).trans (heap_alloc_new _ _)
  have c0 : w1.cell? ⟨w.heap.size, 0, none⟩ = some (.int .u8 x.k) := cell_of_row _ _ 0 _ _ (0, 0) hx
  have c1 : w1.cell? ⟨w.heap.size, 1, none⟩ = some (w16 x.n) := cell_of_row _ _ 1 _ _ (0, 0) hx
  have c2 : w1.cell? ⟨w.heap.size, 2, none⟩ = some (.int .u32 x.z) := cell_of_row _ _ 2 _ _ (0, 0) hx
  have c3 : w1.cell? ⟨w.heap.size, 3, none⟩ = some (w16 x.d0) := cell_of_row _ _ 3 _ _ (0, 0) hx
  have c4 : w1.cell? ⟨w.heap.size, 4, none⟩ = some (w16 x.d1) := cell_of_row _ _ 4 _ _ (0, 0) hx
  have c5 : w1.cell? ⟨w.heap.size, 5, none⟩ = some (w16 x.d2) := cell_of_row _ _ 5 _ _ (0, 0) hx
  have c6 : w1.cell? ⟨w.heap.size, 6, none⟩ = some (w16 x.d3) := cell_of_row _ _ 6 _ _ (0, 0) hx
  have c7 : w1.cell? ⟨w.heap.size, 7, none⟩ = some (w16 x.i) := cell_of_row _ _ 7 _ _ (0, 0) hx
  have hlt1 : w.heap.size < w1.heap.size := row_lt' hx
  have hB1 := Lib.hid (((Below.refl w.heap.size w).alloc (Nat.le_refl _) (.cells #[.int .u8 x.k, w16 x.n, .int .u32 x.z, w16 x.d0, w16 x.d1, w16 x.d2, w16 x.d3, w16 x.i] 41)).trans (hb1.mono (by simp)))
  clear hb1 hx
  go_wp2_with fail
  refine (HN.out _).mono ?_
  rintro e w2 ⟨rfl, hb2⟩
  have k0' := (hb2.cell (p := ⟨w.heap.size, 0, none⟩) hlt1).trans c0
  have k1' := (hb2.cell (p := ⟨w.heap.size, 1, none⟩) hlt1).trans c1
  have k2' := (hb2.cell (p := ⟨w.heap.size, 2, none⟩) hlt1).trans c2
  have hlt2 : w.heap.size < w2.heap.size := Nat.lt_of_lt_of_le hlt1 hb2.size
  have hB2 := Lib.hid (hB1.out.trans (hb2.mono (by omega)))
  clear hb2 hB1 c0 c1 c2 c3 c4 c5 c6 c7 hlt1
  go_upto_region 5 with fail
  have FL := Lib.hid (u16s_row (l := x.bl) (n := 5) (c := 5) (heap_alloc_new w2 (.cells #[.int .u16 x.d0, .int .u16 x.d1, .int .u16 x.d2, .int .u16 x.d3, .int .u16 x.i] 170)) rfl (bl_at x _ _ _ _ _ rfl rfl rfl rfl rfl))
  have C := Lib.hid ((Below.refl w2.heap.size w2).alloc (Nat.le_refl _) (.cells #[.int .u16 x.d0, .int .u16 x.d1, .int .u16 x.d2, .int .u16 x.d3, .int .u16 x.i] 170))
  have k0 := (C.out.cell (p := ⟨w.heap.size, 0, none⟩) hlt2).trans k0'
  have k1 := (C.out.cell (p := ⟨w.heap.size, 1, none⟩) hlt2).trans k1'
  have k2 := (C.out.cell (p := ⟨w.heap.size, 2, none⟩) hlt2).trans k2'
  have hltA : w.heap.size < (w2.alloc (.cells #[.int .u16 x.d0, .int .u16 x.d1, .int .u16 x.d2, .int .u16 x.d3, .int .u16 x.i] 170)).heap.size := by simp; omega
  have hB3 := Lib.hid (hB2.out.trans (C.out.mono (by omega)))
  clear k0' k1' k2' C hB2
  generalize w2.alloc (.cells #[.int .u16 x.d0, .int .u16 x.d1, .int .u16 x.d2, .int .u16 x.d3, .int .u16 x.i] 170) = V0 at *
  go_cut [6] (fun q wx => q = str (t1 ++ (t2 ++ (t3 ++ t4))) ∧ Below V0.heap.size V0 wx)
  case first =>
    as_aux_lemma =>
      go_wp2_with fail
      have hX := Lib.hid ((Below.refl V0.heap.size V0).drew)
      have FL := Lib.hid (FL.out.drew)
      refine wp_region_held_drew (S := (fun W => W.cell? ⟨w.heap.size, 0, none⟩ = some (.int .u8 x.k) ∧ W.cell? ⟨w.heap.size, 1, none⟩ = some (w16 x.n) ∧ W.cell? ⟨w.heap.size, 2, none⟩ = some (.int .u32 x.z))) (by kernel_rfl) (⟨k0, k1, k2⟩) (fun hHeld => ?_)
      generalize hW0 : V0.drew = W0 at *
      refine wpAnyH_take (i := 0) (oi := _) (v := ?_) rfl (by kernel_rfl) (by kernel_rfl) (by kernel_rfl) (fun _ _ _ h => h) (Or.inl ⟨by rfl, ?_⟩) (by assumption) ?_
      rotate_left
      · intro w hSw
        try dsimp only at hSw
        go_simp
        try with_reducible rfl
      (try simp only [Act.put, List.setIfInBounds_toArray, List.set_cons_zero, List.set_cons_succ, List.getElem_toArray, List.getElem_cons_zero, List.getElem_cons_succ])
      refine wpAnyH_take (i := 1) (oi := _) (v := ?_) rfl (by kernel_rfl) (by kernel_rfl) (by kernel_rfl) (fun _ _ _ h => h) (Or.inl ⟨by rfl, ?_⟩) (by assumption) ?_
      rotate_left
      · intro w hSw
        try dsimp only at hSw
        go_simp
        try with_reducible rfl
      (try simp only [Act.put, List.setIfInBounds_toArray, List.set_cons_zero, List.set_cons_succ, List.getElem_toArray, List.getElem_cons_zero, List.getElem_cons_succ])
      refine wpAnyH_take (i := 4) (oi := _) (v := ?_) rfl (by kernel_rfl) (by kernel_rfl) (by kernel_rfl) (fun _ _ _ h => h) (Or.inl ⟨by rfl, ?_⟩) (by assumption) ?_
      rotate_left
      · intro w hSw
        try dsimp only at hSw
        go_simp
        try with_reducible rfl
      (try simp only [Act.put, List.setIfInBounds_toArray, List.set_cons_zero, List.set_cons_succ, List.getElem_toArray, List.getElem_cons_zero, List.getElem_cons_succ])
      refine wpAnyH_take (i := 5) (oi := _) (v := ?_) rfl (by kernel_rfl) (by kernel_rfl) (by kernel_rfl) (fun _ _ _ h => h) (Or.inl ⟨by rfl, ?_⟩) (by assumption) ?_
      rotate_left
      · intro w hSw
        try dsimp only at hSw
        go_simp
        try with_reducible rfl
      (try simp only [Act.put, List.setIfInBounds_toArray, List.set_cons_zero, List.set_cons_succ, List.getElem_toArray, List.getElem_cons_zero, List.getElem_cons_succ])
      refine wpAnyH_take (i := 9) (oi := _) (v := ?_) rfl (by kernel_rfl) (by kernel_rfl) (by kernel_rfl) (fun _ _ _ h => h) (Or.inl ⟨by rfl, ?_⟩) (by assumption) ?_
      rotate_left
      · intro w hSw
        try dsimp only at hSw
        go_simp
        try with_reducible rfl
      (try simp only [Act.put, List.setIfInBounds_toArray, List.set_cons_zero, List.set_cons_succ, List.getElem_toArray, List.getElem_cons_zero, List.getElem_cons_succ])
      refine wpAnyH_take (i := 10) (oi := _) (v := ?_) rfl (by kernel_rfl) (by kernel_rfl) (by kernel_rfl) (fun _ _ _ h => h) (Or.inl ⟨by rfl, ?_⟩) (by assumption) ?_
      rotate_left
      · intro w hSw
        try dsimp only at hSw
        go_simp
        try with_reducible rfl
      (try simp only [Act.put, List.setIfInBounds_toArray, List.set_cons_zero, List.set_cons_succ, List.getElem_toArray, List.getElem_cons_zero, List.getElem_cons_succ])
      refine wpAnyH_take (i := 14) (oi := _) (v := ?_) rfl (by kernel_rfl) (by kernel_rfl) (by kernel_rfl) (fun _ _ _ h => h) (Or.inl ⟨by rfl, ?_⟩) (by assumption) ?_
      rotate_left
      · intro w hSw
        try dsimp only at hSw
        go_simp
        try with_reducible rfl
      (try simp only [Act.put, List.setIfInBounds_toArray, List.set_cons_zero, List.set_cons_succ, List.getElem_toArray, List.getElem_cons_zero, List.getElem_cons_succ])
      refine wpAnyH_ready (rs := [2, 6, 11]) (by kernel_rfl) (by simp) ?_
      refine AllReadyH.cons (o := _) rfl (fun K hK => ?_) ?_
      · go_simp
        have hs := Lib.hid ((Below.refl _ _).alloc (Nat.le_refl _) (.cells #[.int .u8 x.k, .int .u8 0] 5) : Below W0.heap.size W0 (W0.alloc (.cells #[.int .u8 x.k, .int .u8 0] 5)))
        have F1 : Hid (NumS .u8 (W0.alloc (.cells #[.int .u8 x.k, .int .u8 0] 5)) (.slice (some ⟨W0.heap.size, 0, none⟩) 2 2) [x.k, 0]) := Lib.hid (nums_row (heap_alloc_new _ _) rfl (two_at _ _ _))
        have FL := Lib.hid (FL.out.below hs.out)
        have hX := Lib.hid (hX.out.trans (hs.out.mono hX.out.size))
        clear hs
        refine hK.out _ _ (⟨(hX.out.cell (p := ⟨w.heap.size, 0, none⟩) hltA).trans k0, (hX.out.cell (p := ⟨w.heap.size, 1, none⟩) hltA).trans k1, (hX.out.cell (p := ⟨w.heap.size, 2, none⟩) hltA).trans k2⟩) (fun hHeld => ?_)
        clear hK K
        (try simp only [Act.put, List.setIfInBounds_toArray, List.set_cons_zero, List.set_cons_succ, List.getElem_toArray, List.getElem_cons_zero, List.getElem_cons_succ])
        generalize W0.alloc (.cells #[.int .u8 x.k, .int .u8 0] 5) = W1 at *
        refine wpAnyH_ready (rs := [3, 6, 11]) (by kernel_rfl) (by simp) ?_
        refine AllReadyH.cons (o := _) rfl (fun K hK => ?_) ?_
        · go_simp
          with_reducible refine (H1.out _ _ F1.out).mono ?_
          rintro e W2 ⟨rfl, hs⟩
          have FL := Lib.hid (FL.out.below hs)
          have hX := Lib.hid (hX.out.trans (hs.mono hX.out.size))
          clear hs
          refine hK.out _ _ (⟨(hX.out.cell (p := ⟨w.heap.size, 0, none⟩) hltA).trans k0, (hX.out.cell (p := ⟨w.heap.size, 1, none⟩) hltA).trans k1, (hX.out.cell (p := ⟨w.heap.size, 2, none⟩) hltA).trans k2⟩) (fun hHeld => ?_)
          clear hK K
          (try simp only [Act.put, List.setIfInBounds_toArray, List.set_cons_zero, List.set_cons_succ, List.getElem_toArray, List.getElem_cons_zero, List.getElem_cons_succ])
          refine wpAnyH_ready (rs := [6, 11]) (by kernel_rfl) (by simp) ?_
          refine AllReadyH.cons (o := _) rfl (fun K hK => ?_) ?_
          · go_simp
            have hs := Lib.hid ((Below.refl _ _).alloc (Nat.le_refl _) (.cells #[w16 x.n] 38) : Below W2.heap.size W2 (W2.alloc (.cells #[w16 x.n] 38)))
            have F2 : Hid (NumS .u16 (W2.alloc (.cells #[w16 x.n] 38)) (.slice (some ⟨W2.heap.size, 0, none⟩) 1 1) [x.n]) := Lib.hid (nums_row (heap_alloc_new _ _) rfl (one_at _ _))
            have FL := Lib.hid (FL.out.below hs.out)
            have hX := Lib.hid (hX.out.trans (hs.out.mono hX.out.size))
            clear hs
            refine hK.out _ _ (⟨(hX.out.cell (p := ⟨w.heap.size, 0, none⟩) hltA).trans k0, (hX.out.cell (p := ⟨w.heap.size, 1, none⟩) hltA).trans k1, (hX.out.cell (p := ⟨w.heap.size, 2, none⟩) hltA).trans k2⟩) (fun hHeld => ?_)
            clear hK K
            (try simp only [Act.put, List.setIfInBounds_toArray, List.set_cons_zero, List.set_cons_succ, List.getElem_toArray, List.getElem_cons_zero, List.getElem_cons_succ])
            generalize W2.alloc (.cells #[w16 x.n] 38) = W3 at *
            refine wpAnyH_ready (rs := [7, 11]) (by kernel_rfl) (by simp) ?_
            refine AllReadyH.cons (o := _) rfl (fun K hK => ?_) ?_
            · go_simp
              with_reducible refine (H2.out _ _ F2.out).mono ?_
              rintro e W4 ⟨rfl, hs⟩
              have FL := Lib.hid (FL.out.below hs)
              have hX := Lib.hid (hX.out.trans (hs.mono hX.out.size))
              clear hs
              refine hK.out _ _ (⟨(hX.out.cell (p := ⟨w.heap.size, 0, none⟩) hltA).trans k0, (hX.out.cell (p := ⟨w.heap.size, 1, none⟩) hltA).trans k1, (hX.out.cell (p := ⟨w.heap.size, 2, none⟩) hltA).trans k2⟩) (fun hHeld => ?_)
              clear hK K
              (try simp only [Act.put, List.setIfInBounds_toArray, List.set_cons_zero, List.set_cons_succ, List.getElem_toArray, List.getElem_cons_zero, List.getElem_cons_succ])
              refine wpAnyH_take (i := 8) (oi := _) (v := ?_) rfl (by kernel_rfl) (by kernel_rfl) (by kernel_rfl) (fun _ _ _ h => h) (Or.inl ⟨by rfl, ?_⟩) (by assumption) ?_
              rotate_left
              · intro w hSw
                try dsimp only at hSw
                go_simp
                try with_reducible rfl
              (try simp only [Act.put, List.setIfInBounds_toArray, List.set_cons_zero, List.set_cons_succ, List.getElem_toArray, List.getElem_cons_zero, List.getElem_cons_succ])
              refine wpAnyH_ready (rs := [11]) (by kernel_rfl) (by simp) ?_
              refine AllReadyH.cons (o := _) rfl (fun K hK => ?_) AllReadyH.nil
              go_simp
              have hs := Lib.hid ((Below.refl _ _).alloc (Nat.le_refl _) (.cells #[.int .u32 x.z] 34) : Below W4.heap.size W4 (W4.alloc (.cells #[.int .u32 x.z] 34)))
              have F3 : Hid (NumS .u32 (W4.alloc (.cells #[.int .u32 x.z] 34)) (.slice (some ⟨W4.heap.size, 0, none⟩) 1 1) [x.z]) := Lib.hid (nums_row (heap_alloc_new _ _) rfl (one_at _ _))
              have FL := Lib.hid (FL.out.below hs.out)
              have hX := Lib.hid (hX.out.trans (hs.out.mono hX.out.size))
              clear hs
              refine hK.out _ _ (⟨(hX.out.cell (p := ⟨w.heap.size, 0, none⟩) hltA).trans k0, (hX.out.cell (p := ⟨w.heap.size, 1, none⟩) hltA).trans k1, (hX.out.cell (p := ⟨w.heap.size, 2, none⟩) hltA).trans k2⟩) (fun hHeld => ?_)
              clear hK K
              (try simp only [Act.put, List.setIfInBounds_toArray, List.set_cons_zero, List.set_cons_succ, List.getElem_toArray, List.getElem_cons_zero, List.getElem_cons_succ])
              generalize W4.alloc (.cells #[.int .u32 x.z] 34) = W5 at *
              refine wpAnyH_ready (rs := [12]) (by kernel_rfl) (by simp) ?_
              refine AllReadyH.cons (o := _) rfl (fun K hK => ?_) AllReadyH.nil
              go_simp
              with_reducible refine (H3.out _ _ F3.out).mono ?_
              rintro e W6 ⟨rfl, hs⟩
              have FL := Lib.hid (FL.out.below hs)
              have hX := Lib.hid (hX.out.trans (hs.mono hX.out.size))
              clear hs
              refine hK.out _ _ (⟨(hX.out.cell (p := ⟨w.heap.size, 0, none⟩) hltA).trans k0, (hX.out.cell (p := ⟨w.heap.size, 1, none⟩) hltA).trans k1, (hX.out.cell (p := ⟨w.heap.size, 2, none⟩) hltA).trans k2⟩) (fun hHeld => ?_)
              clear hK K
              (try simp only [Act.put, List.setIfInBounds_toArray, List.set_cons_zero, List.set_cons_succ, List.getElem_toArray, List.getElem_cons_zero, List.getElem_cons_succ])
              refine wpAnyH_take (i := 13) (oi := _) (v := ?_) rfl (by kernel_rfl) (by kernel_rfl) (by kernel_rfl) (fun _ _ _ h => h) (Or.inl ⟨by rfl, ?_⟩) (by assumption) ?_
              rotate_left
              · intro w hSw
                try dsimp only at hSw
                go_simp
                try with_reducible rfl
              (try simp only [Act.put, List.setIfInBounds_toArray, List.set_cons_zero, List.set_cons_succ, List.getElem_toArray, List.getElem_cons_zero, List.getElem_cons_succ])
              refine wpAnyH_ready (rs := [15]) (by kernel_rfl) (by simp) ?_
              refine AllReadyH.cons (o := _) rfl (fun K hK => ?_) AllReadyH.nil
              go_simp
              with_reducible refine (H4.out _ _ FL.out).mono ?_
              rintro e W7 ⟨rfl, hs⟩
              have hX := Lib.hid (hX.out.trans (hs.mono hX.out.size))
              clear hs
              refine hK.out _ _ (⟨(hX.out.cell (p := ⟨w.heap.size, 0, none⟩) hltA).trans k0, (hX.out.cell (p := ⟨w.heap.size, 1, none⟩) hltA).trans k1, (hX.out.cell (p := ⟨w.heap.size, 2, none⟩) hltA).trans k2⟩) (fun hHeld => ?_)
              clear hK K
              (try simp only [Act.put, List.setIfInBounds_toArray, List.set_cons_zero, List.set_cons_succ, List.getElem_toArray, List.getElem_cons_zero, List.getElem_cons_succ])
              refine wpAnyH_take (i := 16) (oi := _) (v := ?_) rfl (by kernel_rfl) (by kernel_rfl) (by kernel_rfl) (fun _ _ _ h => h) (Or.inl ⟨by rfl, ?_⟩) (by assumption) ?_
              rotate_left
              · intro w hSw
                try dsimp only at hSw
                go_simp
                try with_reducible rfl
              (try simp only [Act.put, List.setIfInBounds_toArray, List.set_cons_zero, List.set_cons_succ, List.getElem_toArray, List.getElem_cons_zero, List.getElem_cons_succ])
              refine wpAnyH_take (i := 17) (oi := _) (v := ?_) rfl (by kernel_rfl) (by kernel_rfl) (by kernel_rfl) (fun _ _ _ h => h) (Or.inl ⟨by rfl, ?_⟩) (by assumption) ?_
              rotate_left
              · intro w hSw
                try dsimp only at hSw
                go_simp
                try with_reducible rfl
              (try simp only [Act.put, List.setIfInBounds_toArray, List.set_cons_zero, List.set_cons_succ, List.getElem_toArray, List.getElem_cons_zero, List.getElem_cons_succ])
              refine wpAnyH_done (by kernel_rfl) ?_ _
              go_wp2_with fail
              go_meet
              case rel => exact ⟨rfl, hX.out⟩
            refine AllReadyH.cons (o := _) rfl (fun K hK => ?_) AllReadyH.nil
            go_simp
            have hs := Lib.hid ((Below.refl _ _).alloc (Nat.le_refl _) (.cells #[.int .u32 x.z] 34) : Below W3.heap.size W3 (W3.alloc (.cells #[.int .u32 x.z] 34)))
            have F3 : Hid (NumS .u32 (W3.alloc (.cells #[.int .u32 x.z] 34)) (.slice (some ⟨W3.heap.size, 0, none⟩) 1 1) [x.z]) := Lib.hid (nums_row (heap_alloc_new _ _) rfl (one_at _ _))
            have F2 := Lib.hid (F2.out.below hs.out)
            have FL := Lib.hid (FL.out.below hs.out)
            have hX := Lib.hid (hX.out.trans (hs.out.mono hX.out.size))
            clear hs
            refine hK.out _ _ (⟨(hX.out.cell (p := ⟨w.heap.size, 0, none⟩) hltA).trans k0, (hX.out.cell (p := ⟨w.heap.size, 1, none⟩) hltA).trans k1, (hX.out.cell (p := ⟨w.heap.size, 2, none⟩) hltA).trans k2⟩) (fun hHeld => ?_)
            clear hK K
            (try simp only [Act.put, List.setIfInBounds_toArray, List.set_cons_zero, List.set_cons_succ, List.getElem_toArray, List.getElem_cons_zero, List.getElem_cons_succ])
            generalize W3.alloc (.cells #[.int .u32 x.z] 34) = W4 at *
            refine wpAnyH_ready (rs := [7]) (by kernel_rfl) (by simp) ?_
            refine AllReadyH.cons (o := _) rfl (fun K hK => ?_) AllReadyH.nil
            go_simp
            with_reducible refine (H2.out _ _ F2.out).mono ?_
            rintro e W5 ⟨rfl, hs⟩
            have F3 := Lib.hid (F3.out.below hs)
            have FL := Lib.hid (FL.out.below hs)
            have hX := Lib.hid (hX.out.trans (hs.mono hX.out.size))
            clear hs
            refine hK.out _ _ (⟨(hX.out.cell (p := ⟨w.heap.size, 0, none⟩) hltA).trans k0, (hX.out.cell (p := ⟨w.heap.size, 1, none⟩) hltA).trans k1, (hX.out.cell (p := ⟨w.heap.size, 2, none⟩) hltA).trans k2⟩) (fun hHeld => ?_)
            clear hK K
            (try simp only [Act.put, List.setIfInBounds_toArray, List.set_cons_zero, List.set_cons_succ, List.getElem_toArray, List.getElem_cons_zero, List.getElem_cons_succ])
            refine wpAnyH_take (i := 8) (oi := _) (v := ?_) rfl (by kernel_rfl) (by kernel_rfl) (by kernel_rfl) (fun _ _ _ h => h) (Or.inl ⟨by rfl, ?_⟩) (by assumption) ?_
            rotate_left
            · intro w hSw
              try dsimp only at hSw
              go_simp
              try with_reducible rfl
            (try simp only [Act.put, List.setIfInBounds_toArray, List.set_cons_zero, List.set_cons_succ, List.getElem_toArray, List.getElem_cons_zero, List.getElem_cons_succ])
            refine wpAnyH_ready (rs := [12]) (by kernel_rfl) (by simp) ?_
            refine AllReadyH.cons (o := _) rfl (fun K hK => ?_) AllReadyH.nil
            go_simp
            with_reducible refine (H3.out _ _ F3.out).mono ?_
            rintro e W6 ⟨rfl, hs⟩
            have FL := Lib.hid (FL.out.below hs)
            have hX := Lib.hid (hX.out.trans (hs.mono hX.out.size))
            clear hs
            refine hK.out _ _ (⟨(hX.out.cell (p := ⟨w.heap.size, 0, none⟩) hltA).trans k0, (hX.out.cell (p := ⟨w.heap.size, 1, none⟩) hltA).trans k1, (hX.out.cell (p := ⟨w.heap.size, 2, none⟩) hltA).trans k2⟩) (fun hHeld => ?_)
            clear hK K
            (try simp only [Act.put, List.setIfInBounds_toArray, List.set_cons_zero, List.set_cons_succ, List.getElem_toArray, List.getElem_cons_zero, List.getElem_cons_succ])
            refine wpAnyH_take (i := 13) (oi := _) (v := ?_) rfl (by kernel_rfl) (by kernel_rfl) (by kernel_rfl) (fun _ _ _ h => h) (Or.inl ⟨by rfl, ?_⟩) (by assumption) ?_
            rotate_left
            · intro w hSw
              try dsimp only at hSw
              go_simp
              try with_reducible rfl
            (try simp only [Act.put, List.setIfInBounds_toArray, List.set_cons_zero, List.set_cons_succ, List.getElem_toArray, List.getElem_cons_zero, List.getElem_cons_succ])
            refine wpAnyH_ready (rs := [15]) (by kernel_rfl) (by simp) ?_
            refine AllReadyH.cons (o := _) rfl (fun K hK => ?_) AllReadyH.nil
            go_simp
            with_reducible refine (H4.out _ _ FL.out).mono ?_
            rintro e W7 ⟨rfl, hs⟩
            have hX := Lib.hid (hX.out.trans (hs.mono hX.out.size))
            clear hs
            refine hK.out _ _ (⟨(hX.out.cell (p := ⟨w.heap.size, 0, none⟩) hltA).trans k0, (hX.out.cell (p := ⟨w.heap.size, 1, none⟩) hltA).trans k1, (hX.out.cell (p := ⟨w.heap.size, 2, none⟩) hltA).trans k2⟩) (fun hHeld => ?_)
            clear hK K
            (try simp only [Act.put, List.setIfInBounds_toArray, List.set_cons_zero, List.set_cons_succ, List.getElem_toArray, List.getElem_cons_zero, List.getElem_cons_succ])
            refine wpAnyH_take (i := 16) (oi := _) (v := ?_) rfl (by kernel_rfl) (by kernel_rfl) (by kernel_rfl) (fun _ _ _ h => h) (Or.inl ⟨by rfl, ?_⟩) (by assumption) ?_
            rotate_left
            · intro w hSw
              try dsimp only at hSw
              go_simp
              try with_reducible rfl
            (try simp only [Act.put, List.setIfInBounds_toArray, List.set_cons_zero, List.set_cons_succ, List.getElem_toArray, List.getElem_cons_zero, List.getElem_cons_succ])
            refine wpAnyH_take (i := 17) (oi := _) (v := ?_) rfl (by kernel_rfl) (by kernel_rfl) (by kernel_rfl) (fun _ _ _ h => h) (Or.inl ⟨by rfl, ?_⟩) (by assumption) ?_
            rotate_left
            · intro w hSw
              try dsimp only at hSw
              go_simp
              try with_reducible rfl
            (try simp only [Act.put, List.setIfInBounds_toArray, List.set_cons_zero, List.set_cons_succ, List.getElem_toArray, List.getElem_cons_zero, List.getElem_cons_succ])
            refine wpAnyH_done (by kernel_rfl) ?_ _
            go_wp2_with fail
            go_meet
            case rel => exact ⟨rfl, hX.out⟩
          refine AllReadyH.cons (o := _) rfl (fun K hK => ?_) AllReadyH.nil
          go_simp
          have hs := Lib.hid ((Below.refl _ _).alloc (Nat.le_refl _) (.cells #[.int .u32 x.z] 34) : Below W2.heap.size W2 (W2.alloc (.cells #[.int .u32 x.z] 34)))
          have F3 : Hid (NumS .u32 (W2.alloc (.cells #[.int .u32 x.z] 34)) (.slice (some ⟨W2.heap.size, 0, none⟩) 1 1) [x.z]) := Lib.hid (nums_row (heap_alloc_new _ _) rfl (one_at _ _))
          have FL := Lib.hid (FL.out.below hs.out)
          have hX := Lib.hid (hX.out.trans (hs.out.mono hX.out.size))
          clear hs
          refine hK.out _ _ (⟨(hX.out.cell (p := ⟨w.heap.size, 0, none⟩) hltA).trans k0, (hX.out.cell (p := ⟨w.heap.size, 1, none⟩) hltA).trans k1, (hX.out.cell (p := ⟨w.heap.size, 2, none⟩) hltA).trans k2⟩) (fun hHeld => ?_)
          clear hK K
          (try simp only [Act.put, List.setIfInBounds_toArray, List.set_cons_zero, List.set_cons_succ, List.getElem_toArray, List.getElem_cons_zero, List.getElem_cons_succ])
          generalize W2.alloc (.cells #[.int .u32 x.z] 34) = W3 at *
          refine wpAnyH_ready (rs := [6]) (by kernel_rfl) (by simp) ?_
          refine AllReadyH.cons (o := _) rfl (fun K hK => ?_) AllReadyH.nil
          go_simp
          have hs := Lib.hid ((Below.refl _ _).alloc (Nat.le_refl _) (.cells #[w16 x.n] 38) : Below W3.heap.size W3 (W3.alloc (.cells #[w16 x.n] 38)))
          have F2 : Hid (NumS .u16 (W3.alloc (.cells #[w16 x.n] 38)) (.slice (some ⟨W3.heap.size, 0, none⟩) 1 1) [x.n]) := Lib.hid (nums_row (heap_alloc_new _ _) rfl (one_at _ _))
          have F3 := Lib.hid (F3.out.below hs.out)
          have FL := Lib.hid (FL.out.below hs.out)
          have hX := Lib.hid (hX.out.trans (hs.out.mono hX.out.size))
          clear hs
          refine hK.out _ _ (⟨(hX.out.cell (p := ⟨w.heap.size, 0, none⟩) hltA).trans k0, (hX.out.cell (p := ⟨w.heap.size, 1, none⟩) hltA).trans k1, (hX.out.cell (p := ⟨w.heap.size, 2, none⟩) hltA).trans k2⟩) (fun hHeld => ?_)
          clear hK K
          (try simp only [Act.put, List.setIfInBounds_toArray, List.set_cons_zero, List.set_cons_succ, List.getElem_toArray, List.getElem_cons_zero, List.getElem_cons_succ])
          generalize W3.alloc (.cells #[w16 x.n] 38) = W4 at *
          refine wpAnyH_ready (rs := [7]) (by kernel_rfl) (by simp) ?_
          refine AllReadyH.cons (o := _) rfl (fun K hK => ?_) AllReadyH.nil
          go_simp
          with_reducible refine (H2.out _ _ F2.out).mono ?_
          rintro e W5 ⟨rfl, hs⟩
          have F3 := Lib.hid (F3.out.below hs)
          have FL := Lib.hid (FL.out.below hs)
          have hX := Lib.hid (hX.out.trans (hs.mono hX.out.size))
          clear hs
          refine hK.out _ _ (⟨(hX.out.cell (p := ⟨w.heap.size, 0, none⟩) hltA).trans k0, (hX.out.cell (p := ⟨w.heap.size, 1, none⟩) hltA).trans k1, (hX.out.cell (p := ⟨w.heap.size, 2, none⟩) hltA).trans k2⟩) (fun hHeld => ?_)
          clear hK K
          (try simp only [Act.put, List.setIfInBounds_toArray, List.set_cons_zero, List.set_cons_succ, List.getElem_toArray, List.getElem_cons_zero, List.getElem_cons_succ])
          refine wpAnyH_take (i := 8) (oi := _) (v := ?_) rfl (by kernel_rfl) (by kernel_rfl) (by kernel_rfl) (fun _ _ _ h => h) (Or.inl ⟨by rfl, ?_⟩) (by assumption) ?_
          rotate_left
          · intro w hSw
            try dsimp only at hSw
            go_simp
            try with_reducible rfl
          (try simp only [Act.put, List.setIfInBounds_toArray, List.set_cons_zero, List.set_cons_succ, List.getElem_toArray, List.getElem_cons_zero, List.getElem_cons_succ])
          refine wpAnyH_ready (rs := [12]) (by kernel_rfl) (by simp) ?_
          refine AllReadyH.cons (o := _) rfl (fun K hK => ?_) AllReadyH.nil
          go_simp
          with_reducible refine (H3.out _ _ F3.out).mono ?_
          rintro e W6 ⟨rfl, hs⟩
          have FL := Lib.hid (FL.out.below hs)
          have hX := Lib.hid (hX.out.trans (hs.mono hX.out.size))
          clear hs
          refine hK.out _ _ (⟨(hX.out.cell (p := ⟨w.heap.size, 0, none⟩) hltA).trans k0, (hX.out.cell (p := ⟨w.heap.size, 1, none⟩) hltA).trans k1, (hX.out.cell (p := ⟨w.heap.size, 2, none⟩) hltA).trans k2⟩) (fun hHeld => ?_)
          clear hK K
          (try simp only [Act.put, List.setIfInBounds_toArray, List.set_cons_zero, List.set_cons_succ, List.getElem_toArray, List.getElem_cons_zero, List.getElem_cons_succ])
          refine wpAnyH_take (i := 13) (oi := _) (v := ?_) rfl (by kernel_rfl) (by kernel_rfl) (by kernel_rfl) (fun _ _ _ h => h) (Or.inl ⟨by rfl, ?_⟩) (by assumption) ?_
          rotate_left
          · intro w hSw
            try dsimp only at hSw
            go_simp
            try with_reducible rfl
          (try simp only [Act.put, List.setIfInBounds_toArray, List.set_cons_zero, List.set_cons_succ, List.getElem_toArray, List.getElem_cons_zero, List.getElem_cons_succ])
          refine wpAnyH_ready (rs := [15]) (by kernel_rfl) (by simp) ?_
          refine AllReadyH.cons (o := _) rfl (fun K hK => ?_) AllReadyH.nil
          go_simp
          with_reducible refine (H4.out _ _ FL.out).mono ?_
          rintro e W7 ⟨rfl, hs⟩
          have hX := Lib.hid (hX.out.trans (hs.mono hX.out.size))
          clear hs
          refine hK.out _ _ (⟨(hX.out.cell (p := ⟨w.heap.size, 0, none⟩) hltA).trans k0, (hX.out.cell (p := ⟨w.heap.size, 1, none⟩) hltA).trans k1, (hX.out.cell (p := ⟨w.heap.size, 2, none⟩) hltA).trans k2⟩) (fun hHeld => ?_)
          clear hK K
          (try simp only [Act.put, List.setIfInBounds_toArray, List.set_cons_zero, List.set_cons_succ, List.getElem_toArray, List.getElem_cons_zero, List.getElem_cons_succ])
          refine wpAnyH_take (i := 16) (oi := _) (v := ?_) rfl (by kernel_rfl) (by kernel_rfl) (by kernel_rfl) (fun _ _ _ h => h) (Or.inl ⟨by rfl, ?_⟩) (by assumption) ?_
          rotate_left
          · intro w hSw
            try dsimp only at hSw
            go_simp
            try with_reducible rfl
          (try simp only [Act.put, List.setIfInBounds_toArray, List.set_cons_zero, List.set_cons_succ, List.getElem_toArray, List.getElem_cons_zero, List.getElem_cons_succ])
          refine wpAnyH_take (i := 17) (oi := _) (v := ?_) rfl (by kernel_rfl) (by kernel_rfl) (by kernel_rfl) (fun _ _ _ h => h) (Or.inl ⟨by rfl, ?_⟩) (by assumption) ?_
          rotate_left
          · intro w hSw
            try dsimp only at hSw
            go_simp
            try with_reducible rfl
          (try simp only [Act.put, List.setIfInBounds_toArray, List.set_cons_zero, List.set_cons_succ, List.getElem_toArray, List.getElem_cons_zero, List.getElem_cons_succ])
          refine wpAnyH_done (by kernel_rfl) ?_ _
          go_wp2_with fail
          go_meet
          case rel => exact ⟨rfl, hX.out⟩
        refine AllReadyH.cons (o := _) rfl (fun K hK => ?_) ?_
        · go_simp
          have hs := Lib.hid ((Below.refl _ _).alloc (Nat.le_refl _) (.cells #[w16 x.n] 38) : Below W1.heap.size W1 (W1.alloc (.cells #[w16 x.n] 38)))
          have F2 : Hid (NumS .u16 (W1.alloc (.cells #[w16 x.n] 38)) (.slice (some ⟨W1.heap.size, 0, none⟩) 1 1) [x.n]) := Lib.hid (nums_row (heap_alloc_new _ _) rfl (one_at _ _))
          have F1 := Lib.hid (F1.out.below hs.out)
          have FL := Lib.hid (FL.out.below hs.out)
          have hX := Lib.hid (hX.out.trans (hs.out.mono hX.out.size))
          clear hs
          refine hK.out _ _ (⟨(hX.out.cell (p := ⟨w.heap.size, 0, none⟩) hltA).trans k0, (hX.out.cell (p := ⟨w.heap.size, 1, none⟩) hltA).trans k1, (hX.out.cell (p := ⟨w.heap.size, 2, none⟩) hltA).trans k2⟩) (fun hHeld => ?_)
          clear hK K
          (try simp only [Act.put, List.setIfInBounds_toArray, List.set_cons_zero, List.set_cons_succ, List.getElem_toArray, List.getElem_cons_zero, List.getElem_cons_succ])
          generalize W1.alloc (.cells #[w16 x.n] 38) = W2 at *
          refine wpAnyH_ready (rs := [3, 11]) (by kernel_rfl) (by simp) ?_
          refine AllReadyH.cons (o := _) rfl (fun K hK => ?_) ?_
          · go_simp
            with_reducible refine (H1.out _ _ F1.out).mono ?_
            rintro e W3 ⟨rfl, hs⟩
            have F2 := Lib.hid (F2.out.below hs)
            have FL := Lib.hid (FL.out.below hs)
            have hX := Lib.hid (hX.out.trans (hs.mono hX.out.size))
            clear hs
            refine hK.out _ _ (⟨(hX.out.cell (p := ⟨w.heap.size, 0, none⟩) hltA).trans k0, (hX.out.cell (p := ⟨w.heap.size, 1, none⟩) hltA).trans k1, (hX.out.cell (p := ⟨w.heap.size, 2, none⟩) hltA).trans k2⟩) (fun hHeld => ?_)
            clear hK K
            (try simp only [Act.put, List.setIfInBounds_toArray, List.set_cons_zero, List.set_cons_succ, List.getElem_toArray, List.getElem_cons_zero, List.getElem_cons_succ])
            refine wpAnyH_ready (rs := [7, 11]) (by kernel_rfl) (by simp) ?_
            refine AllReadyH.cons (o := _) rfl (fun K hK => ?_) ?_
            · go_simp
              with_reducible refine (H2.out _ _ F2.out).mono ?_
              rintro e W4 ⟨rfl, hs⟩
              have FL := Lib.hid (FL.out.below hs)
              have hX := Lib.hid (hX.out.trans (hs.mono hX.out.size))
              clear hs
              refine hK.out _ _ (⟨(hX.out.cell (p := ⟨w.heap.size, 0, none⟩) hltA).trans k0, (hX.out.cell (p := ⟨w.heap.size, 1, none⟩) hltA).trans k1, (hX.out.cell (p := ⟨w.heap.size, 2, none⟩) hltA).trans k2⟩) (fun hHeld => ?_)
              clear hK K
              (try simp only [Act.put, List.setIfInBounds_toArray, List.set_cons_zero, List.set_cons_succ, List.getElem_toArray, List.getElem_cons_zero, List.getElem_cons_succ])
              refine wpAnyH_take (i := 8) (oi := _) (v := ?_) rfl (by kernel_rfl) (by kernel_rfl) (by kernel_rfl) (fun _ _ _ h => h) (Or.inl ⟨by rfl, ?_⟩) (by assumption) ?_
              rotate_left
              · intro w hSw
                try dsimp only at hSw
                go_simp
                try with_reducible rfl
              (try simp only [Act.put, List.setIfInBounds_toArray, List.set_cons_zero, List.set_cons_succ, List.getElem_toArray, List.getElem_cons_zero, List.getElem_cons_succ])
              refine wpAnyH_ready (rs := [11]) (by kernel_rfl) (by simp) ?_
              refine AllReadyH.cons (o := _) rfl (fun K hK => ?_) AllReadyH.nil
              go_simp
              have hs := Lib.hid ((Below.refl _ _).alloc (Nat.le_refl _) (.cells #[.int .u32 x.z] 34) : Below W4.heap.size W4 (W4.alloc (.cells #[.int .u32 x.z] 34)))
              have F3 : Hid (NumS .u32 (W4.alloc (.cells #[.int .u32 x.z] 34)) (.slice (some ⟨W4.heap.size, 0, none⟩) 1 1) [x.z]) := Lib.hid (nums_row (heap_alloc_new _ _) rfl (one_at _ _))
              have FL := Lib.hid (FL.out.below hs.out)
              have hX := Lib.hid (hX.out.trans (hs.out.mono hX.out.size))
              clear hs
              refine hK.out _ _ (⟨(hX.out.cell (p := ⟨w.heap.size, 0, none⟩) hltA).trans k0, (hX.out.cell (p := ⟨w.heap.size, 1, none⟩) hltA).trans k1, (hX.out.cell (p := ⟨w.heap.size, 2, none⟩) hltA).trans k2⟩) (fun hHeld => ?_)
              clear hK K
              (try simp only [Act.put, List.setIfInBounds_toArray, List.set_cons_zero, List.set_cons_succ, List.getElem_toArray, List.getElem_cons_zero, List.getElem_cons_succ])
              generalize W4.alloc (.cells #[.int .u32 x.z] 34) = W5 at *
              refine wpAnyH_ready (rs := [12]) (by kernel_rfl) (by simp) ?_
              refine AllReadyH.cons (o := _) rfl (fun K hK => ?_) AllReadyH.nil
              go_simp
              with_reducible refine (H3.out _ _ F3.out).mono ?_
              rintro e W6 ⟨rfl, hs⟩
              have FL := Lib.hid (FL.out.below hs)
              have hX := Lib.hid (hX.out.trans (hs.mono hX.out.size))
              clear hs
              refine hK.out _ _ (⟨(hX.out.cell (p := ⟨w.heap.size, 0, none⟩) hltA).trans k0, (hX.out.cell (p := ⟨w.heap.size, 1, none⟩) hltA).trans k1, (hX.out.cell (p := ⟨w.heap.size, 2, none⟩) hltA).trans k2⟩) (fun hHeld => ?_)
              clear hK K
              (try simp only [Act.put, List.setIfInBounds_toArray, List.set_cons_zero, List.set_cons_succ, List.getElem_toArray, List.getElem_cons_zero, List.getElem_cons_succ])
              refine wpAnyH_take (i := 13) (oi := _) (v := ?_) rfl (by kernel_rfl) (by kernel_rfl) (by kernel_rfl) (fun _ _ _ h => h) (Or.inl ⟨by rfl, ?_⟩) (by assumption) ?_
              rotate_left
              · intro w hSw
                try dsimp only at hSw
                go_simp
                try with_reducible rfl
              (try simp only [Act.put, List.setIfInBounds_toArray, List.set_cons_zero, List.set_cons_succ, List.getElem_toArray, List.getElem_cons_zero, List.getElem_cons_succ])
              refine wpAnyH_ready (rs := [15]) (by kernel_rfl) (by simp) ?_
              refine AllReadyH.cons (o := _) rfl (fun K hK => ?_) AllReadyH.nil
              go_simp
              with_reducible refine (H4.out _ _ FL.out).mono ?_
              rintro e W7 ⟨rfl, hs⟩
              have hX := Lib.hid (hX.out.trans (hs.mono hX.out.size))
              clear hs
              refine hK.out _ _ (⟨(hX.out.cell (p := ⟨w.heap.size, 0, none⟩) hltA).trans k0, (hX.out.cell (p := ⟨w.heap.size, 1, none⟩) hltA).trans k1, (hX.out.cell (p := ⟨w.heap.size, 2, none⟩) hltA).trans k2⟩) (fun hHeld => ?_)
              clear hK K
              (try simp only [Act.put, List.setIfInBounds_toArray, List.set_cons_zero, List.set_cons_succ, List.getElem_toArray, List.getElem_cons_zero, List.getElem_cons_succ])
              refine wpAnyH_take (i := 16) (oi := _) (v := ?_) rfl (by kernel_rfl) (by kernel_rfl) (by kernel_rfl) (fun _ _ _ h => h) (Or.inl ⟨by rfl, ?_⟩) (by assumption) ?_
              rotate_left
              · intro w hSw
                try dsimp only at hSw
                go_simp
                try with_reducible rfl
              (try simp only [Act.put, List.setIfInBounds_toArray, List.set_cons_zero, List.set_cons_succ, List.getElem_toArray, List.getElem_cons_zero, List.getElem_cons_succ])
              refine wpAnyH_take (i := 17) (oi := _) (v := ?_) rfl (by kernel_rfl) (by kernel_rfl) (by kernel_rfl) (fun _ _ _ h => h) (Or.inl ⟨by rfl, ?_⟩) (by assumption) ?_
              rotate_left
              · intro w hSw
                try dsimp only at hSw
                go_simp
                try with_reducible rfl
              (try simp only [Act.put, List.setIfInBounds_toArray, List.set_cons_zero, List.set_cons_succ, List.getElem_toArray, List.getElem_cons_zero, List.getElem_cons_succ])
              refine wpAnyH_done (by kernel_rfl) ?_ _
              go_wp2_with fail
              go_meet
              case rel => exact ⟨rfl, hX.out⟩
            refine AllReadyH.cons (o := _) rfl (fun K hK => ?_) AllReadyH.nil
            go_simp
            have hs := Lib.hid ((Below.refl _ _).alloc (Nat.le_refl _) (.cells #[.int .u32 x.z] 34) : Below W3.heap.size W3 (W3.alloc (.cells #[.int .u32 x.z] 34)))
            have F3 : Hid (NumS .u32 (W3.alloc (.cells #[.int .u32 x.z] 34)) (.slice (some ⟨W3.heap.size, 0, none⟩) 1 1) [x.z]) := Lib.hid (nums_row (heap_alloc_new _ _) rfl (one_at _ _))
            have F2 := Lib.hid (F2.out.below hs.out)
            have FL := Lib.hid (FL.out.below hs.out)
            have hX := Lib.hid (hX.out.trans (hs.out.mono hX.out.size))
            clear hs
            refine hK.out _ _ (⟨(hX.out.cell (p := ⟨w.heap.size, 0, none⟩) hltA).trans k0, (hX.out.cell (p := ⟨w.heap.size, 1, none⟩) hltA).trans k1, (hX.out.cell (p := ⟨w.heap.size, 2, none⟩) hltA).trans k2⟩) (fun hHeld => ?_)
            clear hK K
            (try simp only [Act.put, List.setIfInBounds_toArray, List.set_cons_zero, List.set_cons_succ, List.getElem_toArray, List.getElem_cons_zero, List.getElem_cons_succ])
            generalize W3.alloc (.cells #[.int .u32 x.z] 34) = W4 at *
            refine wpAnyH_ready (rs := [7]) (by kernel_rfl) (by simp) ?_
            refine AllReadyH.cons (o := _) rfl (fun K hK => ?_) AllReadyH.nil
            go_simp
            with_reducible refine (H2.out _ _ F2.out).mono ?_
            rintro e W5 ⟨rfl, hs⟩
            have F3 := Lib.hid (F3.out.below hs)
            have FL := Lib.hid (FL.out.below hs)
            have hX := Lib.hid (hX.out.trans (hs.mono hX.out.size))
            clear hs
            refine hK.out _ _ (⟨(hX.out.cell (p := ⟨w.heap.size, 0, none⟩) hltA).trans k0, (hX.out.cell (p := ⟨w.heap.size, 1, none⟩) hltA).trans k1, (hX.out.cell (p := ⟨w.heap.size, 2, none⟩) hltA).trans k2⟩) (fun hHeld => ?_)
            clear hK K
            (try simp only [Act.put, List.setIfInBounds_toArray, List.set_cons_zero, List.set_cons_succ, List.getElem_toArray, List.getElem_cons_zero, List.getElem_cons_succ])
            refine wpAnyH_take (i := 8) (oi := _) (v := ?_) rfl (by kernel_rfl) (by kernel_rfl) (by kernel_rfl) (fun _ _ _ h => h) (Or.inl ⟨by rfl, ?_⟩) (by assumption) ?_
            rotate_left
            · intro w hSw
              try dsimp only at hSw
              go_simp
              try with_reducible rfl
            (try simp only [Act.put, List.setIfInBounds_toArray, List.set_cons_zero, List.set_cons_succ, List.getElem_toArray, List.getElem_cons_zero, List.getElem_cons_succ])
            refine wpAnyH_ready (rs := [12]) (by kernel_rfl) (by simp) ?_
            refine AllReadyH.cons (o := _) rfl (fun K hK => ?_) AllReadyH.nil
            go_simp
            with_reducible refine (H3.out _ _ F3.out).mono ?_
            rintro e W6 ⟨rfl, hs⟩
            have FL := Lib.hid (FL.out.below hs)
            have hX := Lib.hid (hX.out.trans (hs.mono hX.out.size))
            clear hs
            refine hK.out _ _ (⟨(hX.out.cell (p := ⟨w.heap.size, 0, none⟩) hltA).trans k0, (hX.out.cell (p := ⟨w.heap.size, 1, none⟩) hltA).trans k1, (hX.out.cell (p := ⟨w.heap.size, 2, none⟩) hltA).trans k2⟩) (fun hHeld => ?_)
            clear hK K
            (try simp only [Act.put, List.setIfInBounds_toArray, List.set_cons_zero, List.set_cons_succ, List.getElem_toArray, List.getElem_cons_zero, List.getElem_cons_succ])
            refine wpAnyH_take (i := 13) (oi := _) (v := ?_) rfl (by kernel_rfl) (by kernel_rfl) (by kernel_rfl) (fun _ _ _ h => h) (Or.inl ⟨by rfl, ?_⟩) (by assumption) ?_
            rotate_left
            · intro w hSw
              try dsimp only at hSw
              go_simp
              try with_reducible rfl
            (try simp only [Act.put, List.setIfInBounds_toArray, List.set_cons_zero, List.set_cons_succ, List.getElem_toArray, List.getElem_cons_zero, List.getElem_cons_succ])
            refine wpAnyH_ready (rs := [15]) (by kernel_rfl) (by simp) ?_
            refine AllReadyH.cons (o := _) rfl (fun K hK => ?_) AllReadyH.nil
            go_simp
            with_reducible refine (H4.out _ _ FL.out).mono ?_
            rintro e W7 ⟨rfl, hs⟩
            have hX := Lib.hid (hX.out.trans (hs.mono hX.out.size))
            clear hs
            refine hK.out _ _ (⟨(hX.out.cell (p := ⟨w.heap.size, 0, none⟩) hltA).trans k0, (hX.out.cell (p := ⟨w.heap.size, 1, none⟩) hltA).trans k1, (hX.out.cell (p := ⟨w.heap.size, 2, none⟩) hltA).trans k2⟩) (fun hHeld => ?_)
            clear hK K
            (try simp only [Act.put, List.setIfInBounds_toArray, List.set_cons_zero, List.set_cons_succ, List.getElem_toArray, List.getElem_cons_zero, List.getElem_cons_succ])
            refine wpAnyH_take (i := 16) (oi := _) (v := ?_) rfl (by kernel_rfl) (by kernel_rfl) (by kernel_rfl) (fun _ _ _ h => h) (Or.inl ⟨by rfl, ?_⟩) (by assumption) ?_
            rotate_left
            · intro w hSw
              try dsimp only at hSw
              go_simp
              try with_reducible rfl
            (try simp only [Act.put, List.setIfInBounds_toArray, List.set_cons_zero, List.set_cons_succ, List.getElem_toArray, List.getElem_cons_zero, List.getElem_cons_succ])
            refine wpAnyH_take (i := 17) (oi := _) (v := ?_) rfl (by kernel_rfl) (by kernel_rfl) (by kernel_rfl) (fun _ _ _ h => h) (Or.inl ⟨by rfl, ?_⟩) (by assumption) ?_
            rotate_left
            · intro w hSw
              try dsimp only at hSw
              go_simp
              try with_reducible rfl
            (try simp only [Act.put, List.setIfInBounds_toArray, List.set_cons_zero, List.set_cons_succ, List.getElem_toArray, List.getElem_cons_zero, List.getElem_cons_succ])
            refine wpAnyH_done (by kernel_rfl) ?_ _
            go_wp2_with fail
            go_meet
            case rel => exact ⟨rfl, hX.out⟩
          refine AllReadyH.cons (o := _) rfl (fun K hK => ?_) AllReadyH.nil
          go_simp
          have hs := Lib.hid ((Below.refl _ _).alloc (Nat.le_refl _) (.cells #[.int .u32 x.z] 34) : Below W2.heap.size W2 (W2.alloc (.cells #[.int .u32 x.z] 34)))
          have F3 : Hid (NumS .u32 (W2.alloc (.cells #[.int .u32 x.z] 34)) (.slice (some ⟨W2.heap.size, 0, none⟩) 1 1) [x.z]) := Lib.hid (nums_row (heap_alloc_new _ _) rfl (one_at _ _))
          have F1 := Lib.hid (F1.out.below hs.out)
          have F2 := Lib.hid (F2.out.below hs.out)
          have FL := Lib.hid (FL.out.below hs.out)
          have hX := Lib.hid (hX.out.trans (hs.out.mono hX.out.size))
          clear hs
          refine hK.out _ _ (⟨(hX.out.cell (p := ⟨w.heap.size, 0, none⟩) hltA).trans k0, (hX.out.cell (p := ⟨w.heap.size, 1, none⟩) hltA).trans k1, (hX.out.cell (p := ⟨w.heap.size, 2, none⟩) hltA).trans k2⟩) (fun hHeld => ?_)
          clear hK K
          (try simp only [Act.put, List.setIfInBounds_toArray, List.set_cons_zero, List.set_cons_succ, List.getElem_toArray, List.getElem_cons_zero, List.getElem_cons_succ])
          generalize W2.alloc (.cells #[.int .u32 x.z] 34) = W3 at *
          refine wpAnyH_ready (rs := [3]) (by kernel_rfl) (by simp) ?_
          refine AllReadyH.cons (o := _) rfl (fun K hK => ?_) AllReadyH.nil
          go_simp
          with_reducible refine (H1.out _ _ F1.out).mono ?_
          rintro e W4 ⟨rfl, hs⟩
          have F2 := Lib.hid (F2.out.below hs)
          have F3 := Lib.hid (F3.out.below hs)
          have FL := Lib.hid (FL.out.below hs)
          have hX := Lib.hid (hX.out.trans (hs.mono hX.out.size))
          clear hs
          refine hK.out _ _ (⟨(hX.out.cell (p := ⟨w.heap.size, 0, none⟩) hltA).trans k0, (hX.out.cell (p := ⟨w.heap.size, 1, none⟩) hltA).trans k1, (hX.out.cell (p := ⟨w.heap.size, 2, none⟩) hltA).trans k2⟩) (fun hHeld => ?_)
          clear hK K
          (try simp only [Act.put, List.setIfInBounds_toArray, List.set_cons_zero, List.set_cons_succ, List.getElem_toArray, List.getElem_cons_zero, List.getElem_cons_succ])
          refine wpAnyH_ready (rs := [7]) (by kernel_rfl) (by simp) ?_
          refine AllReadyH.cons (o := _) rfl (fun K hK => ?_) AllReadyH.nil
          go_simp
          with_reducible refine (H2.out _ _ F2.out).mono ?_
          rintro e W5 ⟨rfl, hs⟩
          have F3 := Lib.hid (F3.out.below hs)
          have FL := Lib.hid (FL.out.below hs)
          have hX := Lib.hid (hX.out.trans (hs.mono hX.out.size))
          clear hs
          refine hK.out _ _ (⟨(hX.out.cell (p := ⟨w.heap.size, 0, none⟩) hltA).trans k0, (hX.out.cell (p := ⟨w.heap.size, 1, none⟩) hltA).trans k1, (hX.out.cell (p := ⟨w.heap.size, 2, none⟩) hltA).trans k2⟩) (fun hHeld => ?_)
          clear hK K
          (try simp only [Act.put, List.setIfInBounds_toArray, List.set_cons_zero, List.set_cons_succ, List.getElem_toArray, List.getElem_cons_zero, List.getElem_cons_succ])
          refine wpAnyH_take (i := 8) (oi := _) (v := ?_) rfl (by kernel_rfl) (by kernel_rfl) (by kernel_rfl) (fun _ _ _ h => h) (Or.inl ⟨by rfl, ?_⟩) (by assumption) ?_
          rotate_left
          · intro w hSw
            try dsimp only at hSw
            go_simp
            try with_reducible rfl
          (try simp only [Act.put, List.setIfInBounds_toArray, List.set_cons_zero, List.set_cons_succ, List.getElem_toArray, List.getElem_cons_zero, List.getElem_cons_succ])
          refine wpAnyH_ready (rs := [12]) (by kernel_rfl) (by simp) ?_
          refine AllReadyH.cons (o := _) rfl (fun K hK => ?_) AllReadyH.nil
          go_simp
          with_reducible refine (H3.out _ _ F3.out).mono ?_
          rintro e W6 ⟨rfl, hs⟩
          have FL := Lib.hid (FL.out.below hs)
          have hX := Lib.hid (hX.out.trans (hs.mono hX.out.size))
          clear hs
          refine hK.out _ _ (⟨(hX.out.cell (p := ⟨w.heap.size, 0, none⟩) hltA).trans k0, (hX.out.cell (p := ⟨w.heap.size, 1, none⟩) hltA).trans k1, (hX.out.cell (p := ⟨w.heap.size, 2, none⟩) hltA).trans k2⟩) (fun hHeld => ?_)
          clear hK K
          (try simp only [Act.put, List.setIfInBounds_toArray, List.set_cons_zero, List.set_cons_succ, List.getElem_toArray, List.getElem_cons_zero, List.getElem_cons_succ])
          refine wpAnyH_take (i := 13) (oi := _) (v := ?_) rfl (by kernel_rfl) (by kernel_rfl) (by kernel_rfl) (fun _ _ _ h => h) (Or.inl ⟨by rfl, ?_⟩) (by assumption) ?_
          rotate_left
          · intro w hSw
            try dsimp only at hSw
            go_simp
            try with_reducible rfl
          (try simp only [Act.put, List.setIfInBounds_toArray, List.set_cons_zero, List.set_cons_succ, List.getElem_toArray, List.getElem_cons_zero, List.getElem_cons_succ])
          refine wpAnyH_ready (rs := [15]) (by kernel_rfl) (by simp) ?_
          refine AllReadyH.cons (o := _) rfl (fun K hK => ?_) AllReadyH.nil
          go_simp
          with_reducible refine (H4.out _ _ FL.out).mono ?_
          rintro e W7 ⟨rfl, hs⟩
          have hX := Lib.hid (hX.out.trans (hs.mono hX.out.size))
          clear hs
          refine hK.out _ _ (⟨(hX.out.cell (p := ⟨w.heap.size, 0, none⟩) hltA).trans k0, (hX.out.cell (p := ⟨w.heap.size, 1, none⟩) hltA).trans k1, (hX.out.cell (p := ⟨w.heap.size, 2, none⟩) hltA).trans k2⟩) (fun hHeld => ?_)
          clear hK K
          (try simp only [Act.put, List.setIfInBounds_toArray, List.set_cons_zero, List.set_cons_succ, List.getElem_toArray, List.getElem_cons_zero, List.getElem_cons_succ])
          refine wpAnyH_take (i := 16) (oi := _) (v := ?_) rfl (by kernel_rfl) (by kernel_rfl) (by kernel_rfl) (fun _ _ _ h => h) (Or.inl ⟨by rfl, ?_⟩) (by assumption) ?_
          rotate_left
          · intro w hSw
            try dsimp only at hSw
            go_simp
            try with_reducible rfl
          (try simp only [Act.put, List.setIfInBounds_toArray, List.set_cons_zero, List.set_cons_succ, List.getElem_toArray, List.getElem_cons_zero, List.getElem_cons_succ])
          refine wpAnyH_take (i := 17) (oi := _) (v := ?_) rfl (by kernel_rfl) (by kernel_rfl) (by kernel_rfl) (fun _ _ _ h => h) (Or.inl ⟨by rfl, ?_⟩) (by assumption) ?_
          rotate_left
          · intro w hSw
            try dsimp only at hSw
            go_simp
            try with_reducible rfl
          (try simp only [Act.put, List.setIfInBounds_toArray, List.set_cons_zero, List.set_cons_succ, List.getElem_toArray, List.getElem_cons_zero, List.getElem_cons_succ])
          refine wpAnyH_done (by kernel_rfl) ?_ _
          go_wp2_with fail
          go_meet
          case rel => exact ⟨rfl, hX.out⟩
        refine AllReadyH.cons (o := _) rfl (fun K hK => ?_) AllReadyH.nil
        go_simp
        have hs := Lib.hid ((Below.refl _ _).alloc (Nat.le_refl _) (.cells #[.int .u32 x.z] 34) : Below W1.heap.size W1 (W1.alloc (.cells #[.int .u32 x.z] 34)))
        have F3 : Hid (NumS .u32 (W1.alloc (.cells #[.int .u32 x.z] 34)) (.slice (some ⟨W1.heap.size, 0, none⟩) 1 1) [x.z]) := Lib.hid (nums_row (heap_alloc_new _ _) rfl (one_at _ _))
        have F1 := Lib.hid (F1.out.below hs.out)
        have FL := Lib.hid (FL.out.below hs.out)
        have hX := Lib.hid (hX.out.trans (hs.out.mono hX.out.size))
        clear hs
        refine hK.out _ _ (⟨(hX.out.cell (p := ⟨w.heap.size, 0, none⟩) hltA).trans k0, (hX.out.cell (p := ⟨w.heap.size, 1, none⟩) hltA).trans k1, (hX.out.cell (p := ⟨w.heap.size, 2, none⟩) hltA).trans k2⟩) (fun hHeld => ?_)
        clear hK K
        (try simp only [Act.put, List.setIfInBounds_toArray, List.set_cons_zero, List.set_cons_succ, List.getElem_toArray, List.getElem_cons_zero, List.getElem_cons_succ])
        generalize W1.alloc (.cells #[.int .u32 x.z] 34) = W2 at *
        refine wpAnyH_ready (rs := [3, 6]) (by kernel_rfl) (by simp) ?_
        refine AllReadyH.cons (o := _) rfl (fun K hK => ?_) ?_
        · go_simp
          with_reducible refine (H1.out _ _ F1.out).mono ?_
          rintro e W3 ⟨rfl, hs⟩
          have F3 := Lib.hid (F3.out.below hs)
          have FL := Lib.hid (FL.out.below hs)
          have hX := Lib.hid (hX.out.trans (hs.mono hX.out.size))
          clear hs
          refine hK.out _ _ (⟨(hX.out.cell (p := ⟨w.heap.size, 0, none⟩) hltA).trans k0, (hX.out.cell (p := ⟨w.heap.size, 1, none⟩) hltA).trans k1, (hX.out.cell (p := ⟨w.heap.size, 2, none⟩) hltA).trans k2⟩) (fun hHeld => ?_)
          clear hK K
          (try simp only [Act.put, List.setIfInBounds_toArray, List.set_cons_zero, List.set_cons_succ, List.getElem_toArray, List.getElem_cons_zero, List.getElem_cons_succ])
          refine wpAnyH_ready (rs := [6]) (by kernel_rfl) (by simp) ?_
          refine AllReadyH.cons (o := _) rfl (fun K hK => ?_) AllReadyH.nil
          go_simp
          have hs := Lib.hid ((Below.refl _ _).alloc (Nat.le_refl _) (.cells #[w16 x.n] 38) : Below W3.heap.size W3 (W3.alloc (.cells #[w16 x.n] 38)))
          have F2 : Hid (NumS .u16 (W3.alloc (.cells #[w16 x.n] 38)) (.slice (some ⟨W3.heap.size, 0, none⟩) 1 1) [x.n]) := Lib.hid (nums_row (heap_alloc_new _ _) rfl (one_at _ _))
          have F3 := Lib.hid (F3.out.below hs.out)
          have FL := Lib.hid (FL.out.below hs.out)
          have hX := Lib.hid (hX.out.trans (hs.out.mono hX.out.size))
          clear hs
          refine hK.out _ _ (⟨(hX.out.cell (p := ⟨w.heap.size, 0, none⟩) hltA).trans k0, (hX.out.cell (p := ⟨w.heap.size, 1, none⟩) hltA).trans k1, (hX.out.cell (p := ⟨w.heap.size, 2, none⟩) hltA).trans k2⟩) (fun hHeld => ?_)
          clear hK K
          (try simp only [Act.put, List.setIfInBounds_toArray, List.set_cons_zero, List.set_cons_succ, List.getElem_toArray, List.getElem_cons_zero, List.getElem_cons_succ])
          generalize W3.alloc (.cells #[w16 x.n] 38) = W4 at *
          refine wpAnyH_ready (rs := [7]) (by kernel_rfl) (by simp) ?_
          refine AllReadyH.cons (o := _) rfl (fun K hK => ?_) AllReadyH.nil
          go_simp
          with_reducible refine (H2.out _ _ F2.out).mono ?_
          rintro e W5 ⟨rfl, hs⟩
          have F3 := Lib.hid (F3.out.below hs)
          have FL := Lib.hid (FL.out.below hs)
          have hX := Lib.hid (hX.out.trans (hs.mono hX.out.size))
          clear hs
          refine hK.out _ _ (⟨(hX.out.cell (p := ⟨w.heap.size, 0, none⟩) hltA).trans k0, (hX.out.cell (p := ⟨w.heap.size, 1, none⟩) hltA).trans k1, (hX.out.cell (p := ⟨w.heap.size, 2, none⟩) hltA).trans k2⟩) (fun hHeld => ?_)
          clear hK K
          (try simp only [Act.put, List.setIfInBounds_toArray, List.set_cons_zero, List.set_cons_succ, List.getElem_toArray, List.getElem_cons_zero, List.getElem_cons_succ])
          refine wpAnyH_take (i := 8) (oi := _) (v := ?_) rfl (by kernel_rfl) (by kernel_rfl) (by kernel_rfl) (fun _ _ _ h => h) (Or.inl ⟨by rfl, ?_⟩) (by assumption) ?_
          rotate_left
          · intro w hSw
            try dsimp only at hSw
            go_simp
            try with_reducible rfl
          (try simp only [Act.put, List.setIfInBounds_toArray, List.set_cons_zero, List.set_cons_succ, List.getElem_toArray, List.getElem_cons_zero, List.getElem_cons_succ])
          refine wpAnyH_ready (rs := [12]) (by kernel_rfl) (by simp) ?_
          refine AllReadyH.cons (o := _) rfl (fun K hK => ?_) AllReadyH.nil
          go_simp
          with_reducible refine (H3.out _ _ F3.out).mono ?_
          rintro e W6 ⟨rfl, hs⟩
          have FL := Lib.hid (FL.out.below hs)
          have hX := Lib.hid (hX.out.trans (hs.mono hX.out.size))
          clear hs
          refine hK.out _ _ (⟨(hX.out.cell (p := ⟨w.heap.size, 0, none⟩) hltA).trans k0, (hX.out.cell (p := ⟨w.heap.size, 1, none⟩) hltA).trans k1, (hX.out.cell (p := ⟨w.heap.size, 2, none⟩) hltA).trans k2⟩) (fun hHeld => ?_)
          clear hK K
          (try simp only [Act.put, List.setIfInBounds_toArray, List.set_cons_zero, List.set_cons_succ, List.getElem_toArray, List.getElem_cons_zero, List.getElem_cons_succ])
          refine wpAnyH_take (i := 13) (oi := _) (v := ?_) rfl (by kernel_rfl) (by kernel_rfl) (by kernel_rfl) (fun _ _ _ h => h) (Or.inl ⟨by rfl, ?_⟩) (by assumption) ?_
          rotate_left
          · intro w hSw
            try dsimp only at hSw
            go_simp
            try with_reducible rfl
          (try simp only [Act.put, List.setIfInBounds_toArray, List.set_cons_zero, List.set_cons_succ, List.getElem_toArray, List.getElem_cons_zero, List.getElem_cons_succ])
          refine wpAnyH_ready (rs := [15]) (by kernel_rfl) (by simp) ?_
          refine AllReadyH.cons (o := _) rfl (fun K hK => ?_) AllReadyH.nil
          go_simp
          with_reducible refine (H4.out _ _ FL.out).mono ?_
          rintro e W7 ⟨rfl, hs⟩
          have hX := Lib.hid (hX.out.trans (hs.mono hX.out.size))
          clear hs
          refine hK.out _ _ (⟨(hX.out.cell (p := ⟨w.heap.size, 0, none⟩) hltA).trans k0, (hX.out.cell (p := ⟨w.heap.size, 1, none⟩) hltA).trans k1, (hX.out.cell (p := ⟨w.heap.size, 2, none⟩) hltA).trans k2⟩) (fun hHeld => ?_)
          clear hK K
          (try simp only [Act.put, List.setIfInBounds_toArray, List.set_cons_zero, List.set_cons_succ, List.getElem_toArray, List.getElem_cons_zero, List.getElem_cons_succ])
          refine wpAnyH_take (i := 16) (oi := _) (v := ?_) rfl (by kernel_rfl) (by kernel_rfl) (by kernel_rfl) (fun _ _ _ h => h) (Or.inl ⟨by rfl, ?_⟩) (by assumption) ?_
          rotate_left
          · intro w hSw
            try dsimp only at hSw
            go_simp
            try with_reducible rfl
          (try simp only [Act.put, List.setIfInBounds_toArray, List.set_cons_zero, List.set_cons_succ, List.getElem_toArray, List.getElem_cons_zero, List.getElem_cons_succ])
          refine wpAnyH_take (i := 17) (oi := _) (v := ?_) rfl (by kernel_rfl) (by kernel_rfl) (by kernel_rfl) (fun _ _ _ h => h) (Or.inl ⟨by rfl, ?_⟩) (by assumption) ?_
          rotate_left
          · intro w hSw
            try dsimp only at hSw
            go_simp
            try with_reducible rfl
          (try simp only [Act.put, List.setIfInBounds_toArray, List.set_cons_zero, List.set_cons_succ, List.getElem_toArray, List.getElem_cons_zero, List.getElem_cons_succ])
          refine wpAnyH_done (by kernel_rfl) ?_ _
          go_wp2_with fail
          go_meet
          case rel => exact ⟨rfl, hX.out⟩
        refine AllReadyH.cons (o := _) rfl (fun K hK => ?_) AllReadyH.nil
        go_simp
        have hs := Lib.hid ((Below.refl _ _).alloc (Nat.le_refl _) (.cells #[w16 x.n] 38) : Below W2.heap.size W2 (W2.alloc (.cells #[w16 x.n] 38)))
        have F2 : Hid (NumS .u16 (W2.alloc (.cells #[w16 x.n] 38)) (.slice (some ⟨W2.heap.size, 0, none⟩) 1 1) [x.n]) := Lib.hid (nums_row (heap_alloc_new _ _) rfl (one_at _ _))
        have F1 := Lib.hid (F1.out.below hs.out)
        have F3 := Lib.hid (F3.out.below hs.out)
        have FL := Lib.hid (FL.out.below hs.out)
        have hX := Lib.hid (hX.out.trans (hs.out.mono hX.out.size))
        clear hs
        refine hK.out _ _ (⟨(hX.out.cell (p := ⟨w.heap.size, 0, none⟩) hltA).trans k0, (hX.out.cell (p := ⟨w.heap.size, 1, none⟩) hltA).trans k1, (hX.out.cell (p := ⟨w.heap.size, 2, none⟩) hltA).trans k2⟩) (fun hHeld => ?_)
        clear hK K
        (try simp only [Act.put, List.setIfInBounds_toArray, List.set_cons_zero, List.set_cons_succ, List.getElem_toArray, List.getElem_cons_zero, List.getElem_cons_succ])
        generalize W2.alloc (.cells #[w16 x.n] 38) = W3 at *
        refine wpAnyH_ready (rs := [3]) (by kernel_rfl) (by simp) ?_
        refine AllReadyH.cons (o := _) rfl (fun K hK => ?_) AllReadyH.nil
        go_simp
        with_reducible refine (H1.out _ _ F1.out).mono ?_
        rintro e W4 ⟨rfl, hs⟩
        have F2 := Lib.hid (F2.out.below hs)
        have F3 := Lib.hid (F3.out.below hs)
        have FL := Lib.hid (FL.out.below hs)
        have hX := Lib.hid (hX.out.trans (hs.mono hX.out.size))
        clear hs
        refine hK.out _ _ (⟨(hX.out.cell (p := ⟨w.heap.size, 0, none⟩) hltA).trans k0, (hX.out.cell (p := ⟨w.heap.size, 1, none⟩) hltA).trans k1, (hX.out.cell (p := ⟨w.heap.size, 2, none⟩) hltA).trans k2⟩) (fun hHeld => ?_)
        clear hK K
        (try simp only [Act.put, List.setIfInBounds_toArray, List.set_cons_zero, List.set_cons_succ, List.getElem_toArray, List.getElem_cons_zero, List.getElem_cons_succ])
        refine wpAnyH_ready (rs := [7]) (by kernel_rfl) (by simp) ?_
        refine AllReadyH.cons (o := _) rfl (fun K hK => ?_) AllReadyH.nil
        go_simp
        with_reducible refine (H2.out _ _ F2.out).mono ?_
        rintro e W5 ⟨rfl, hs⟩
        have F3 := Lib.hid (F3.out.below hs)
        have FL := Lib.hid (FL.out.below hs)
        have hX := Lib.hid (hX.out.trans (hs.mono hX.out.size))
        clear hs
        refine hK.out _ _ (⟨(hX.out.cell (p := ⟨w.heap.size, 0, none⟩) hltA).trans k0, (hX.out.cell (p := ⟨w.heap.size, 1, none⟩) hltA).trans k1, (hX.out.cell (p := ⟨w.heap.size, 2, none⟩) hltA).trans k2⟩) (fun hHeld => ?_)
        clear hK K
        (try simp only [Act.put, List.setIfInBounds_toArray, List.set_cons_zero, List.set_cons_succ, List.getElem_toArray, List.getElem_cons_zero, List.getElem_cons_succ])
        refine wpAnyH_take (i := 8) (oi := _) (v := ?_) rfl (by kernel_rfl) (by kernel_rfl) (by kernel_rfl) (fun _ _ _ h => h) (Or.inl ⟨by rfl, ?_⟩) (by assumption) ?_
        rotate_left
        · intro w hSw
          try dsimp only at hSw
          go_simp
          try with_reducible rfl
        (try simp only [Act.put, List.setIfInBounds_toArray, List.set_cons_zero, List.set_cons_succ, List.getElem_toArray, List.getElem_cons_zero, List.getElem_cons_succ])
        refine wpAnyH_ready (rs := [12]) (by kernel_rfl) (by simp) ?_
        refine AllReadyH.cons (o := _) rfl (fun K hK => ?_) AllReadyH.nil
        go_simp
        with_reducible refine (H3.out _ _ F3.out).mono ?_
        rintro e W6 ⟨rfl, hs⟩
        have FL := Lib.hid (FL.out.below hs)
        have hX := Lib.hid (hX.out.trans (hs.mono hX.out.size))
        clear hs
        refine hK.out _ _ (⟨(hX.out.cell (p := ⟨w.heap.size, 0, none⟩) hltA).trans k0, (hX.out.cell (p := ⟨w.heap.size, 1, none⟩) hltA).trans k1, (hX.out.cell (p := ⟨w.heap.size, 2, none⟩) hltA).trans k2⟩) (fun hHeld => ?_)
        clear hK K
        (try simp only [Act.put, List.setIfInBounds_toArray, List.set_cons_zero, List.set_cons_succ, List.getElem_toArray, List.getElem_cons_zero, List.getElem_cons_succ])
        refine wpAnyH_take (i := 13) (oi := _) (v := ?_) rfl (by kernel_rfl) (by kernel_rfl) (by kernel_rfl) (fun _ _ _ h => h) (Or.inl ⟨by rfl, ?_⟩) (by assumption) ?_
        rotate_left
        · intro w hSw
          try dsimp only at hSw
          go_simp
          try with_reducible rfl
        (try simp only [Act.put, List.setIfInBounds_toArray, List.set_cons_zero, List.set_cons_succ, List.getElem_toArray, List.getElem_cons_zero, List.getElem_cons_succ])
        refine wpAnyH_ready (rs := [15]) (by kernel_rfl) (by simp) ?_
        refine AllReadyH.cons (o := _) rfl (fun K hK => ?_) AllReadyH.nil
        go_simp
        with_reducible refine (H4.out _ _ FL.out).mono ?_
        rintro e W7 ⟨rfl, hs⟩
        have hX := Lib.hid (hX.out.trans (hs.mono hX.out.size))
        clear hs
        refine hK.out _ _ (⟨(hX.out.cell (p := ⟨w.heap.size, 0, none⟩) hltA).trans k0, (hX.out.cell (p := ⟨w.heap.size, 1, none⟩) hltA).trans k1, (hX.out.cell (p := ⟨w.heap.size, 2, none⟩) hltA).trans k2⟩) (fun hHeld => ?_)
        clear hK K
        (try simp only [Act.put, List.setIfInBounds_toArray, List.set_cons_zero, List.set_cons_succ, List.getElem_toArray, List.getElem_cons_zero, List.getElem_cons_succ])
        refine wpAnyH_take (i := 16) (oi := _) (v := ?_) rfl (by kernel_rfl) (by kernel_rfl) (by kernel_rfl) (fun _ _ _ h => h) (Or.inl ⟨by rfl, ?_⟩) (by assumption) ?_
        rotate_left
        · intro w hSw
          try dsimp only at hSw
          go_simp
          try with_reducible rfl
        (try simp only [Act.put, List.setIfInBounds_toArray, List.set_cons_zero, List.set_cons_succ, List.getElem_toArray, List.getElem_cons_zero, List.getElem_cons_succ])
        refine wpAnyH_take (i := 17) (oi := _) (v := ?_) rfl (by kernel_rfl) (by kernel_rfl) (by kernel_rfl) (fun _ _ _ h => h) (Or.inl ⟨by rfl, ?_⟩) (by assumption) ?_
        rotate_left
        · intro w hSw
          try dsimp only at hSw
          go_simp
          try with_reducible rfl
        (try simp only [Act.put, List.setIfInBounds_toArray, List.set_cons_zero, List.set_cons_succ, List.getElem_toArray, List.getElem_cons_zero, List.getElem_cons_succ])
        refine wpAnyH_done (by kernel_rfl) ?_ _
        go_wp2_with fail
        go_meet
        case rel => exact ⟨rfl, hX.out⟩
      refine AllReadyH.cons (o := _) rfl (fun K hK => ?_) ?_
      · go_simp
        have hs := Lib.hid ((Below.refl _ _).alloc (Nat.le_refl _) (.cells #[w16 x.n] 38) : Below W0.heap.size W0 (W0.alloc (.cells #[w16 x.n] 38)))
        have F2 : Hid (NumS .u16 (W0.alloc (.cells #[w16 x.n] 38)) (.slice (some ⟨W0.heap.size, 0, none⟩) 1 1) [x.n]) := Lib.hid (nums_row (heap_alloc_new _ _) rfl (one_at _ _))
        have FL := Lib.hid (FL.out.below hs.out)
        have hX := Lib.hid (hX.out.trans (hs.out.mono hX.out.size))
        clear hs
        refine hK.out _ _ (⟨(hX.out.cell (p := ⟨w.heap.size, 0, none⟩) hltA).trans k0, (hX.out.cell (p := ⟨w.heap.size, 1, none⟩) hltA).trans k1, (hX.out.cell (p := ⟨w.heap.size, 2, none⟩) hltA).trans k2⟩) (fun hHeld => ?_)
        clear hK K
        (try simp only [Act.put, List.setIfInBounds_toArray, List.set_cons_zero, List.set_cons_succ, List.getElem_toArray, List.getElem_cons_zero, List.getElem_cons_succ])
        generalize W0.alloc (.cells #[w16 x.n] 38) = W1 at *
        refine wpAnyH_ready (rs := [2, 11]) (by kernel_rfl) (by simp) ?_
        refine AllReadyH.cons (o := _) rfl (fun K hK => ?_) ?_
        · go_simp
          have hs := Lib.hid ((Below.refl _ _).alloc (Nat.le_refl _) (.cells #[.int .u8 x.k, .int .u8 0] 5) : Below W1.heap.size W1 (W1.alloc (.cells #[.int .u8 x.k, .int .u8 0] 5)))
          have F1 : Hid (NumS .u8 (W1.alloc (.cells #[.int .u8 x.k, .int .u8 0] 5)) (.slice (some ⟨W1.heap.size, 0, none⟩) 2 2) [x.k, 0]) := Lib.hid (nums_row (heap_alloc_new _ _) rfl (two_at _ _ _))
          have F2 := Lib.hid (F2.out.below hs.out)
          have FL := Lib.hid (FL.out.below hs.out)
          have hX := Lib.hid (hX.out.trans (hs.out.mono hX.out.size))
          clear hs
          refine hK.out _ _ (⟨(hX.out.cell (p := ⟨w.heap.size, 0, none⟩) hltA).trans k0, (hX.out.cell (p := ⟨w.heap.size, 1, none⟩) hltA).trans k1, (hX.out.cell (p := ⟨w.heap.size, 2, none⟩) hltA).trans k2⟩) (fun hHeld => ?_)
          clear hK K
          (try simp only [Act.put, List.setIfInBounds_toArray, List.set_cons_zero, List.set_cons_succ, List.getElem_toArray, List.getElem_cons_zero, List.getElem_cons_succ])
          generalize W1.alloc (.cells #[.int .u8 x.k, .int .u8 0] 5) = W2 at *
          refine wpAnyH_ready (rs := [3, 11]) (by kernel_rfl) (by simp) ?_
          refine AllReadyH.cons (o := _) rfl (fun K hK => ?_) ?_
          · go_simp
            with_reducible refine (H1.out _ _ F1.out).mono ?_
            rintro e W3 ⟨rfl, hs⟩
            have F2 := Lib.hid (F2.out.below hs)
            have FL := Lib.hid (FL.out.below hs)
            have hX := Lib.hid (hX.out.trans (hs.mono hX.out.size))
            clear hs
            refine hK.out _ _ (⟨(hX.out.cell (p := ⟨w.heap.size, 0, none⟩) hltA).trans k0, (hX.out.cell (p := ⟨w.heap.size, 1, none⟩) hltA).trans k1, (hX.out.cell (p := ⟨w.heap.size, 2, none⟩) hltA).trans k2⟩) (fun hHeld => ?_)
            clear hK K
            (try simp only [Act.put, List.setIfInBounds_toArray, List.set_cons_zero, List.set_cons_succ, List.getElem_toArray, List.getElem_cons_zero, List.getElem_cons_succ])
            refine wpAnyH_ready (rs := [7, 11]) (by kernel_rfl) (by simp) ?_
            refine AllReadyH.cons (o := _) rfl (fun K hK => ?_) ?_
            · go_simp
              with_reducible refine (H2.out _ _ F2.out).mono ?_
              rintro e W4 ⟨rfl, hs⟩
              have FL := Lib.hid (FL.out.below hs)
              have hX := Lib.hid (hX.out.trans (hs.mono hX.out.size))
              clear hs
              refine hK.out _ _ (⟨(hX.out.cell (p := ⟨w.heap.size, 0, none⟩) hltA).trans k0, (hX.out.cell (p := ⟨w.heap.size, 1, none⟩) hltA).trans k1, (hX.out.cell (p := ⟨w.heap.size, 2, none⟩) hltA).trans k2⟩) (fun hHeld => ?_)
              clear hK K
              (try simp only [Act.put, List.setIfInBounds_toArray, List.set_cons_zero, List.set_cons_succ, List.getElem_toArray, List.getElem_cons_zero, List.getElem_cons_succ])
              refine wpAnyH_take (i := 8) (oi := _) (v := ?_) rfl (by kernel_rfl) (by kernel_rfl) (by kernel_rfl) (fun _ _ _ h => h) (Or.inl ⟨by rfl, ?_⟩) (by assumption) ?_
              rotate_left
              · intro w hSw
                try dsimp only at hSw
                go_simp
                try with_reducible rfl
              (try simp only [Act.put, List.setIfInBounds_toArray, List.set_cons_zero, List.set_cons_succ, List.getElem_toArray, List.getElem_cons_zero, List.getElem_cons_succ])
              refine wpAnyH_ready (rs := [11]) (by kernel_rfl) (by simp) ?_
              refine AllReadyH.cons (o := _) rfl (fun K hK => ?_) AllReadyH.nil
              go_simp
              have hs := Lib.hid ((Below.refl _ _).alloc (Nat.le_refl _) (.cells #[.int .u32 x.z] 34) : Below W4.heap.size W4 (W4.alloc (.cells #[.int .u32 x.z] 34)))
              have F3 : Hid (NumS .u32 (W4.alloc (.cells #[.int .u32 x.z] 34)) (.slice (some ⟨W4.heap.size, 0, none⟩) 1 1) [x.z]) := Lib.hid (nums_row (heap_alloc_new _ _) rfl (one_at _ _))
              have FL := Lib.hid (FL.out.below hs.out)
              have hX := Lib.hid (hX.out.trans (hs.out.mono hX.out.size))
              clear hs
              refine hK.out _ _ (⟨(hX.out.cell (p := ⟨w.heap.size, 0, none⟩) hltA).trans k0, (hX.out.cell (p := ⟨w.heap.size, 1, none⟩) hltA).trans k1, (hX.out.cell (p := ⟨w.heap.size, 2, none⟩) hltA).trans k2⟩) (fun hHeld => ?_)
              clear hK K
              (try simp only [Act.put, List.setIfInBounds_toArray, List.set_cons_zero, List.set_cons_succ, List.getElem_toArray, List.getElem_cons_zero, List.getElem_cons_succ])
              generalize W4.alloc (.cells #[.int .u32 x.z] 34) = W5 at *
              refine wpAnyH_ready (rs := [12]) (by kernel_rfl) (by simp) ?_
              refine AllReadyH.cons (o := _) rfl (fun K hK => ?_) AllReadyH.nil
              go_simp
              with_reducible refine (H3.out _ _ F3.out).mono ?_
              rintro e W6 ⟨rfl, hs⟩
              have FL := Lib.hid (FL.out.below hs)
              have hX := Lib.hid (hX.out.trans (hs.mono hX.out.size))
              clear hs
              refine hK.out _ _ (⟨(hX.out.cell (p := ⟨w.heap.size, 0, none⟩) hltA).trans k0, (hX.out.cell (p := ⟨w.heap.size, 1, none⟩) hltA).trans k1, (hX.out.cell (p := ⟨w.heap.size, 2, none⟩) hltA).trans k2⟩) (fun hHeld => ?_)
              clear hK K
              (try simp only [Act.put, List.setIfInBounds_toArray, List.set_cons_zero, List.set_cons_succ, List.getElem_toArray, List.getElem_cons_zero, List.getElem_cons_succ])
              refine wpAnyH_take (i := 13) (oi := _) (v := ?_) rfl (by kernel_rfl) (by kernel_rfl) (by kernel_rfl) (fun _ _ _ h => h) (Or.inl ⟨by rfl, ?_⟩) (by assumption) ?_
              rotate_left
              · intro w hSw
                try dsimp only at hSw
                go_simp
                try with_reducible rfl
              (try simp only [Act.put, List.setIfInBounds_toArray, List.set_cons_zero, List.set_cons_succ, List.getElem_toArray, List.getElem_cons_zero, List.getElem_cons_succ])
              refine wpAnyH_ready (rs := [15]) (by kernel_rfl) (by simp) ?_
              refine AllReadyH.cons (o := _) rfl (fun K hK => ?_) AllReadyH.nil
              go_simp
              with_reducible refine (H4.out _ _ FL.out).mono ?_
              rintro e W7 ⟨rfl, hs⟩
              have hX := Lib.hid (hX.out.trans (hs.mono hX.out.size))
              clear hs
              refine hK.out _ _ (⟨(hX.out.cell (p := ⟨w.heap.size, 0, none⟩) hltA).trans k0, (hX.out.cell (p := ⟨w.heap.size, 1, none⟩) hltA).trans k1, (hX.out.cell (p := ⟨w.heap.size, 2, none⟩) hltA).trans k2⟩) (fun hHeld => ?_)
              clear hK K
              (try simp only [Act.put, List.setIfInBounds_toArray, List.set_cons_zero, List.set_cons_succ, List.getElem_toArray, List.getElem_cons_zero, List.getElem_cons_succ])
              refine wpAnyH_take (i := 16) (oi := _) (v := ?_) rfl (by kernel_rfl) (by kernel_rfl) (by kernel_rfl) (fun _ _ _ h => h) (Or.inl ⟨by rfl, ?_⟩) (by assumption) ?_
              rotate_left
              · intro w hSw
                try dsimp only at hSw
                go_simp
                try with_reducible rfl
              (try simp only [Act.put, List.setIfInBounds_toArray, List.set_cons_zero, List.set_cons_succ, List.getElem_toArray, List.getElem_cons_zero, List.getElem_cons_succ])
              refine wpAnyH_take (i := 17) (oi := _) (v := ?_) rfl (by kernel_rfl) (by kernel_rfl) (by kernel_rfl) (fun _ _ _ h => h) (Or.inl ⟨by rfl, ?_⟩) (by assumption) ?_
              rotate_left
              · intro w hSw
                try dsimp only at hSw
                go_simp
                try with_reducible rfl
              (try simp only [Act.put, List.setIfInBounds_toArray, List.set_cons_zero, List.set_cons_succ, List.getElem_toArray, List.getElem_cons_zero, List.getElem_cons_succ])
              refine wpAnyH_done (by kernel_rfl) ?_ _
              go_wp2_with fail
              go_meet
              case rel => exact ⟨rfl, hX.out⟩
            refine AllReadyH.cons (o := _) rfl (fun K hK => ?_) AllReadyH.nil
            go_simp
            have hs := Lib.hid ((Below.refl _ _).alloc (Nat.le_refl _) (.cells #[.int .u32 x.z] 34) : Below W3.heap.size W3 (W3.alloc (.cells #[.int .u32 x.z] 34)))
            have F3 : Hid (NumS .u32 (W3.alloc (.cells #[.int .u32 x.z] 34)) (.slice (some ⟨W3.heap.size, 0, none⟩) 1 1) [x.z]) := Lib.hid (nums_row (heap_alloc_new _ _) rfl (one_at _ _))
            have F2 := Lib.hid (F2.out.below hs.out)
            have FL := Lib.hid (FL.out.below hs.out)
            have hX := Lib.hid (hX.out.trans (hs.out.mono hX.out.size))
            clear hs
            refine hK.out _ _ (⟨(hX.out.cell (p := ⟨w.heap.size, 0, none⟩) hltA).trans k0, (hX.out.cell (p := ⟨w.heap.size, 1, none⟩) hltA).trans k1, (hX.out.cell (p := ⟨w.heap.size, 2, none⟩) hltA).trans k2⟩) (fun hHeld => ?_)
            clear hK K
            (try simp only [Act.put, List.setIfInBounds_toArray, List.set_cons_zero, List.set_cons_succ, List.getElem_toArray, List.getElem_cons_zero, List.getElem_cons_succ])
            generalize W3.alloc (.cells #[.int .u32 x.z] 34) = W4 at *
            refine wpAnyH_ready (rs := [7]) (by kernel_rfl) (by simp) ?_
            refine AllReadyH.cons (o := _) rfl (fun K hK => ?_) AllReadyH.nil
            go_simp
            with_reducible refine (H2.out _ _ F2.out).mono ?_
            rintro e W5 ⟨rfl, hs⟩
            have F3 := Lib.hid (F3.out.below hs)
            have FL := Lib.hid (FL.out.below hs)
            have hX := Lib.hid (hX.out.trans (hs.mono hX.out.size))
            clear hs
            refine hK.out _ _ (⟨(hX.out.cell (p := ⟨w.heap.size, 0, none⟩) hltA).trans k0, (hX.out.cell (p := ⟨w.heap.size, 1, none⟩) hltA).trans k1, (hX.out.cell (p := ⟨w.heap.size, 2, none⟩) hltA).trans k2⟩) (fun hHeld => ?_)
            clear hK K
            (try simp only [Act.put, List.setIfInBounds_toArray, List.set_cons_zero, List.set_cons_succ, List.getElem_toArray, List.getElem_cons_zero, List.getElem_cons_succ])
            refine wpAnyH_take (i := 8) (oi := _) (v := ?_) rfl (by kernel_rfl) (by kernel_rfl) (by kernel_rfl) (fun _ _ _ h => h) (Or.inl ⟨by rfl, ?_⟩) (by assumption) ?_
            rotate_left
            · intro w hSw
              try dsimp only at hSw
              go_simp
              try with_reducible rfl
            (try simp only [Act.put, List.setIfInBounds_toArray, List.set_cons_zero, List.set_cons_succ, List.getElem_toArray, List.getElem_cons_zero, List.getElem_cons_succ])
            refine wpAnyH_ready (rs := [12]) (by kernel_rfl) (by simp) ?_
            refine AllReadyH.cons (o := _) rfl (fun K hK => ?_) AllReadyH.nil
            go_simp
            with_reducible refine (H3.out _ _ F3.out).mono ?_
            rintro e W6 ⟨rfl, hs⟩
            have FL := Lib.hid (FL.out.below hs)
            have hX := Lib.hid (hX.out.trans (hs.mono hX.out.size))
            clear hs
            refine hK.out _ _ (⟨(hX.out.cell (p := ⟨w.heap.size, 0, none⟩) hltA).trans k0, (hX.out.cell (p := ⟨w.heap.size, 1, none⟩) hltA).trans k1, (hX.out.cell (p := ⟨w.heap.size, 2, none⟩) hltA).trans k2⟩) (fun hHeld => ?_)
            clear hK K
            (try simp only [Act.put, List.setIfInBounds_toArray, List.set_cons_zero, List.set_cons_succ, List.getElem_toArray, List.getElem_cons_zero, List.getElem_cons_succ])
            refine wpAnyH_take (i := 13) (oi := _) (v := ?_) rfl (by kernel_rfl) (by kernel_rfl) (by kernel_rfl) (fun _ _ _ h => h) (Or.inl ⟨by rfl, ?_⟩) (by assumption) ?_
            rotate_left
            · intro w hSw
              try dsimp only at hSw
              go_simp
              try with_reducible rfl
            (try simp only [Act.put, List.setIfInBounds_toArray, List.set_cons_zero, List.set_cons_succ, List.getElem_toArray, List.getElem_cons_zero, List.getElem_cons_succ])
            refine wpAnyH_ready (rs := [15]) (by kernel_rfl) (by simp) ?_
            refine AllReadyH.cons (o := _) rfl (fun K hK => ?_) AllReadyH.nil
            go_simp
            with_reducible refine (H4.out _ _ FL.out).mono ?_
            rintro e W7 ⟨rfl, hs⟩
            have hX := Lib.hid (hX.out.trans (hs.mono hX.out.size))
            clear hs
            refine hK.out _ _ (⟨(hX.out.cell (p := ⟨w.heap.size, 0, none⟩) hltA).trans k0, (hX.out.cell (p := ⟨w.heap.size, 1, none⟩) hltA).trans k1, (hX.out.cell (p := ⟨w.heap.size, 2, none⟩) hltA).trans k2⟩) (fun hHeld => ?_)
            clear hK K
            (try simp only [Act.put, List.setIfInBounds_toArray, List.set_cons_zero, List.set_cons_succ, List.getElem_toArray, List.getElem_cons_zero, List.getElem_cons_succ])
            refine wpAnyH_take (i := 16) (oi := _) (v := ?_) rfl (by kernel_rfl) (by kernel_rfl) (by kernel_rfl) (fun _ _ _ h => h) (Or.inl ⟨by rfl, ?_⟩) (by assumption) ?_
            rotate_left
            · intro w hSw
              try dsimp only at hSw
              go_simp
              try with_reducible rfl
            (try simp only [Act.put, List.setIfInBounds_toArray, List.set_cons_zero, List.set_cons_succ, List.getElem_toArray, List.getElem_cons_zero, List.getElem_cons_succ])
            refine wpAnyH_take (i := 17) (oi := _) (v := ?_) rfl (by kernel_rfl) (by kernel_rfl) (by kernel_rfl) (fun _ _ _ h => h) (Or.inl ⟨by rfl, ?_⟩) (by assumption) ?_
            rotate_left
            · intro w hSw
              try dsimp only at hSw
              go_simp
              try with_reducible rfl
            (try simp only [Act.put, List.setIfInBounds_toArray, List.set_cons_zero, List.set_cons_succ, List.getElem_toArray, List.getElem_cons_zero, List.getElem_cons_succ])
            refine wpAnyH_done (by kernel_rfl) ?_ _
            go_wp2_with fail
            go_meet
            case rel => exact ⟨rfl, hX.out⟩
          refine AllReadyH.cons (o := _) rfl (fun K hK => ?_) AllReadyH.nil
          go_simp
          have hs := Lib.hid ((Below.refl _ _).alloc (Nat.le_refl _) (.cells #[.int .u32 x.z] 34) : Below W2.heap.size W2 (W2.alloc (.cells #[.int .u32 x.z] 34)))
          have F3 : Hid (NumS .u32 (W2.alloc (.cells #[.int .u32 x.z] 34)) (.slice (some ⟨W2.heap.size, 0, none⟩) 1 1) [x.z]) := Lib.hid (nums_row (heap_alloc_new _ _) rfl (one_at _ _))
          have F1 := Lib.hid (F1.out.below hs.out)
          have F2 := Lib.hid (F2.out.below hs.out)
          have FL := Lib.hid (FL.out.below hs.out)
          have hX := Lib.hid (hX.out.trans (hs.out.mono hX.out.size))
          clear hs
          refine hK.out _ _ (⟨(hX.out.cell (p := ⟨w.heap.size, 0, none⟩) hltA).trans k0, (hX.out.cell (p := ⟨w.heap.size, 1, none⟩) hltA).trans k1, (hX.out.cell (p := ⟨w.heap.size, 2, none⟩) hltA).trans k2⟩) (fun hHeld => ?_)
          clear hK K
          (try simp only [Act.put, List.setIfInBounds_toArray, List.set_cons_zero, List.set_cons_succ, List.getElem_toArray, List.getElem_cons_zero, List.getElem_cons_succ])
          generalize W2.alloc (.cells #[.int .u32 x.z] 34) = W3 at *
          refine wpAnyH_ready (rs := [3]) (by kernel_rfl) (by simp) ?_
          refine AllReadyH.cons (o := _) rfl (fun K hK => ?_) AllReadyH.nil
          go_simp
          with_reducible refine (H1.out _ _ F1.out).mono ?_
          rintro e W4 ⟨rfl, hs⟩
          have F2 := Lib.hid (F2.out.below hs)
          have F3 := Lib.hid (F3.out.below hs)
          have FL := Lib.hid (FL.out.below hs)
          have hX := Lib.hid (hX.out.trans (hs.mono hX.out.size))
          clear hs
          refine hK.out _ _ (⟨(hX.out.cell (p := ⟨w.heap.size, 0, none⟩) hltA).trans k0, (hX.out.cell (p := ⟨w.heap.size, 1, none⟩) hltA).trans k1, (hX.out.cell (p := ⟨w.heap.size, 2, none⟩) hltA).trans k2⟩) (fun hHeld => ?_)
          clear hK K
          (try simp only [Act.put, List.setIfInBounds_toArray, List.set_cons_zero, List.set_cons_succ, List.getElem_toArray, List.getElem_cons_zero, List.getElem_cons_succ])
          refine wpAnyH_ready (rs := [7]) (by kernel_rfl) (by simp) ?_
          refine AllReadyH.cons (o := _) rfl (fun K hK => ?_) AllReadyH.nil
          go_simp
          with_reducible refine (H2.out _ _ F2.out).mono ?_
          rintro e W5 ⟨rfl, hs⟩
          have F3 := Lib.hid (F3.out.below hs)
          have FL := Lib.hid (FL.out.below hs)
          have hX := Lib.hid (hX.out.trans (hs.mono hX.out.size))
          clear hs
          refine hK.out _ _ (⟨(hX.out.cell (p := ⟨w.heap.size, 0, none⟩) hltA).trans k0, (hX.out.cell (p := ⟨w.heap.size, 1, none⟩) hltA).trans k1, (hX.out.cell (p := ⟨w.heap.size, 2, none⟩) hltA).trans k2⟩) (fun hHeld => ?_)
          clear hK K
          (try simp only [Act.put, List.setIfInBounds_toArray, List.set_cons_zero, List.set_cons_succ, List.getElem_toArray, List.getElem_cons_zero, List.getElem_cons_succ])
          refine wpAnyH_take (i := 8) (oi := _) (v := ?_) rfl (by kernel_rfl) (by kernel_rfl) (by kernel_rfl) (fun _ _ _ h => h) (Or.inl ⟨by rfl, ?_⟩) (by assumption) ?_
          rotate_left
          · intro w hSw
            try dsimp only at hSw
            go_simp
            try with_reducible rfl
          (try simp only [Act.put, List.setIfInBounds_toArray, List.set_cons_zero, List.set_cons_succ, List.getElem_toArray, List.getElem_cons_zero, List.getElem_cons_succ])
          refine wpAnyH_ready (rs := [12]) (by kernel_rfl) (by simp) ?_
          refine AllReadyH.cons (o := _) rfl (fun K hK => ?_) AllReadyH.nil
          go_simp
          with_reducible refine (H3.out _ _ F3.out).mono ?_
          rintro e W6 ⟨rfl, hs⟩
          have FL := Lib.hid (FL.out.below hs)
          have hX := Lib.hid (hX.out.trans (hs.mono hX.out.size))
          clear hs
          refine hK.out _ _ (⟨(hX.out.cell (p := ⟨w.heap.size, 0, none⟩) hltA).trans k0, (hX.out.cell (p := ⟨w.heap.size, 1, none⟩) hltA).trans k1, (hX.out.cell (p := ⟨w.heap.size, 2, none⟩) hltA).trans k2⟩) (fun hHeld => ?_)
          clear hK K
          (try simp only [Act.put, List.setIfInBounds_toArray, List.set_cons_zero, List.set_cons_succ, List.getElem_toArray, List.getElem_cons_zero, List.getElem_cons_succ])
          refine wpAnyH_take (i := 13) (oi := _) (v := ?_) rfl (by kernel_rfl) (by kernel_rfl) (by kernel_rfl) (fun _ _ _ h => h) (Or.inl ⟨by rfl, ?_⟩) (by assumption) ?_
          rotate_left
          · intro w hSw
            try dsimp only at hSw
            go_simp
            try with_reducible rfl
          (try simp only [Act.put, List.setIfInBounds_toArray, List.set_cons_zero, List.set_cons_succ, List.getElem_toArray, List.getElem_cons_zero, List.getElem_cons_succ])
          refine wpAnyH_ready (rs := [15]) (by kernel_rfl) (by simp) ?_
          refine AllReadyH.cons (o := _) rfl (fun K hK => ?_) AllReadyH.nil
          go_simp
          with_reducible refine (H4.out _ _ FL.out).mono ?_
          rintro e W7 ⟨rfl, hs⟩
          have hX := Lib.hid (hX.out.trans (hs.mono hX.out.size))
          clear hs
          refine hK.out _ _ (⟨(hX.out.cell (p := ⟨w.heap.size, 0, none⟩) hltA).trans k0, (hX.out.cell (p := ⟨w.heap.size, 1, none⟩) hltA).trans k1, (hX.out.cell (p := ⟨w.heap.size, 2, none⟩) hltA).trans k2⟩) (fun hHeld => ?_)
          clear hK K
          (try simp only [Act.put, List.setIfInBounds_toArray, List.set_cons_zero, List.set_cons_succ, List.getElem_toArray, List.getElem_cons_zero, List.getElem_cons_succ])
          refine wpAnyH_take (i := 16) (oi := _) (v := ?_) rfl (by kernel_rfl) (by kernel_rfl) (by kernel_rfl) (fun _ _ _ h => h) (Or.inl ⟨by rfl, ?_⟩) (by assumption) ?_
          rotate_left
          · intro w hSw
            try dsimp only at hSw
            go_simp
            try with_reducible rfl
          (try simp only [Act.put, List.setIfInBounds_toArray, List.set_cons_zero, List.set_cons_succ, List.getElem_toArray, List.getElem_cons_zero, List.getElem_cons_succ])
          refine wpAnyH_take (i := 17) (oi := _) (v := ?_) rfl (by kernel_rfl) (by kernel_rfl) (by kernel_rfl) (fun _ _ _ h => h) (Or.inl ⟨by rfl, ?_⟩) (by assumption) ?_
          rotate_left
          · intro w hSw
            try dsimp only at hSw
            go_simp
            try with_reducible rfl
          (try simp only [Act.put, List.setIfInBounds_toArray, List.set_cons_zero, List.set_cons_succ, List.getElem_toArray, List.getElem_cons_zero, List.getElem_cons_succ])
          refine wpAnyH_done (by kernel_rfl) ?_ _
          go_wp2_with fail
          go_meet
          case rel => exact ⟨rfl, hX.out⟩
        refine AllReadyH.cons (o := _) rfl (fun K hK => ?_) AllReadyH.nil
        go_simp
        have hs := Lib.hid ((Below.refl _ _).alloc (Nat.le_refl _) (.cells #[.int .u32 x.z] 34) : Below W1.heap.size W1 (W1.alloc (.cells #[.int .u32 x.z] 34)))
        have F3 : Hid (NumS .u32 (W1.alloc (.cells #[.int .u32 x.z] 34)) (.slice (some ⟨W1.heap.size, 0, none⟩) 1 1) [x.z]) := Lib.hid (nums_row (heap_alloc_new _ _) rfl (one_at _ _))
        have F2 := Lib.hid (F2.out.below hs.out)
        have FL := Lib.hid (FL.out.below hs.out)
        have hX := Lib.hid (hX.out.trans (hs.out.mono hX.out.size))
        clear hs
        refine hK.out _ _ (⟨(hX.out.cell (p := ⟨w.heap.size, 0, none⟩) hltA).trans k0, (hX.out.cell (p := ⟨w.heap.size, 1, none⟩) hltA).trans k1, (hX.out.cell (p := ⟨w.heap.size, 2, none⟩) hltA).trans k2⟩) (fun hHeld => ?_)
        clear hK K
        (try simp only [Act.put, List.setIfInBounds_toArray, List.set_cons_zero, List.set_cons_succ, List.getElem_toArray, List.getElem_cons_zero, List.getElem_cons_succ])
        generalize W1.alloc (.cells #[.int .u32 x.z] 34) = W2 at *
        refine wpAnyH_ready (rs := [2]) (by kernel_rfl) (by simp) ?_
        refine AllReadyH.cons (o := _) rfl (fun K hK => ?_) AllReadyH.nil
        go_simp
        have hs := Lib.hid ((Below.refl _ _).alloc (Nat.le_refl _) (.cells #[.int .u8 x.k, .int .u8 0] 5) : Below W2.heap.size W2 (W2.alloc (.cells #[.int .u8 x.k, .int .u8 0] 5)))
        have F1 : Hid (NumS .u8 (W2.alloc (.cells #[.int .u8 x.k, .int .u8 0] 5)) (.slice (some ⟨W2.heap.size, 0, none⟩) 2 2) [x.k, 0]) := Lib.hid (nums_row (heap_alloc_new _ _) rfl (two_at _ _ _))
        have F2 := Lib.hid (F2.out.below hs.out)
        have F3 := Lib.hid (F3.out.below hs.out)
        have FL := Lib.hid (FL.out.below hs.out)
        have hX := Lib.hid (hX.out.trans (hs.out.mono hX.out.size))
        clear hs
        refine hK.out _ _ (⟨(hX.out.cell (p := ⟨w.heap.size, 0, none⟩) hltA).trans k0, (hX.out.cell (p := ⟨w.heap.size, 1, none⟩) hltA).trans k1, (hX.out.cell (p := ⟨w.heap.size, 2, none⟩) hltA).trans k2⟩) (fun hHeld => ?_)
        clear hK K
        (try simp only [Act.put, List.setIfInBounds_toArray, List.set_cons_zero, List.set_cons_succ, List.getElem_toArray, List.getElem_cons_zero, List.getElem_cons_succ])
        generalize W2.alloc (.cells #[.int .u8 x.k, .int .u8 0] 5) = W3 at *
        refine wpAnyH_ready (rs := [3]) (by kernel_rfl) (by simp) ?_
        refine AllReadyH.cons (o := _) rfl (fun K hK => ?_) AllReadyH.nil
        go_simp
        with_reducible refine (H1.out _ _ F1.out).mono ?_
        rintro e W4 ⟨rfl, hs⟩
        have F2 := Lib.hid (F2.out.below hs)
        have F3 := Lib.hid (F3.out.below hs)
        have FL := Lib.hid (FL.out.below hs)
        have hX := Lib.hid (hX.out.trans (hs.mono hX.out.size))
        clear hs
        refine hK.out _ _ (⟨(hX.out.cell (p := ⟨w.heap.size, 0, none⟩) hltA).trans k0, (hX.out.cell (p := ⟨w.heap.size, 1, none⟩) hltA).trans k1, (hX.out.cell (p := ⟨w.heap.size, 2, none⟩) hltA).trans k2⟩) (fun hHeld => ?_)
        clear hK K
        (try simp only [Act.put, List.setIfInBounds_toArray, List.set_cons_zero, List.set_cons_succ, List.getElem_toArray, List.getElem_cons_zero, List.getElem_cons_succ])
        refine wpAnyH_ready (rs := [7]) (by kernel_rfl) (by simp) ?_
        refine AllReadyH.cons (o := _) rfl (fun K hK => ?_) AllReadyH.nil
        go_simp
        with_reducible refine (H2.out _ _ F2.out).mono ?_
        rintro e W5 ⟨rfl, hs⟩
        have F3 := Lib.hid (F3.out.below hs)
        have FL := Lib.hid (FL.out.below hs)
        have hX := Lib.hid (hX.out.trans (hs.mono hX.out.size))
        clear hs
        refine hK.out _ _ (⟨(hX.out.cell (p := ⟨w.heap.size, 0, none⟩) hltA).trans k0, (hX.out.cell (p := ⟨w.heap.size, 1, none⟩) hltA).trans k1, (hX.out.cell (p := ⟨w.heap.size, 2, none⟩) hltA).trans k2⟩) (fun hHeld => ?_)
        clear hK K
        (try simp only [Act.put, List.setIfInBounds_toArray, List.set_cons_zero, List.set_cons_succ, List.getElem_toArray, List.getElem_cons_zero, List.getElem_cons_succ])
        refine wpAnyH_take (i := 8) (oi := _) (v := ?_) rfl (by kernel_rfl) (by kernel_rfl) (by kernel_rfl) (fun _ _ _ h => h) (Or.inl ⟨by rfl, ?_⟩) (by assumption) ?_
        rotate_left
        · intro w hSw
          try dsimp only at hSw
          go_simp
          try with_reducible rfl
        (try simp only [Act.put, List.setIfInBounds_toArray, List.set_cons_zero, List.set_cons_succ, List.getElem_toArray, List.getElem_cons_zero, List.getElem_cons_succ])
        refine wpAnyH_ready (rs := [12]) (by kernel_rfl) (by simp) ?_
        refine AllReadyH.cons (o := _) rfl (fun K hK => ?_) AllReadyH.nil
        go_simp
        with_reducible refine (H3.out _ _ F3.out).mono ?_
        rintro e W6 ⟨rfl, hs⟩
        have FL := Lib.hid (FL.out.below hs)
        have hX := Lib.hid (hX.out.trans (hs.mono hX.out.size))
        clear hs
        refine hK.out _ _ (⟨(hX.out.cell (p := ⟨w.heap.size, 0, none⟩) hltA).trans k0, (hX.out.cell (p := ⟨w.heap.size, 1, none⟩) hltA).trans k1, (hX.out.cell (p := ⟨w.heap.size, 2, none⟩) hltA).trans k2⟩) (fun hHeld => ?_)
        clear hK K
        (try simp only [Act.put, List.setIfInBounds_toArray, List.set_cons_zero, List.set_cons_succ, List.getElem_toArray, List.getElem_cons_zero, List.getElem_cons_succ])
        refine wpAnyH_take (i := 13) (oi := _) (v := ?_) rfl (by kernel_rfl) (by kernel_rfl) (by kernel_rfl) (fun _ _ _ h => h) (Or.inl ⟨by rfl, ?_⟩) (by assumption) ?_
        rotate_left
        · intro w hSw
          try dsimp only at hSw
          go_simp
          try with_reducible rfl
        (try simp only [Act.put, List.setIfInBounds_toArray, List.set_cons_zero, List.set_cons_succ, List.getElem_toArray, List.getElem_cons_zero, List.getElem_cons_succ])
        refine wpAnyH_ready (rs := [15]) (by kernel_rfl) (by simp) ?_
        refine AllReadyH.cons (o := _) rfl (fun K hK => ?_) AllReadyH.nil
        go_simp
        with_reducible refine (H4.out _ _ FL.out).mono ?_
        rintro e W7 ⟨rfl, hs⟩
        have hX := Lib.hid (hX.out.trans (hs.mono hX.out.size))
        clear hs
        refine hK.out _ _ (⟨(hX.out.cell (p := ⟨w.heap.size, 0, none⟩) hltA).trans k0, (hX.out.cell (p := ⟨w.heap.size, 1, none⟩) hltA).trans k1, (hX.out.cell (p := ⟨w.heap.size, 2, none⟩) hltA).trans k2⟩) (fun hHeld => ?_)
        clear hK K
        (try simp only [Act.put, List.setIfInBounds_toArray, List.set_cons_zero, List.set_cons_succ, List.getElem_toArray, List.getElem_cons_zero, List.getElem_cons_succ])
        refine wpAnyH_take (i := 16) (oi := _) (v := ?_) rfl (by kernel_rfl) (by kernel_rfl) (by kernel_rfl) (fun _ _ _ h => h) (Or.inl ⟨by rfl, ?_⟩) (by assumption) ?_
        rotate_left
        · intro w hSw
          try dsimp only at hSw
          go_simp
          try with_reducible rfl
        (try simp only [Act.put, List.setIfInBounds_toArray, List.set_cons_zero, List.set_cons_succ, List.getElem_toArray, List.getElem_cons_zero, List.getElem_cons_succ])
        refine wpAnyH_take (i := 17) (oi := _) (v := ?_) rfl (by kernel_rfl) (by kernel_rfl) (by kernel_rfl) (fun _ _ _ h => h) (Or.inl ⟨by rfl, ?_⟩) (by assumption) ?_
        rotate_left
        · intro w hSw
          try dsimp only at hSw
          go_simp
          try with_reducible rfl
        (try simp only [Act.put, List.setIfInBounds_toArray, List.set_cons_zero, List.set_cons_succ, List.getElem_toArray, List.getElem_cons_zero, List.getElem_cons_succ])
        refine wpAnyH_done (by kernel_rfl) ?_ _
        go_wp2_with fail
        go_meet
        case rel => exact ⟨rfl, hX.out⟩
      refine AllReadyH.cons (o := _) rfl (fun K hK => ?_) AllReadyH.nil
      go_simp
      have hs := Lib.hid ((Below.refl _ _).alloc (Nat.le_refl _) (.cells #[.int .u32 x.z] 34) : Below W0.heap.size W0 (W0.alloc (.cells #[.int .u32 x.z] 34)))
      have F3 : Hid (NumS .u32 (W0.alloc (.cells #[.int .u32 x.z] 34)) (.slice (some ⟨W0.heap.size, 0, none⟩) 1 1) [x.z]) := Lib.hid (nums_row (heap_alloc_new _ _) rfl (one_at _ _))
      have FL := Lib.hid (FL.out.below hs.out)
      have hX := Lib.hid (hX.out.trans (hs.out.mono hX.out.size))
      clear hs
      refine hK.out _ _ (⟨(hX.out.cell (p := ⟨w.heap.size, 0, none⟩) hltA).trans k0, (hX.out.cell (p := ⟨w.heap.size, 1, none⟩) hltA).trans k1, (hX.out.cell (p := ⟨w.heap.size, 2, none⟩) hltA).trans k2⟩) (fun hHeld => ?_)
      clear hK K
      (try simp only [Act.put, List.setIfInBounds_toArray, List.set_cons_zero, List.set_cons_succ, List.getElem_toArray, List.getElem_cons_zero, List.getElem_cons_succ])
      generalize W0.alloc (.cells #[.int .u32 x.z] 34) = W1 at *
      refine wpAnyH_ready (rs := [2, 6]) (by kernel_rfl) (by simp) ?_
      refine AllReadyH.cons (o := _) rfl (fun K hK => ?_) ?_
      · go_simp
        have hs := Lib.hid ((Below.refl _ _).alloc (Nat.le_refl _) (.cells #[.int .u8 x.k, .int .u8 0] 5) : Below W1.heap.size W1 (W1.alloc (.cells #[.int .u8 x.k, .int .u8 0] 5)))
        have F1 : Hid (NumS .u8 (W1.alloc (.cells #[.int .u8 x.k, .int .u8 0] 5)) (.slice (some ⟨W1.heap.size, 0, none⟩) 2 2) [x.k, 0]) := Lib.hid (nums_row (heap_alloc_new _ _) rfl (two_at _ _ _))
        have F3 := Lib.hid (F3.out.below hs.out)
        have FL := Lib.hid (FL.out.below hs.out)
        have hX := Lib.hid (hX.out.trans (hs.out.mono hX.out.size))
        clear hs
        refine hK.out _ _ (⟨(hX.out.cell (p := ⟨w.heap.size, 0, none⟩) hltA).trans k0, (hX.out.cell (p := ⟨w.heap.size, 1, none⟩) hltA).trans k1, (hX.out.cell (p := ⟨w.heap.size, 2, none⟩) hltA).trans k2⟩) (fun hHeld => ?_)
        clear hK K
        (try simp only [Act.put, List.setIfInBounds_toArray, List.set_cons_zero, List.set_cons_succ, List.getElem_toArray, List.getElem_cons_zero, List.getElem_cons_succ])
        generalize W1.alloc (.cells #[.int .u8 x.k, .int .u8 0] 5) = W2 at *
        refine wpAnyH_ready (rs := [3, 6]) (by kernel_rfl) (by simp) ?_
        refine AllReadyH.cons (o := _) rfl (fun K hK => ?_) ?_
        · go_simp
          with_reducible refine (H1.out _ _ F1.out).mono ?_
          rintro e W3 ⟨rfl, hs⟩
          have F3 := Lib.hid (F3.out.below hs)
          have FL := Lib.hid (FL.out.below hs)
          have hX := Lib.hid (hX.out.trans (hs.mono hX.out.size))
          clear hs
          refine hK.out _ _ (⟨(hX.out.cell (p := ⟨w.heap.size, 0, none⟩) hltA).trans k0, (hX.out.cell (p := ⟨w.heap.size, 1, none⟩) hltA).trans k1, (hX.out.cell (p := ⟨w.heap.size, 2, none⟩) hltA).trans k2⟩) (fun hHeld => ?_)
          clear hK K
          (try simp only [Act.put, List.setIfInBounds_toArray, List.set_cons_zero, List.set_cons_succ, List.getElem_toArray, List.getElem_cons_zero, List.getElem_cons_succ])
          refine wpAnyH_ready (rs := [6]) (by kernel_rfl) (by simp) ?_
          refine AllReadyH.cons (o := _) rfl (fun K hK => ?_) AllReadyH.nil
          go_simp
          have hs := Lib.hid ((Below.refl _ _).alloc (Nat.le_refl _) (.cells #[w16 x.n] 38) : Below W3.heap.size W3 (W3.alloc (.cells #[w16 x.n] 38)))
          have F2 : Hid (NumS .u16 (W3.alloc (.cells #[w16 x.n] 38)) (.slice (some ⟨W3.heap.size, 0, none⟩) 1 1) [x.n]) := Lib.hid (nums_row (heap_alloc_new _ _) rfl (one_at _ _))
          have F3 := Lib.hid (F3.out.below hs.out)
          have FL := Lib.hid (FL.out.below hs.out)
          have hX := Lib.hid (hX.out.trans (hs.out.mono hX.out.size))
          clear hs
          refine hK.out _ _ (⟨(hX.out.cell (p := ⟨w.heap.size, 0, none⟩) hltA).trans k0, (hX.out.cell (p := ⟨w.heap.size, 1, none⟩) hltA).trans k1, (hX.out.cell (p := ⟨w.heap.size, 2, none⟩) hltA).trans k2⟩) (fun hHeld => ?_)
          clear hK K
          (try simp only [Act.put, List.setIfInBounds_toArray, List.set_cons_zero, List.set_cons_succ, List.getElem_toArray, List.getElem_cons_zero, List.getElem_cons_succ])
          generalize W3.alloc (.cells #[w16 x.n] 38) = W4 at *
          refine wpAnyH_ready (rs := [7]) (by kernel_rfl) (by simp) ?_
          refine AllReadyH.cons (o := _) rfl (fun K hK => ?_) AllReadyH.nil
          go_simp
          with_reducible refine (H2.out _ _ F2.out).mono ?_
          rintro e W5 ⟨rfl, hs⟩
          have F3 := Lib.hid (F3.out.below hs)
          have FL := Lib.hid (FL.out.below hs)
          have hX := Lib.hid (hX.out.trans (hs.mono hX.out.size))
          clear hs
          refine hK.out _ _ (⟨(hX.out.cell (p := ⟨w.heap.size, 0, none⟩) hltA).trans k0, (hX.out.cell (p := ⟨w.heap.size, 1, none⟩) hltA).trans k1, (hX.out.cell (p := ⟨w.heap.size, 2, none⟩) hltA).trans k2⟩) (fun hHeld => ?_)
          clear hK K
          (try simp only [Act.put, List.setIfInBounds_toArray, List.set_cons_zero, List.set_cons_succ, List.getElem_toArray, List.getElem_cons_zero, List.getElem_cons_succ])
          refine wpAnyH_take (i := 8) (oi := _) (v := ?_) rfl (by kernel_rfl) (by kernel_rfl) (by kernel_rfl) (fun _ _ _ h => h) (Or.inl ⟨by rfl, ?_⟩) (by assumption) ?_
          rotate_left
          · intro w hSw
            try dsimp only at hSw
            go_simp
            try with_reducible rfl
          (try simp only [Act.put, List.setIfInBounds_toArray, List.set_cons_zero, List.set_cons_succ, List.getElem_toArray, List.getElem_cons_zero, List.getElem_cons_succ])
          refine wpAnyH_ready (rs := [12]) (by kernel_rfl) (by simp) ?_
          refine AllReadyH.cons (o := _) rfl (fun K hK => ?_) AllReadyH.nil
          go_simp
          with_reducible refine (H3.out _ _ F3.out).mono ?_
          rintro e W6 ⟨rfl, hs⟩
          have FL := Lib.hid (FL.out.below hs)
          have hX := Lib.hid (hX.out.trans (hs.mono hX.out.size))
          clear hs
          refine hK.out _ _ (⟨(hX.out.cell (p := ⟨w.heap.size, 0, none⟩) hltA).trans k0, (hX.out.cell (p := ⟨w.heap.size, 1, none⟩) hltA).trans k1, (hX.out.cell (p := ⟨w.heap.size, 2, none⟩) hltA).trans k2⟩) (fun hHeld => ?_)
          clear hK K
          (try simp only [Act.put, List.setIfInBounds_toArray, List.set_cons_zero, List.set_cons_succ, List.getElem_toArray, List.getElem_cons_zero, List.getElem_cons_succ])
          refine wpAnyH_take (i := 13) (oi := _) (v := ?_) rfl (by kernel_rfl) (by kernel_rfl) (by kernel_rfl) (fun _ _ _ h => h) (Or.inl ⟨by rfl, ?_⟩) (by assumption) ?_
          rotate_left
          · intro w hSw
            try dsimp only at hSw
            go_simp
            try with_reducible rfl
          (try simp only [Act.put, List.setIfInBounds_toArray, List.set_cons_zero, List.set_cons_succ, List.getElem_toArray, List.getElem_cons_zero, List.getElem_cons_succ])
          refine wpAnyH_ready (rs := [15]) (by kernel_rfl) (by simp) ?_
          refine AllReadyH.cons (o := _) rfl (fun K hK => ?_) AllReadyH.nil
          go_simp
          with_reducible refine (H4.out _ _ FL.out).mono ?_
          rintro e W7 ⟨rfl, hs⟩
          have hX := Lib.hid (hX.out.trans (hs.mono hX.out.size))
          clear hs
          refine hK.out _ _ (⟨(hX.out.cell (p := ⟨w.heap.size, 0, none⟩) hltA).trans k0, (hX.out.cell (p := ⟨w.heap.size, 1, none⟩) hltA).trans k1, (hX.out.cell (p := ⟨w.heap.size, 2, none⟩) hltA).trans k2⟩) (fun hHeld => ?_)
          clear hK K
          (try simp only [Act.put, List.setIfInBounds_toArray, List.set_cons_zero, List.set_cons_succ, List.getElem_toArray, List.getElem_cons_zero, List.getElem_cons_succ])
          refine wpAnyH_take (i := 16) (oi := _) (v := ?_) rfl (by kernel_rfl) (by kernel_rfl) (by kernel_rfl) (fun _ _ _ h => h) (Or.inl ⟨by rfl, ?_⟩) (by assumption) ?_
          rotate_left
          · intro w hSw
            try dsimp only at hSw
            go_simp
            try with_reducible rfl
          (try simp only [Act.put, List.setIfInBounds_toArray, List.set_cons_zero, List.set_cons_succ, List.getElem_toArray, List.getElem_cons_zero, List.getElem_cons_succ])
          refine wpAnyH_take (i := 17) (oi := _) (v := ?_) rfl (by kernel_rfl) (by kernel_rfl) (by kernel_rfl) (fun _ _ _ h => h) (Or.inl ⟨by rfl, ?_⟩) (by assumption) ?_
          rotate_left
          · intro w hSw
            try dsimp only at hSw
            go_simp
            try with_reducible rfl
          (try simp only [Act.put, List.setIfInBounds_toArray, List.set_cons_zero, List.set_cons_succ, List.getElem_toArray, List.getElem_cons_zero, List.getElem_cons_succ])
          refine wpAnyH_done (by kernel_rfl) ?_ _
          go_wp2_with fail
          go_meet
          case rel => exact ⟨rfl, hX.out⟩
        refine AllReadyH.cons (o := _) rfl (fun K hK => ?_) AllReadyH.nil
        go_simp
        have hs := Lib.hid ((Below.refl _ _).alloc (Nat.le_refl _) (.cells #[w16 x.n] 38) : Below W2.heap.size W2 (W2.alloc (.cells #[w16 x.n] 38)))
        have F2 : Hid (NumS .u16 (W2.alloc (.cells #[w16 x.n] 38)) (.slice (some ⟨W2.heap.size, 0, none⟩) 1 1) [x.n]) := Lib.hid (nums_row (heap_alloc_new _ _) rfl (one_at _ _))
        have F1 := Lib.hid (F1.out.below hs.out)
        have F3 := Lib.hid (F3.out.below hs.out)
        have FL := Lib.hid (FL.out.below hs.out)
        have hX := Lib.hid (hX.out.trans (hs.out.mono hX.out.size))
        clear hs
        refine hK.out _ _ (⟨(hX.out.cell (p := ⟨w.heap.size, 0, none⟩) hltA).trans k0, (hX.out.cell (p := ⟨w.heap.size, 1, none⟩) hltA).trans k1, (hX.out.cell (p := ⟨w.heap.size, 2, none⟩) hltA).trans k2⟩) (fun hHeld => ?_)
        clear hK K
        (try simp only [Act.put, List.setIfInBounds_toArray, List.set_cons_zero, List.set_cons_succ, List.getElem_toArray, List.getElem_cons_zero, List.getElem_cons_succ])
        generalize W2.alloc (.cells #[w16 x.n] 38) = W3 at *
        refine wpAnyH_ready (rs := [3]) (by kernel_rfl) (by simp) ?_
        refine AllReadyH.cons (o := _) rfl (fun K hK => ?_) AllReadyH.nil
        go_simp
        with_reducible refine (H1.out _ _ F1.out).mono ?_
        rintro e W4 ⟨rfl, hs⟩
        have F2 := Lib.hid (F2.out.below hs)
        have F3 := Lib.hid (F3.out.below hs)
        have FL := Lib.hid (FL.out.below hs)
        have hX := Lib.hid (hX.out.trans (hs.mono hX.out.size))
        clear hs
        refine hK.out _ _ (⟨(hX.out.cell (p := ⟨w.heap.size, 0, none⟩) hltA).trans k0, (hX.out.cell (p := ⟨w.heap.size, 1, none⟩) hltA).trans k1, (hX.out.cell (p := ⟨w.heap.size, 2, none⟩) hltA).trans k2⟩) (fun hHeld => ?_)
        clear hK K
        (try simp only [Act.put, List.setIfInBounds_toArray, List.set_cons_zero, List.set_cons_succ, List.getElem_toArray, List.getElem_cons_zero, List.getElem_cons_succ])
        refine wpAnyH_ready (rs := [7]) (by kernel_rfl) (by simp) ?_
        refine AllReadyH.cons (o := _) rfl (fun K hK => ?_) AllReadyH.nil
        go_simp
        with_reducible refine (H2.out _ _ F2.out).mono ?_
        rintro e W5 ⟨rfl, hs⟩
        have F3 := Lib.hid (F3.out.below hs)
        have FL := Lib.hid (FL.out.below hs)
        have hX := Lib.hid (hX.out.trans (hs.mono hX.out.size))
        clear hs
        refine hK.out _ _ (⟨(hX.out.cell (p := ⟨w.heap.size, 0, none⟩) hltA).trans k0, (hX.out.cell (p := ⟨w.heap.size, 1, none⟩) hltA).trans k1, (hX.out.cell (p := ⟨w.heap.size, 2, none⟩) hltA).trans k2⟩) (fun hHeld => ?_)
        clear hK K
        (try simp only [Act.put, List.setIfInBounds_toArray, List.set_cons_zero, List.set_cons_succ, List.getElem_toArray, List.getElem_cons_zero, List.getElem_cons_succ])
        refine wpAnyH_take (i := 8) (oi := _) (v := ?_) rfl (by kernel_rfl) (by kernel_rfl) (by kernel_rfl) (fun _ _ _ h => h) (Or.inl ⟨by rfl, ?_⟩) (by assumption) ?_
        rotate_left
        · intro w hSw
          try dsimp only at hSw
          go_simp
          try with_reducible rfl
        (try simp only [Act.put, List.setIfInBounds_toArray, List.set_cons_zero, List.set_cons_succ, List.getElem_toArray, List.getElem_cons_zero, List.getElem_cons_succ])
        refine wpAnyH_ready (rs := [12]) (by kernel_rfl) (by simp) ?_
        refine AllReadyH.cons (o := _) rfl (fun K hK => ?_) AllReadyH.nil
        go_simp
        with_reducible refine (H3.out _ _ F3.out).mono ?_
        rintro e W6 ⟨rfl, hs⟩
        have FL := Lib.hid (FL.out.below hs)
        have hX := Lib.hid (hX.out.trans (hs.mono hX.out.size))
        clear hs
        refine hK.out _ _ (⟨(hX.out.cell (p := ⟨w.heap.size, 0, none⟩) hltA).trans k0, (hX.out.cell (p := ⟨w.heap.size, 1, none⟩) hltA).trans k1, (hX.out.cell (p := ⟨w.heap.size, 2, none⟩) hltA).trans k2⟩) (fun hHeld => ?_)
        clear hK K
        (try simp only [Act.put, List.setIfInBounds_toArray, List.set_cons_zero, List.set_cons_succ, List.getElem_toArray, List.getElem_cons_zero, List.getElem_cons_succ])
        refine wpAnyH_take (i := 13) (oi := _) (v := ?_) rfl (by kernel_rfl) (by kernel_rfl) (by kernel_rfl) (fun _ _ _ h => h) (Or.inl ⟨by rfl, ?_⟩) (by assumption) ?_
        rotate_left
        · intro w hSw
          try dsimp only at hSw
          go_simp
          try with_reducible rfl
        (try simp only [Act.put, List.setIfInBounds_toArray, List.set_cons_zero, List.set_cons_succ, List.getElem_toArray, List.getElem_cons_zero, List.getElem_cons_succ])
        refine wpAnyH_ready (rs := [15]) (by kernel_rfl) (by simp) ?_
        refine AllReadyH.cons (o := _) rfl (fun K hK => ?_) AllReadyH.nil
        go_simp
        with_reducible refine (H4.out _ _ FL.out).mono ?_
        rintro e W7 ⟨rfl, hs⟩
        have hX := Lib.hid (hX.out.trans (hs.mono hX.out.size))
        clear hs
        refine hK.out _ _ (⟨(hX.out.cell (p := ⟨w.heap.size, 0, none⟩) hltA).trans k0, (hX.out.cell (p := ⟨w.heap.size, 1, none⟩) hltA).trans k1, (hX.out.cell (p := ⟨w.heap.size, 2, none⟩) hltA).trans k2⟩) (fun hHeld => ?_)
        clear hK K
        (try simp only [Act.put, List.setIfInBounds_toArray, List.set_cons_zero, List.set_cons_succ, List.getElem_toArray, List.getElem_cons_zero, List.getElem_cons_succ])
        refine wpAnyH_take (i := 16) (oi := _) (v := ?_) rfl (by kernel_rfl) (by kernel_rfl) (by kernel_rfl) (fun _ _ _ h => h) (Or.inl ⟨by rfl, ?_⟩) (by assumption) ?_
        rotate_left
        · intro w hSw
          try dsimp only at hSw
          go_simp
          try with_reducible rfl
        (try simp only [Act.put, List.setIfInBounds_toArray, List.set_cons_zero, List.set_cons_succ, List.getElem_toArray, List.getElem_cons_zero, List.getElem_cons_succ])
        refine wpAnyH_take (i := 17) (oi := _) (v := ?_) rfl (by kernel_rfl) (by kernel_rfl) (by kernel_rfl) (fun _ _ _ h => h) (Or.inl ⟨by rfl, ?_⟩) (by assumption) ?_
        rotate_left
        · intro w hSw
          try dsimp only at hSw
          go_simp
          try with_reducible rfl
        (try simp only [Act.put, List.setIfInBounds_toArray, List.set_cons_zero, List.set_cons_succ, List.getElem_toArray, List.getElem_cons_zero, List.getElem_cons_succ])
        refine wpAnyH_done (by kernel_rfl) ?_ _
        go_wp2_with fail
        go_meet
        case rel => exact ⟨rfl, hX.out⟩
      refine AllReadyH.cons (o := _) rfl (fun K hK => ?_) AllReadyH.nil
      go_simp
      have hs := Lib.hid ((Below.refl _ _).alloc (Nat.le_refl _) (.cells #[w16 x.n] 38) : Below W1.heap.size W1 (W1.alloc (.cells #[w16 x.n] 38)))
      have F2 : Hid (NumS .u16 (W1.alloc (.cells #[w16 x.n] 38)) (.slice (some ⟨W1.heap.size, 0, none⟩) 1 1) [x.n]) := Lib.hid (nums_row (heap_alloc_new _ _) rfl (one_at _ _))
      have F3 := Lib.hid (F3.out.below hs.out)
      have FL := Lib.hid (FL.out.below hs.out)
      have hX := Lib.hid (hX.out.trans (hs.out.mono hX.out.size))
      clear hs
      refine hK.out _ _ (⟨(hX.out.cell (p := ⟨w.heap.size, 0, none⟩) hltA).trans k0, (hX.out.cell (p := ⟨w.heap.size, 1, none⟩) hltA).trans k1, (hX.out.cell (p := ⟨w.heap.size, 2, none⟩) hltA).trans k2⟩) (fun hHeld => ?_)
      clear hK K
      (try simp only [Act.put, List.setIfInBounds_toArray, List.set_cons_zero, List.set_cons_succ, List.getElem_toArray, List.getElem_cons_zero, List.getElem_cons_succ])
      generalize W1.alloc (.cells #[w16 x.n] 38) = W2 at *
      refine wpAnyH_ready (rs := [2]) (by kernel_rfl) (by simp) ?_
      refine AllReadyH.cons (o := _) rfl (fun K hK => ?_) AllReadyH.nil
      go_simp
      have hs := Lib.hid ((Below.refl _ _).alloc (Nat.le_refl _) (.cells #[.int .u8 x.k, .int .u8 0] 5) : Below W2.heap.size W2 (W2.alloc (.cells #[.int .u8 x.k, .int .u8 0] 5)))
      have F1 : Hid (NumS .u8 (W2.alloc (.cells #[.int .u8 x.k, .int .u8 0] 5)) (.slice (some ⟨W2.heap.size, 0, none⟩) 2 2) [x.k, 0]) := Lib.hid (nums_row (heap_alloc_new _ _) rfl (two_at _ _ _))
      have F2 := Lib.hid (F2.out.below hs.out)
      have F3 := Lib.hid (F3.out.below hs.out)
      have FL := Lib.hid (FL.out.below hs.out)
      have hX := Lib.hid (hX.out.trans (hs.out.mono hX.out.size))
      clear hs
      refine hK.out _ _ (⟨(hX.out.cell (p := ⟨w.heap.size, 0, none⟩) hltA).trans k0, (hX.out.cell (p := ⟨w.heap.size, 1, none⟩) hltA).trans k1, (hX.out.cell (p := ⟨w.heap.size, 2, none⟩) hltA).trans k2⟩) (fun hHeld => ?_)
      clear hK K
      (try simp only [Act.put, List.setIfInBounds_toArray, List.set_cons_zero, List.set_cons_succ, List.getElem_toArray, List.getElem_cons_zero, List.getElem_cons_succ])
      generalize W2.alloc (.cells #[.int .u8 x.k, .int .u8 0] 5) = W3 at *
      refine wpAnyH_ready (rs := [3]) (by kernel_rfl) (by simp) ?_
      refine AllReadyH.cons (o := _) rfl (fun K hK => ?_) AllReadyH.nil
      go_simp
      with_reducible refine (H1.out _ _ F1.out).mono ?_
      rintro e W4 ⟨rfl, hs⟩
      have F2 := Lib.hid (F2.out.below hs)
      have F3 := Lib.hid (F3.out.below hs)
      have FL := Lib.hid (FL.out.below hs)
      have hX := Lib.hid (hX.out.trans (hs.mono hX.out.size))
      clear hs
      refine hK.out _ _ (⟨(hX.out.cell (p := ⟨w.heap.size, 0, none⟩) hltA).trans k0, (hX.out.cell (p := ⟨w.heap.size, 1, none⟩) hltA).trans k1, (hX.out.cell (p := ⟨w.heap.size, 2, none⟩) hltA).trans k2⟩) (fun hHeld => ?_)
      clear hK K
      (try simp only [Act.put, List.setIfInBounds_toArray, List.set_cons_zero, List.set_cons_succ, List.getElem_toArray, List.getElem_cons_zero, List.getElem_cons_succ])
      refine wpAnyH_ready (rs := [7]) (by kernel_rfl) (by simp) ?_
      refine AllReadyH.cons (o := _) rfl (fun K hK => ?_) AllReadyH.nil
      go_simp
      with_reducible refine (H2.out _ _ F2.out).mono ?_
      rintro e W5 ⟨rfl, hs⟩
      have F3 := Lib.hid (F3.out.below hs)
      have FL := Lib.hid (FL.out.below hs)
      have hX := Lib.hid (hX.out.trans (hs.mono hX.out.size))
      clear hs
      refine hK.out _ _ (⟨(hX.out.cell (p := ⟨w.heap.size, 0, none⟩) hltA).trans k0, (hX.out.cell (p := ⟨w.heap.size, 1, none⟩) hltA).trans k1, (hX.out.cell (p := ⟨w.heap.size, 2, none⟩) hltA).trans k2⟩) (fun hHeld => ?_)
      clear hK K
      (try simp only [Act.put, List.setIfInBounds_toArray, List.set_cons_zero, List.set_cons_succ, List.getElem_toArray, List.getElem_cons_zero, List.getElem_cons_succ])
      refine wpAnyH_take (i := 8) (oi := _) (v := ?_) rfl (by kernel_rfl) (by kernel_rfl) (by kernel_rfl) (fun _ _ _ h => h) (Or.inl ⟨by rfl, ?_⟩) (by assumption) ?_
      rotate_left
      · intro w hSw
        try dsimp only at hSw
        go_simp
        try with_reducible rfl
      (try simp only [Act.put, List.setIfInBounds_toArray, List.set_cons_zero, List.set_cons_succ, List.getElem_toArray, List.getElem_cons_zero, List.getElem_cons_succ])
      refine wpAnyH_ready (rs := [12]) (by kernel_rfl) (by simp) ?_
      refine AllReadyH.cons (o := _) rfl (fun K hK => ?_) AllReadyH.nil
      go_simp
      with_reducible refine (H3.out _ _ F3.out).mono ?_
      rintro e W6 ⟨rfl, hs⟩
      have FL := Lib.hid (FL.out.below hs)
      have hX := Lib.hid (hX.out.trans (hs.mono hX.out.size))
      clear hs
      refine hK.out _ _ (⟨(hX.out.cell (p := ⟨w.heap.size, 0, none⟩) hltA).trans k0, (hX.out.cell (p := ⟨w.heap.size, 1, none⟩) hltA).trans k1, (hX.out.cell (p := ⟨w.heap.size, 2, none⟩) hltA).trans k2⟩) (fun hHeld => ?_)
      clear hK K
      (try simp only [Act.put, List.setIfInBounds_toArray, List.set_cons_zero, List.set_cons_succ, List.getElem_toArray, List.getElem_cons_zero, List.getElem_cons_succ])
      refine wpAnyH_take (i := 13) (oi := _) (v := ?_) rfl (by kernel_rfl) (by kernel_rfl) (by kernel_rfl) (fun _ _ _ h => h) (Or.inl ⟨by rfl, ?_⟩) (by assumption) ?_
      rotate_left
      · intro w hSw
        try dsimp only at hSw
        go_simp
        try with_reducible rfl
      (try simp only [Act.put, List.setIfInBounds_toArray, List.set_cons_zero, List.set_cons_succ, List.getElem_toArray, List.getElem_cons_zero, List.getElem_cons_succ])
      refine wpAnyH_ready (rs := [15]) (by kernel_rfl) (by simp) ?_
      refine AllReadyH.cons (o := _) rfl (fun K hK => ?_) AllReadyH.nil
      go_simp
      with_reducible refine (H4.out _ _ FL.out).mono ?_
      rintro e W7 ⟨rfl, hs⟩
      have hX := Lib.hid (hX.out.trans (hs.mono hX.out.size))
      clear hs
      refine hK.out _ _ (⟨(hX.out.cell (p := ⟨w.heap.size, 0, none⟩) hltA).trans k0, (hX.out.cell (p := ⟨w.heap.size, 1, none⟩) hltA).trans k1, (hX.out.cell (p := ⟨w.heap.size, 2, none⟩) hltA).trans k2⟩) (fun hHeld => ?_)
      clear hK K
      (try simp only [Act.put, List.setIfInBounds_toArray, List.set_cons_zero, List.set_cons_succ, List.getElem_toArray, List.getElem_cons_zero, List.getElem_cons_succ])
      refine wpAnyH_take (i := 16) (oi := _) (v := ?_) rfl (by kernel_rfl) (by kernel_rfl) (by kernel_rfl) (fun _ _ _ h => h) (Or.inl ⟨by rfl, ?_⟩) (by assumption) ?_
      rotate_left
      · intro w hSw
        try dsimp only at hSw
        go_simp
        try with_reducible rfl
      (try simp only [Act.put, List.setIfInBounds_toArray, List.set_cons_zero, List.set_cons_succ, List.getElem_toArray, List.getElem_cons_zero, List.getElem_cons_succ])
      refine wpAnyH_take (i := 17) (oi := _) (v := ?_) rfl (by kernel_rfl) (by kernel_rfl) (by kernel_rfl) (fun _ _ _ h => h) (Or.inl ⟨by rfl, ?_⟩) (by assumption) ?_
      rotate_left
      · intro w hSw
        try dsimp only at hSw
        go_simp
        try with_reducible rfl
      (try simp only [Act.put, List.setIfInBounds_toArray, List.set_cons_zero, List.set_cons_succ, List.getElem_toArray, List.getElem_cons_zero, List.getElem_cons_succ])
      refine wpAnyH_done (by kernel_rfl) ?_ _
      go_wp2_with fail
      go_meet
      case rel => exact ⟨rfl, hX.out⟩
  case rest =>
    as_aux_lemma =>
      obtain ⟨rfl, hX⟩ := hcut
      have hX := Lib.hid hX
      clear k0 k1 k2
      go_wp2_with fail
      with_reducible refine (HP.out _).mono ?_
      rintro e wz ⟨rfl, hbz⟩
      go_wp2
      go_ret2
      exact ⟨rfl, (hB3.out.trans (hX.out.mono hB3.out.size)).trans (hbz.mono (Nat.le_trans hB3.out.size hX.out.size))⟩
end Go.Proofs.YtnfiapjdkjbdhaaGreat
