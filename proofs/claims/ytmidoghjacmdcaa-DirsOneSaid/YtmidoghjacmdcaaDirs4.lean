/- Layer 10 (dirs), the document's own answers: a slot's bytes. -/
import Derived.Test.YtmidoghjacmdcaaDirs3
import Derived.Deep.RegionHeld3
namespace Go.Proofs.Ytmidoghjacmdcaa
open Go.RowKit Go.Lib
set_option linter.unusedVariables false
set_option linter.unusedSimpArgs false
set_option maxRecDepth 10000
/-- 'string([]byte{x})', wherever the byte lies. -/
theorem conv_at {P : Program} (src dst e : TypeId) (hs : P.underlying src = some (.slice e)) (he : P.underlying e = some (.int .u8)) (hd : P.underlying dst = some .string) (W : World) (n : Nat) (hn : n < 256) (g : Nat) (hg : W.heap[g]? = some (.cells #[.int .u8 (n : Int)] e (0, 0))) :
    (convert src dst (.slice (some ⟨g, 0, none⟩) 1 1)).run P W = .ok (str [UInt8.ofNat n]) W := by
  have hb : (byteCells [UInt8.ofNat n]) = #[.int .u8 (n : Int)] := by
    simp only [byteCells, List.map_cons, List.map_nil]
    rw [UInt8.toNat_ofNat', Nat.mod_eq_of_lt (by omega)]
  exact conv_blk src dst e hs he hd W g 1 [UInt8.ofNat n] (by rw [hb]; exact hg)
theorem two_kept {W0 W W' : World} {g : Nat} {a b : Value} (h : W.cell? ⟨g, 0, none⟩ = some a ∧ W.cell? ⟨g, 1, none⟩ = some b ∧ Below W0.heap.size W0 W) (hb : Below W.heap.size W W') : W'.cell? ⟨g, 0, none⟩ = some a ∧ W'.cell? ⟨g, 1, none⟩ = some b ∧ Below W0.heap.size W0 W' :=
  have hg : g < W.heap.size := World.block_lt_of_cell? W _ h.1
  ⟨(hb.cell (p := ⟨g, 0, none⟩) hg).trans h.1, (hb.cell (p := ⟨g, 1, none⟩) hg).trans h.2.1, h.2.2.trans (hb.mono h.2.2.size)⟩
set_option maxRecDepth 100000 in
set_option maxHeartbeats 2000000 in
theorem refSlot_any (x : En) (w : World) (hi : x.i < 4294967296) (hn : x.n.length ≤ 27) :
    Calls Try.prog 19 #[x.v] w fun e w' => e = .returned (str (slotL x)) ∧ Below w.heap.size w w' := by
  obtain ⟨n, i⟩ := x
  simp only at hi hn
  have h1 : ∀ W, Calls Try.prog 39 #[.int .u64 (i : Int), .int .i64 4] W fun e w' => e = .returned (str (leB 4 i)) ∧ Below W.heap.size W w' := fun W => refBytes_any i 4 W (by omega) (by omega)
  have H1 := Lib.hid h1
  clear h1
  have hl4 : (leB 4 i).length = 4 := leB_length _ _
  have H3 := Lib.hid fun W => refPad_ok (leB 4 i ++ (UInt8.ofNat n.length :: n)) (27 - n.length) 32 W (by simp [hl4]; omega) (by simp [hl4]; omega)
  have HE := Lib.hid (show slotL ⟨n, i⟩ = leB 4 i ++ (UInt8.ofNat n.length :: n) ++ List.replicate (27 - n.length) 0 from rfl)
  have e1 : IntKind.u64.wrap (i : Int) = (i : Int) := u64_wrap _ (by omega) (by omega)
  have e2 : IntKind.u8.wrap (n.length : Int) = (n.length : Int) := u8_wrap _ (by omega) (by omega)
  have hcv : ∀ (W : World) (g : Nat), g = W.heap.size → (convert 65 9 (.slice (some ⟨g, 0, none⟩) 1 1)).run Try.prog (W.alloc (.cells #[.int .u8 (n.length : Int)] 5)).drew = .ok (str [UInt8.ofNat n.length]) (W.alloc (.cells #[.int .u8 (n.length : Int)] 5)).drew :=
    fun W g hg => conv_at (P := Try.prog) 65 9 5 Try.underlying65 Try.underlying5 Try.underlying9 _ n.length (by omega) g (hg ▸ heap_alloc_new _ _)
  have hcw : ∀ (W : World) (g : Nat), g = W.heap.size → (convert 65 9 (.slice (some ⟨g, 0, none⟩) 1 1)).run Try.prog (W.alloc (.cells #[.int .u8 (n.length : Int)] 5)) = .ok (str [UInt8.ofNat n.length]) (W.alloc (.cells #[.int .u8 (n.length : Int)] 5)) :=
    fun W g hg => conv_at (P := Try.prog) 65 9 5 Try.underlying65 Try.underlying5 Try.underlying9 _ n.length (by omega) g (hg ▸ heap_alloc_new _ _)
  have q5 : ¬ 9223372036854775807 < 5 + n.length := by omega
  go_enter Try.func19, Try.ntmps19
  go_wp2_with fail
  have hsz : w.heap.size < (w.alloc (.cells #[str n, .int .u32 (i : Int)] 34)).heap.size := by simp
  refine wp_region_noPanic ?_
  refine wp_region_held_drew (S := (fun W => W.cell? ⟨w.heap.size, 0, none⟩ = some (str n) ∧ W.cell? ⟨w.heap.size, 1, none⟩ = some (.int .u32 (i : Int)) ∧ Below w.heap.size w W)) (by kernel_rfl) (by first | exact ⟨(two_cells _ _ _ _).1, (two_cells _ _ _ _).2, ((Below.refl _ _).alloc (Nat.le_refl _) _).drew⟩ | exact two_kept (by assumption) hb4 | exact two_kept (by assumption) ((Below.refl _ _).alloc (Nat.le_refl _) _).drew | exact two_kept (by assumption) ((Below.refl _ _).alloc (Nat.le_refl _) _) | assumption) (fun hHeld => ?_)
  refine wpAnyH_take (i := 0) (oi := _) (v := ?_) rfl (by kernel_rfl) (by kernel_rfl) (by kernel_rfl) (fun _ _ _ h => h) (Or.inl ⟨by rfl, ?_⟩) (by assumption) ?_
  rotate_left
  · intro w hSw
    try dsimp only at hSw
    go_simp
    try with_reducible rfl
  (try simp only [Act.put, List.setIfInBounds_toArray, List.set_cons_zero, List.set_cons_succ, List.getElem_toArray, List.getElem_cons_zero, List.getElem_cons_succ])
  refine wpAnyH_take (i := 1) (oi := _) (v := ?_) rfl (by kernel_rfl) (by kernel_rfl) (by kernel_rfl) (fun _ _ _ h => h) (Or.inl ⟨by rfl, ?_⟩) (by assumption) ?_
  rotate_left
  · intro w hSw
    try dsimp only at hSw
    go_simp
    try with_reducible rfl
  (try simp only [Act.put, List.setIfInBounds_toArray, List.set_cons_zero, List.set_cons_succ, List.getElem_toArray, List.getElem_cons_zero, List.getElem_cons_succ])
  refine wpAnyH_take (i := 2) (oi := _) (v := ?_) rfl (by kernel_rfl) (by kernel_rfl) (by kernel_rfl) (fun _ _ _ h => h) (Or.inl ⟨by rfl, ?_⟩) (by assumption) ?_
  rotate_left
  · intro w hSw
    try dsimp only at hSw
    go_simp
    try with_reducible rfl
  (try simp only [Act.put, List.setIfInBounds_toArray, List.set_cons_zero, List.set_cons_succ, List.getElem_toArray, List.getElem_cons_zero, List.getElem_cons_succ])
  refine wpAnyH_take (i := 4) (oi := _) (v := ?_) rfl (by kernel_rfl) (by kernel_rfl) (by kernel_rfl) (fun _ _ _ h => h) (Or.inl ⟨by rfl, ?_⟩) (by assumption) ?_
  rotate_left
  · intro w hSw
    try dsimp only at hSw
    go_simp
    try with_reducible rfl
  (try simp only [Act.put, List.setIfInBounds_toArray, List.set_cons_zero, List.set_cons_succ, List.getElem_toArray, List.getElem_cons_zero, List.getElem_cons_succ])
  refine wpAnyH_take (i := 5) (oi := _) (v := ?_) rfl (by kernel_rfl) (by kernel_rfl) (by kernel_rfl) (fun _ _ _ h => h) (Or.inl ⟨by rfl, ?_⟩) (by assumption) ?_
  rotate_left
  · intro w hSw
    try dsimp only at hSw
    go_simp
    try with_reducible rfl
  (try simp only [Act.put, List.setIfInBounds_toArray, List.set_cons_zero, List.set_cons_succ, List.getElem_toArray, List.getElem_cons_zero, List.getElem_cons_succ])
  refine wpAnyH_take (i := 6) (oi := _) (v := ?_) rfl (by kernel_rfl) (by kernel_rfl) (by kernel_rfl) (fun _ _ _ h => h) (Or.inl ⟨by rfl, ?_⟩) (by assumption) ?_
  rotate_left
  · intro w hSw
    try dsimp only at hSw
    go_simp
    try with_reducible rfl
  (try simp only [Act.put, List.setIfInBounds_toArray, List.set_cons_zero, List.set_cons_succ, List.getElem_toArray, List.getElem_cons_zero, List.getElem_cons_succ])
  refine wpAnyH_take (i := 7) (oi := _) (v := ?_) rfl (by kernel_rfl) (by kernel_rfl) (by kernel_rfl) (fun _ _ _ h => h) (Or.inl ⟨by rfl, ?_⟩) (by assumption) ?_
  rotate_left
  · intro w hSw
    try dsimp only at hSw
    go_simp
    try with_reducible rfl
  (try simp only [Act.put, List.setIfInBounds_toArray, List.set_cons_zero, List.set_cons_succ, List.getElem_toArray, List.getElem_cons_zero, List.getElem_cons_succ])
  refine wpAnyH_take (i := 11) (oi := _) (v := ?_) rfl (by kernel_rfl) (by kernel_rfl) (by kernel_rfl) (fun _ _ _ h => h) (Or.inl ⟨by rfl, ?_⟩) (by assumption) ?_
  rotate_left
  · intro w hSw
    try dsimp only at hSw
    go_simp
    try with_reducible rfl
  (try simp only [Act.put, List.setIfInBounds_toArray, List.set_cons_zero, List.set_cons_succ, List.getElem_toArray, List.getElem_cons_zero, List.getElem_cons_succ])
  refine wpAnyH_take (i := 12) (oi := _) (v := ?_) rfl (by kernel_rfl) (by kernel_rfl) (by kernel_rfl) (fun _ _ _ h => h) (Or.inl ⟨by rfl, ?_⟩) (by assumption) ?_
  rotate_left
  · intro w hSw
    try dsimp only at hSw
    go_simp
    try with_reducible rfl
  (try simp only [Act.put, List.setIfInBounds_toArray, List.set_cons_zero, List.set_cons_succ, List.getElem_toArray, List.getElem_cons_zero, List.getElem_cons_succ])
  refine wpAnyH_ready (rs := [3, 8]) (by kernel_rfl) (by simp) ?_
  refine AllReadyH.cons (o := _) rfl (fun K hK => ?_) ?_
  · go_simp
    with_reducible refine (H1.out _).mono ?_
    rintro e w4 ⟨rfl, hb4⟩
    refine hK.out _ _ (by first | exact ⟨(two_cells _ _ _ _).1, (two_cells _ _ _ _).2, ((Below.refl _ _).alloc (Nat.le_refl _) _).drew⟩ | exact two_kept (by assumption) hb4 | exact two_kept (by assumption) ((Below.refl _ _).alloc (Nat.le_refl _) _).drew | exact two_kept (by assumption) ((Below.refl _ _).alloc (Nat.le_refl _) _) | assumption) (fun hHeld => ?_)
    clear hK K
    (try simp only [Act.put, List.setIfInBounds_toArray, List.set_cons_zero, List.set_cons_succ, List.getElem_toArray, List.getElem_cons_zero, List.getElem_cons_succ])
    refine wpAnyH_ready (rs := [8]) (by kernel_rfl) (by simp) ?_
    refine AllReadyH.cons (o := _) rfl (fun K hK => ?_) AllReadyH.nil
    go_simp
    refine hK.out _ _ (by first | exact ⟨(two_cells _ _ _ _).1, (two_cells _ _ _ _).2, ((Below.refl _ _).alloc (Nat.le_refl _) _).drew⟩ | exact two_kept (by assumption) hb4 | exact two_kept (by assumption) ((Below.refl _ _).alloc (Nat.le_refl _) _).drew | exact two_kept (by assumption) ((Below.refl _ _).alloc (Nat.le_refl _) _) | assumption) (fun hHeld => ?_)
    clear hK K
    (try simp only [Act.put, List.setIfInBounds_toArray, List.set_cons_zero, List.set_cons_succ, List.getElem_toArray, List.getElem_cons_zero, List.getElem_cons_succ])
    refine wpAnyH_ready (rs := [9]) (by kernel_rfl) (by simp) ?_
    refine AllReadyH.cons (o := _) rfl (fun K hK => ?_) AllReadyH.nil
    go_simp
    refine hK.out _ _ (by first | exact ⟨(two_cells _ _ _ _).1, (two_cells _ _ _ _).2, ((Below.refl _ _).alloc (Nat.le_refl _) _).drew⟩ | exact two_kept (by assumption) hb4 | exact two_kept (by assumption) ((Below.refl _ _).alloc (Nat.le_refl _) _).drew | exact two_kept (by assumption) ((Below.refl _ _).alloc (Nat.le_refl _) _) | assumption) (fun hHeld => ?_)
    clear hK K
    (try simp only [Act.put, List.setIfInBounds_toArray, List.set_cons_zero, List.set_cons_succ, List.getElem_toArray, List.getElem_cons_zero, List.getElem_cons_succ])
    refine wpAnyH_take (i := 10) (oi := _) (v := ?_) rfl (by kernel_rfl) (by kernel_rfl) (by kernel_rfl) (fun _ _ _ h => h) (Or.inl ⟨by rfl, ?_⟩) (by assumption) ?_
    rotate_left
    · intro w hSw
      try dsimp only at hSw
      go_simp
      try with_reducible rfl
    (try simp only [Act.put, List.setIfInBounds_toArray, List.set_cons_zero, List.set_cons_succ, List.getElem_toArray, List.getElem_cons_zero, List.getElem_cons_succ])
    refine wpAnyH_take (i := 13) (oi := _) (v := ?_) rfl (by kernel_rfl) (by kernel_rfl) (by kernel_rfl) (fun _ _ _ h => h) (Or.inl ⟨by rfl, ?_⟩) (by assumption) ?_
    rotate_left
    · intro w hSw
      try dsimp only at hSw
      go_simp
      try with_reducible rfl
    (try simp only [Act.put, List.setIfInBounds_toArray, List.set_cons_zero, List.set_cons_succ, List.getElem_toArray, List.getElem_cons_zero, List.getElem_cons_succ])
    refine wpAnyH_take (i := 14) (oi := _) (v := ?_) rfl (by kernel_rfl) (by kernel_rfl) (by kernel_rfl) (fun _ _ _ h => h) (Or.inl ⟨by rfl, ?_⟩) (by assumption) ?_
    rotate_left
    · intro w hSw
      try dsimp only at hSw
      go_simp
      try with_reducible rfl
    (try simp only [Act.put, List.setIfInBounds_toArray, List.set_cons_zero, List.set_cons_succ, List.getElem_toArray, List.getElem_cons_zero, List.getElem_cons_succ])
    refine wpAnyH_done (by kernel_rfl) ?_ _
    refine NoPanic.normal ?_
    go_wp2_with fail
    with_reducible refine (H3.out _).mono ?_
    rintro e w5 ⟨rfl, hb5⟩
    go_wp2_with fail
    go_ret
    exact ⟨by rw [HE.out]; rfl, (show Below w.heap.size w _ from hHeld.2.2).trans (hb5.mono (show Below w.heap.size w _ from hHeld.2.2).size)⟩
  refine AllReadyH.cons (o := _) rfl (fun K hK => ?_) AllReadyH.nil
  go_simp
  refine hK.out _ _ (by first | exact ⟨(two_cells _ _ _ _).1, (two_cells _ _ _ _).2, ((Below.refl _ _).alloc (Nat.le_refl _) _).drew⟩ | exact two_kept (by assumption) hb4 | exact two_kept (by assumption) ((Below.refl _ _).alloc (Nat.le_refl _) _).drew | exact two_kept (by assumption) ((Below.refl _ _).alloc (Nat.le_refl _) _) | assumption) (fun hHeld => ?_)
  clear hK K
  (try simp only [Act.put, List.setIfInBounds_toArray, List.set_cons_zero, List.set_cons_succ, List.getElem_toArray, List.getElem_cons_zero, List.getElem_cons_succ])
  refine wpAnyH_ready (rs := [3, 9]) (by kernel_rfl) (by simp) ?_
  refine AllReadyH.cons (o := _) rfl (fun K hK => ?_) ?_
  · go_simp
    with_reducible refine (H1.out _).mono ?_
    rintro e w4 ⟨rfl, hb4⟩
    refine hK.out _ _ (by first | exact ⟨(two_cells _ _ _ _).1, (two_cells _ _ _ _).2, ((Below.refl _ _).alloc (Nat.le_refl _) _).drew⟩ | exact two_kept (by assumption) hb4 | exact two_kept (by assumption) ((Below.refl _ _).alloc (Nat.le_refl _) _).drew | exact two_kept (by assumption) ((Below.refl _ _).alloc (Nat.le_refl _) _) | assumption) (fun hHeld => ?_)
    clear hK K
    (try simp only [Act.put, List.setIfInBounds_toArray, List.set_cons_zero, List.set_cons_succ, List.getElem_toArray, List.getElem_cons_zero, List.getElem_cons_succ])
    have hcv4 := conv_at (P := Try.prog) 65 9 5 Try.underlying65 Try.underlying5 Try.underlying9 w4 n.length (by omega) _ ((hb4.block _ (by simp)).trans (heap_alloc_new (w.alloc (.cells #[str n, .int .u32 (i : Int)] 34)) (.cells #[.int .u8 (n.length : Int)] 5)))
    simp only [World.size_alloc] at hcv4
    refine wpAnyH_ready (rs := [9]) (by kernel_rfl) (by simp) ?_
    refine AllReadyH.cons (o := _) rfl (fun K hK => ?_) AllReadyH.nil
    go_simp
    refine hK.out _ _ (by first | exact ⟨(two_cells _ _ _ _).1, (two_cells _ _ _ _).2, ((Below.refl _ _).alloc (Nat.le_refl _) _).drew⟩ | exact two_kept (by assumption) hb4 | exact two_kept (by assumption) ((Below.refl _ _).alloc (Nat.le_refl _) _).drew | exact two_kept (by assumption) ((Below.refl _ _).alloc (Nat.le_refl _) _) | assumption) (fun hHeld => ?_)
    clear hK K
    (try simp only [Act.put, List.setIfInBounds_toArray, List.set_cons_zero, List.set_cons_succ, List.getElem_toArray, List.getElem_cons_zero, List.getElem_cons_succ])
    refine wpAnyH_take (i := 10) (oi := _) (v := ?_) rfl (by kernel_rfl) (by kernel_rfl) (by kernel_rfl) (fun _ _ _ h => h) (Or.inl ⟨by rfl, ?_⟩) (by assumption) ?_
    rotate_left
    · intro w hSw
      try dsimp only at hSw
      go_simp
      try with_reducible rfl
    (try simp only [Act.put, List.setIfInBounds_toArray, List.set_cons_zero, List.set_cons_succ, List.getElem_toArray, List.getElem_cons_zero, List.getElem_cons_succ])
    refine wpAnyH_take (i := 13) (oi := _) (v := ?_) rfl (by kernel_rfl) (by kernel_rfl) (by kernel_rfl) (fun _ _ _ h => h) (Or.inl ⟨by rfl, ?_⟩) (by assumption) ?_
    rotate_left
    · intro w hSw
      try dsimp only at hSw
      go_simp
      try with_reducible rfl
    (try simp only [Act.put, List.setIfInBounds_toArray, List.set_cons_zero, List.set_cons_succ, List.getElem_toArray, List.getElem_cons_zero, List.getElem_cons_succ])
    refine wpAnyH_take (i := 14) (oi := _) (v := ?_) rfl (by kernel_rfl) (by kernel_rfl) (by kernel_rfl) (fun _ _ _ h => h) (Or.inl ⟨by rfl, ?_⟩) (by assumption) ?_
    rotate_left
    · intro w hSw
      try dsimp only at hSw
      go_simp
      try with_reducible rfl
    (try simp only [Act.put, List.setIfInBounds_toArray, List.set_cons_zero, List.set_cons_succ, List.getElem_toArray, List.getElem_cons_zero, List.getElem_cons_succ])
    refine wpAnyH_done (by kernel_rfl) ?_ _
    refine NoPanic.normal ?_
    go_wp2_with fail
    with_reducible refine (H3.out _).mono ?_
    rintro e w5 ⟨rfl, hb5⟩
    go_wp2_with fail
    go_ret
    exact ⟨by rw [HE.out]; rfl, (show Below w.heap.size w _ from hHeld.2.2).trans (hb5.mono (show Below w.heap.size w _ from hHeld.2.2).size)⟩
  refine AllReadyH.cons (o := _) rfl (fun K hK => ?_) AllReadyH.nil
  go_simp
  refine hK.out _ _ (by first | exact ⟨(two_cells _ _ _ _).1, (two_cells _ _ _ _).2, ((Below.refl _ _).alloc (Nat.le_refl _) _).drew⟩ | exact two_kept (by assumption) hb4 | exact two_kept (by assumption) ((Below.refl _ _).alloc (Nat.le_refl _) _).drew | exact two_kept (by assumption) ((Below.refl _ _).alloc (Nat.le_refl _) _) | assumption) (fun hHeld => ?_)
  clear hK K
  (try simp only [Act.put, List.setIfInBounds_toArray, List.set_cons_zero, List.set_cons_succ, List.getElem_toArray, List.getElem_cons_zero, List.getElem_cons_succ])
  refine wpAnyH_ready (rs := [3]) (by kernel_rfl) (by simp) ?_
  refine AllReadyH.cons (o := _) rfl (fun K hK => ?_) AllReadyH.nil
  go_simp
  with_reducible refine (H1.out _).mono ?_
  rintro e w4 ⟨rfl, hb4⟩
  refine hK.out _ _ (by first | exact ⟨(two_cells _ _ _ _).1, (two_cells _ _ _ _).2, ((Below.refl _ _).alloc (Nat.le_refl _) _).drew⟩ | exact two_kept (by assumption) hb4 | exact two_kept (by assumption) ((Below.refl _ _).alloc (Nat.le_refl _) _).drew | exact two_kept (by assumption) ((Below.refl _ _).alloc (Nat.le_refl _) _) | assumption) (fun hHeld => ?_)
  clear hK K
  (try simp only [Act.put, List.setIfInBounds_toArray, List.set_cons_zero, List.set_cons_succ, List.getElem_toArray, List.getElem_cons_zero, List.getElem_cons_succ])
  refine wpAnyH_take (i := 10) (oi := _) (v := ?_) rfl (by kernel_rfl) (by kernel_rfl) (by kernel_rfl) (fun _ _ _ h => h) (Or.inl ⟨by rfl, ?_⟩) (by assumption) ?_
  rotate_left
  · intro w hSw
    try dsimp only at hSw
    go_simp
    try with_reducible rfl
  (try simp only [Act.put, List.setIfInBounds_toArray, List.set_cons_zero, List.set_cons_succ, List.getElem_toArray, List.getElem_cons_zero, List.getElem_cons_succ])
  refine wpAnyH_take (i := 13) (oi := _) (v := ?_) rfl (by kernel_rfl) (by kernel_rfl) (by kernel_rfl) (fun _ _ _ h => h) (Or.inl ⟨by rfl, ?_⟩) (by assumption) ?_
  rotate_left
  · intro w hSw
    try dsimp only at hSw
    go_simp
    try with_reducible rfl
  (try simp only [Act.put, List.setIfInBounds_toArray, List.set_cons_zero, List.set_cons_succ, List.getElem_toArray, List.getElem_cons_zero, List.getElem_cons_succ])
  refine wpAnyH_take (i := 14) (oi := _) (v := ?_) rfl (by kernel_rfl) (by kernel_rfl) (by kernel_rfl) (fun _ _ _ h => h) (Or.inl ⟨by rfl, ?_⟩) (by assumption) ?_
  rotate_left
  · intro w hSw
    try dsimp only at hSw
    go_simp
    try with_reducible rfl
  (try simp only [Act.put, List.setIfInBounds_toArray, List.set_cons_zero, List.set_cons_succ, List.getElem_toArray, List.getElem_cons_zero, List.getElem_cons_succ])
  refine wpAnyH_done (by kernel_rfl) ?_ _
  refine NoPanic.normal ?_
  go_wp2_with fail
  with_reducible refine (H3.out _).mono ?_
  rintro e w5 ⟨rfl, hb5⟩
  go_wp2_with fail
  go_ret
  exact ⟨by rw [HE.out]; rfl, (show Below w.heap.size w _ from hHeld.2.2).trans (hb5.mono (show Below w.heap.size w _ from hHeld.2.2).size)⟩
end Go.Proofs.Ytmidoghjacmdcaa
