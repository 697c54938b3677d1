/- Layer 3 (dev): Copy. -/
import Derived.Test.YtoogedjeclcdbaaDevCopy3
import Derived.Test.YtoogedjeclcdbaaDev10
import Derived.Deep.RegionHeld3
namespace Go.Proofs.Ytoogedjeclcdbaa
open Go.RowKit Go.Maps
set_option linter.unusedVariables false
set_option linter.unusedSimpArgs false
attribute [local go_sem] Oper.semAt_some
theorem dur_flat {W : World} {g n : Nat} {dur : Nat → List UInt8} (h : Du W g n dur) (hl : ∀ i, i < n → (dur i).length = 64) (k : Nat) (hk : k ≤ n) : W.rangeAt g 0 (bc ((List.range k).map dur).flatten) := by
  induction k with
  | zero => intro j u hj; simp at hj
  | succ k ih =>
    rw [List.range_succ, List.map_append, List.flatten_append, bc_append]
    refine range_append (ih (by omega)) ?_
    have hlen : ((List.range k).map dur).flatten.length = k * 64 := by
      have := flat_len (ps := (List.range k).map dur) (fun p hp => by obtain ⟨i, hi, rfl⟩ := List.mem_map.1 hp; exact hl i (by have := List.mem_range.1 hi; omega))
      simpa using this
    rw [List.length_map, hlen, Nat.zero_add]
    simpa using h.at_ k (by omega)
/-- What Copy has made ahead of its rounds. -/
structure Built (W V : World) (nb p : Nat) (M : Dv) : Prop where
  parts : ∃ g' cap' m', Head V nb g' cap' m' M.n M.wr M.left M.down ∧ RowAt V (.slice (some ⟨g', 0, none⟩) M.n cap') ((List.range M.n).map M.dur) ∧ V.heap[m']? = some (.map #[] 0) ∧ W.heap.size ≤ g' ∧ W.heap.size ≤ m' ∧ nb ≠ g' ∧ nb ≠ m' ∧ g' ≠ m' ∧ p ≠ g' ∧ p ≠ m' ∧ g' < V.heap.size ∧ m' < V.heap.size
  box : V.cell? ⟨p, 0, none⟩ = some (devp nb)
  pb : p ≠ nb
  pge : W.heap.size ≤ p
  bge : W.heap.size ≤ nb
  plt : p < V.heap.size
  blt : nb < V.heap.size
  below : Below W.heap.size W V
theorem built_of {W X : World} {M : Dv} {g' cap' m' nb p : Nat} {ds : List (List UInt8)} (hB : Below W.heap.size W X)
    (fB : X.heap[nb]? = some (.cells #[.int .i64 (M.left : Int), .bool M.down, .slice (some ⟨g', 0, none⟩) M.n cap', .map (some m'), .int .u64 (M.wr : Int)] 58))
    (fA : X.heap[p]? = some (.cells #[.pointer none] 25)) (fM : X.heap[m']? = some (.map #[] 0)) (hR : RowAt X (.slice (some ⟨g', 0, none⟩) M.n cap') ds) (hds : (List.range M.n).map M.dur = ds) (hg : g' < X.heap.size)
    (h1 : W.heap.size ≤ g') (h2 : W.heap.size ≤ m') (h3 : W.heap.size ≤ p) (h4 : W.heap.size ≤ nb) (n1 : nb ≠ g') (n2 : nb ≠ m') (n3 : g' ≠ m') (n4 : p ≠ g') (n5 : p ≠ m') (n6 : p ≠ nb) : Built W (X.setCell ⟨p, 0, none⟩ (devp nb)) nb p M := by
  have hc : ∀ k, k ≠ p → (X.setCell ⟨p, 0, none⟩ (devp nb)).heap[k]? = X.heap[k]? := fun k hk => Below.heap_setCell X ⟨p, 0, none⟩ _ k hk
  have hb := (hc nb (Ne.symm n6)).trans fB
  have hcell : ∀ j, (X.setCell ⟨p, 0, none⟩ (devp nb)).cell? ⟨nb, j, none⟩ = _ := fun j => cell_of_row _ _ j _ _ _ hb
  have hfr : ∀ j, (X.setCell ⟨p, 0, none⟩ (devp nb)).frozen? ⟨nb, j, none⟩ = false := fun j => frozen_of_row _ _ j _ _ hb
  have hsz : (X.setCell ⟨p, 0, none⟩ (devp nb)).heap.size = X.heap.size := by simp [World.setCell]
  have hlt : ∀ {k o}, X.heap[k]? = some o → k < X.heap.size := fun h => (Array.getElem?_eq_some_iff.1 h).1
  exact {
    parts := ⟨g', cap', m', ⟨by rw [hcell]; rfl, by rw [hcell]; rfl, by rw [hcell]; rfl, by rw [hcell]; rfl, by rw [hcell]; rfl, hfr 0, hfr 1, hfr 2, hfr 3, hfr 4⟩, by rw [hds]; exact hR.kept (fun k hk => by cases hk; exact hc g' (Ne.symm n4)), (hc m' (Ne.symm n5)).trans fM, h1, h2, n1, n2, n3, n4, n5, by rw [hsz]; exact hg, by rw [hsz]; exact hlt fM⟩
    box := set_here _ (cell_of_row _ _ 0 _ _ _ fA)
    pb := n6, pge := h3, bge := h4, plt := by rw [hsz]; exact hlt fA, blt := by rw [hsz]; exact hlt fB
    below := hB.setCell h3 _ }
theorem Later {X Y Z : World} (h : Below X.heap.size X Y) (k : Below Y.heap.size Y Z) : Below X.heap.size X Z := h.trans (k.mono h.size)
set_option maxRecDepth 100000 in
set_option maxHeartbeats 2000000 in
theorem copy_any {S : Nat → Prop} {W : World} {b : Nat} {M : Dv} (h : DevAt S W b M) (hn : 8 ≤ M.n) (hw : M.wr ≤ 1099511627776) :
    Calls Try.prog 18 #[devp b] W fun e w' => ∃ b', e = .returned (devp b') ∧ (∃ S', DevAt S' w' b' M ∧ (∀ k, S' k → W.heap.size ≤ k)) ∧ Below W.heap.size W w' := by
  obtain ⟨g, c, m, vals, hI⟩ := h
  refine (callsIn_wide (n := 8)).1 ?_
  refine callsIn_of_wp_marks Try.func18 rfl trivial ?_ rfl
  simp only [Try.ntmps18, List.size_toArray, List.length_cons, List.length_nil, Nat.reduceAdd, Nat.reduceSub, Array.replicate_succ, Array.replicate_zero, List.push_toArray, List.append_toArray, List.nil_append, List.cons_append]
  have HI := Lib.hid hI
  clear hI
  have hS : ∀ V, Below W.heap.size W V → V.cell? ⟨b, 0, none⟩ = some (.int .i64 (M.left : Int)) ∧ V.cell? ⟨b, 1, none⟩ = some (.bool M.down) ∧ V.cell? ⟨b, 2, none⟩ = some (.slice (some ⟨g, 0, none⟩) M.n c) ∧ V.cell? ⟨b, 4, none⟩ = some (.int .u64 (M.wr : Int)) := fun V hV => by
    have hh := HI.out.head.kept (hV.block b (HI.out.lt b HI.out.sb))
    exact ⟨hh.c0, hh.c1, hh.c2, hh.c4⟩
  have HS := Lib.hid hS
  obtain ⟨ds, hdd⟩ : ∃ ds, (List.range M.n).map M.dur = ds := ⟨_, rfl⟩
  have hds : ds.length = M.n := by rw [← hdd]; simp
  have hdn : ds ≠ [] := fun h0 => by rw [h0] at hds; simp at hds; omega
  have hdl : ∀ q ∈ ds, q.length = 64 := by
    rw [← hdd]
    intro q hq
    obtain ⟨i, hi, rfl⟩ := List.mem_map.1 hq
    exact HI.out.fine.dur i (List.mem_range.1 hi)
  have hn4 := HI.out.fine.n
  have hdb : ds.length ≤ 1099511627776 := by omega
  have hR : ∀ V, Below W.heap.size W V → V.rangeAt g 0 (bc ds.flatten) := fun V hV => by
    have hd := HI.out.du.kept (hV.block g (HI.out.lt g HI.out.sg))
    rw [← hdd]
    exact dur_flat hd (fun i hi => HI.out.fine.dur i hi) M.n (Nat.le_refl _)
  have HR := Lib.hid hR
  clear hS hR
  gi_wp2_with fail
  refine wpIn_mono (Q := fun e a' V => e = .normal ∧ ∃ nb p, (∃ u8 u9 u10 u11 u12 u13 u14 u15 u16 u17 u18 u19 u20 u21 u22 u23, a' = { tmps := #[devp b, undef, .pointer none, .pointer (some ⟨p, 0, none⟩), undef, undef, devp b, .bool false, u8, u9, u10, u11, u12, u13, u14, u15, u16, u17, u18, u19, u20, u21, u22, u23, undef, undef, undef, undef, undef, undef, undef, undef, undef, undef, undef, undef, undef, undef], defers := [] }) ∧ Built W V nb p M) (wpIn_wide.2 ?reg) ?rest
  case reg =>
    have hmm := @run_makeMap Try.prog
    refine wp_region_held_drew (S := fun V => V.cell? ⟨b, 0, none⟩ = some (.int .i64 (M.left : Int)) ∧ V.cell? ⟨b, 1, none⟩ = some (.bool M.down) ∧ V.cell? ⟨b, 2, none⟩ = some (.slice (some ⟨g, 0, none⟩) M.n c) ∧ V.cell? ⟨b, 4, none⟩ = some (.int .u64 (M.wr : Int))) (by kernel_rfl) (HS.out _ (Below.refl _ _).drew) (fun hHeld => ?_)
    have B0 := Lib.hid ((Below.refl W.heap.size W).drew)
    obtain ⟨X0, e0⟩ : ∃ Y, W.drew = Y := ⟨_, rfl⟩
    rw [e0] at hHeld B0 ⊢
    clear e0
    refine wpAnyH_take (i := 0) (oi := _) (v := ?_) rfl (by kernel_rfl) (by kernel_rfl) (by kernel_rfl) (fun _ _ _ h => nomatch h.1) (Or.inl ⟨by rfl, ?_⟩) (by assumption) ?_
    rotate_left
    · intro w hSw
      try dsimp only at hSw
      go_simp
      try with_reducible rfl
    (try simp only [Act.put, List.setIfInBounds_toArray, List.set_cons_zero, List.set_cons_succ, List.getElem_toArray, List.getElem_cons_zero, List.getElem_cons_succ])
    refine wpAnyH_take (i := 1) (oi := _) (v := ?_) rfl (by kernel_rfl) (by kernel_rfl) (by kernel_rfl) (fun _ _ _ h => nomatch h.1) (Or.inl ⟨by rfl, ?_⟩) (by assumption) ?_
    rotate_left
    · intro w hSw
      try dsimp only at hSw
      go_simp
      try with_reducible rfl
    (try simp only [Act.put, List.setIfInBounds_toArray, List.set_cons_zero, List.set_cons_succ, List.getElem_toArray, List.getElem_cons_zero, List.getElem_cons_succ])
    refine wpAnyH_take (i := 2) (oi := _) (v := ?_) rfl (by kernel_rfl) (by kernel_rfl) (by kernel_rfl) (fun _ _ _ h => nomatch h.1) (Or.inl ⟨by rfl, ?_⟩) (by assumption) ?_
    rotate_left
    · intro w hSw
      try dsimp only at hSw
      go_simp
      try with_reducible rfl
    (try simp only [Act.put, List.setIfInBounds_toArray, List.set_cons_zero, List.set_cons_succ, List.getElem_toArray, List.getElem_cons_zero, List.getElem_cons_succ])
    refine wpAnyH_take (i := 3) (oi := _) (v := ?_) rfl (by kernel_rfl) (by kernel_rfl) (by kernel_rfl) (fun _ _ _ h => nomatch h.1) (Or.inl ⟨by rfl, ?_⟩) (by assumption) ?_
    rotate_left
    · intro w hSw
      try dsimp only at hSw
      go_simp
      try with_reducible rfl
    (try simp only [Act.put, List.setIfInBounds_toArray, List.set_cons_zero, List.set_cons_succ, List.getElem_toArray, List.getElem_cons_zero, List.getElem_cons_succ])
    refine wpAnyH_take (i := 4) (oi := _) (v := ?_) rfl (by kernel_rfl) (by kernel_rfl) (by kernel_rfl) (fun _ _ _ h => nomatch h.1) (Or.inl ⟨by rfl, ?_⟩) (by assumption) ?_
    rotate_left
    · intro w hSw
      try dsimp only at hSw
      go_simp
      try with_reducible rfl
    (try simp only [Act.put, List.setIfInBounds_toArray, List.set_cons_zero, List.set_cons_succ, List.getElem_toArray, List.getElem_cons_zero, List.getElem_cons_succ])
    refine wpAnyH_take (i := 5) (oi := _) (v := ?_) rfl (by kernel_rfl) (by kernel_rfl) (by kernel_rfl) (fun _ _ _ h => nomatch h.1) (Or.inl ⟨by rfl, ?_⟩) (by assumption) ?_
    rotate_left
    · intro w hSw
      try dsimp only at hSw
      go_simp
      try with_reducible rfl
    (try simp only [Act.put, List.setIfInBounds_toArray, List.set_cons_zero, List.set_cons_succ, List.getElem_toArray, List.getElem_cons_zero, List.getElem_cons_succ])
    refine wpAnyH_take (i := 6) (oi := _) (v := ?_) rfl (by kernel_rfl) (by kernel_rfl) (by kernel_rfl) (fun _ _ _ h => nomatch h.1) (Or.inl ⟨by rfl, ?_⟩) (by assumption) ?_
    rotate_left
    · intro w hSw
      try dsimp only at hSw
      go_simp
      try with_reducible rfl
    (try simp only [Act.put, List.setIfInBounds_toArray, List.set_cons_zero, List.set_cons_succ, List.getElem_toArray, List.getElem_cons_zero, List.getElem_cons_succ])
    refine wpAnyH_take (i := 7) (oi := _) (v := ?_) rfl (by kernel_rfl) (by kernel_rfl) (by kernel_rfl) (fun _ _ _ h => nomatch h.1) (Or.inl ⟨by rfl, ?_⟩) (by assumption) ?_
    rotate_left
    · intro w hSw
      try dsimp only at hSw
      go_simp
      try with_reducible rfl
    (try simp only [Act.put, List.setIfInBounds_toArray, List.set_cons_zero, List.set_cons_succ, List.getElem_toArray, List.getElem_cons_zero, List.getElem_cons_succ])
    refine wpAnyH_take (i := 10) (oi := _) (v := ?_) rfl (by kernel_rfl) (by kernel_rfl) (by kernel_rfl) (fun _ _ _ h => nomatch h.1) (Or.inl ⟨by rfl, ?_⟩) (by assumption) ?_
    rotate_left
    · intro w hSw
      try dsimp only at hSw
      go_simp
      try with_reducible rfl
    (try simp only [Act.put, List.setIfInBounds_toArray, List.set_cons_zero, List.set_cons_succ, List.getElem_toArray, List.getElem_cons_zero, List.getElem_cons_succ])
    refine wpAnyH_take (i := 11) (oi := _) (v := ?_) rfl (by kernel_rfl) (by kernel_rfl) (by kernel_rfl) (fun _ _ _ h => nomatch h.1) (Or.inl ⟨by rfl, ?_⟩) (by assumption) ?_
    rotate_left
    · intro w hSw
      try dsimp only at hSw
      go_simp
      try with_reducible rfl
    (try simp only [Act.put, List.setIfInBounds_toArray, List.set_cons_zero, List.set_cons_succ, List.getElem_toArray, List.getElem_cons_zero, List.getElem_cons_succ])
    refine wpAnyH_take (i := 12) (oi := _) (v := ?_) rfl (by kernel_rfl) (by kernel_rfl) (by kernel_rfl) (fun _ _ _ h => nomatch h.1) (Or.inl ⟨by rfl, ?_⟩) (by assumption) ?_
    rotate_left
    · intro w hSw
      try dsimp only at hSw
      go_simp
      try with_reducible rfl
    (try simp only [Act.put, List.setIfInBounds_toArray, List.set_cons_zero, List.set_cons_succ, List.getElem_toArray, List.getElem_cons_zero, List.getElem_cons_succ])
    refine wpAnyH_take (i := 13) (oi := _) (v := ?_) rfl (by kernel_rfl) (by kernel_rfl) (by kernel_rfl) (fun _ _ _ h => nomatch h.1) (Or.inl ⟨by rfl, ?_⟩) (by assumption) ?_
    rotate_left
    · intro w hSw
      try dsimp only at hSw
      go_simp
      try with_reducible rfl
    (try simp only [Act.put, List.setIfInBounds_toArray, List.set_cons_zero, List.set_cons_succ, List.getElem_toArray, List.getElem_cons_zero, List.getElem_cons_succ])
    refine wpAnyH_ready (rs := [8, 9, 16]) (by kernel_rfl) (by simp) ?_
    refine AllReadyH.cons (o := _) rfl (fun K hK => ?_) ?_
    · go_simp
      go_at_call 29
      have cc := clone_any g 0 c ds X0 (HR.out _ B0.out) hdn hdl hdb
      rw [hds] at cc
      refine cc.mono ?_
      clear cc
      rintro e X1 ⟨g', cap', rfl, hRow, hge, hbl⟩
      have b1 := Lib.hid hbl
      have R := Lib.hid hRow
      have B1 := Lib.hid (B0.out.trans (b1.out.mono B0.out.size))
      clear hbl hRow
      refine hK.out _ _ (HS.out _ B1.out) (fun hHeld => ?_)
      clear hK K
      (try simp only [Act.put, List.setIfInBounds_toArray, List.set_cons_zero, List.set_cons_succ, List.getElem_toArray, List.getElem_cons_zero, List.getElem_cons_succ])
      refine wpAnyH_ready (rs := [9, 16]) (by kernel_rfl) (by simp) ?_
      refine AllReadyH.cons (o := _) rfl (fun K hK => ?_) ?_
      · go_simp
        refine hK.out _ _ (HS.out _ (B1.out.alloc B1.out.size _)) (fun hHeld => ?_)
        clear hK K
        (try simp only [Act.put, List.setIfInBounds_toArray, List.set_cons_zero, List.set_cons_succ, List.getElem_toArray, List.getElem_cons_zero, List.getElem_cons_succ])
        have fM := heap_alloc_new X1 (.map #[] 0)
        have b2 := Lib.hid ((Below.refl X1.heap.size X1).alloc (Nat.le_refl _) (.map #[] 0))
        have t2 : (X1.alloc (.map #[] 0)).heap.size = X1.heap.size + 1 := by simp
        obtain ⟨X2, e2⟩ : ∃ Y, X1.alloc (.map #[] 0) = Y := ⟨_, rfl⟩
        rw [e2] at fM b2 t2 hHeld ⊢
        clear e2
        have s2 := Lib.hid t2
        clear t2
        have B2 := Lib.hid (B1.out.trans (b2.out.mono B1.out.size))
        refine wpAnyH_take (i := 14) (oi := _) (v := ?_) rfl (by kernel_rfl) (by kernel_rfl) (by kernel_rfl) (fun _ _ _ h => nomatch h.1) (Or.inl ⟨by rfl, ?_⟩) (by assumption) ?_
        rotate_left
        · intro w hSw
          try dsimp only at hSw
          go_simp
          try with_reducible rfl
        (try simp only [Act.put, List.setIfInBounds_toArray, List.set_cons_zero, List.set_cons_succ, List.getElem_toArray, List.getElem_cons_zero, List.getElem_cons_succ])
        refine wpAnyH_ready (rs := [15, 16]) (by kernel_rfl) (by simp) ?_
        refine AllReadyH.cons (o := _) rfl (fun K hK => ?_) ?_
        · go_simp
          refine hK.out _ _ (HS.out _ (B2.out.alloc B2.out.size _)) (fun hHeld => ?_)
          clear hK K
          (try simp only [Act.put, List.setIfInBounds_toArray, List.set_cons_zero, List.set_cons_succ, List.getElem_toArray, List.getElem_cons_zero, List.getElem_cons_succ])
          have fB := heap_alloc_new X2 (.cells #[.int .i64 (M.left : Int), .bool M.down, .slice (some ⟨g', 0, none⟩) M.n cap', .map (some X1.heap.size), .int .u64 (M.wr : Int)] 58)
          have b3 := Lib.hid ((Below.refl X2.heap.size X2).alloc (Nat.le_refl _) (.cells #[.int .i64 (M.left : Int), .bool M.down, .slice (some ⟨g', 0, none⟩) M.n cap', .map (some X1.heap.size), .int .u64 (M.wr : Int)] 58))
          have t3 : (X2.alloc (.cells #[.int .i64 (M.left : Int), .bool M.down, .slice (some ⟨g', 0, none⟩) M.n cap', .map (some X1.heap.size), .int .u64 (M.wr : Int)] 58)).heap.size = X2.heap.size + 1 := by simp
          obtain ⟨X3, e3⟩ : ∃ Y, X2.alloc (.cells #[.int .i64 (M.left : Int), .bool M.down, .slice (some ⟨g', 0, none⟩) M.n cap', .map (some X1.heap.size), .int .u64 (M.wr : Int)] 58) = Y := ⟨_, rfl⟩
          rw [e3] at fB b3 t3 hHeld ⊢
          clear e3
          have s3 := Lib.hid t3
          clear t3
          have B3 := Lib.hid (B2.out.trans (b3.out.mono B2.out.size))
          refine wpAnyH_ready (rs := [16]) (by kernel_rfl) (by simp) ?_
          refine AllReadyH.cons (o := _) rfl (fun K hK => ?_) ?_
          · go_simp
            refine hK.out _ _ (HS.out _ (B3.out.alloc B3.out.size _)) (fun hHeld => ?_)
            clear hK K
            (try simp only [Act.put, List.setIfInBounds_toArray, List.set_cons_zero, List.set_cons_succ, List.getElem_toArray, List.getElem_cons_zero, List.getElem_cons_succ])
            have fA := heap_alloc_new X3 (.cells #[.pointer none] 25)
            have b4 := Lib.hid ((Below.refl X3.heap.size X3).alloc (Nat.le_refl _) (.cells #[.pointer none] 25))
            have t4 : (X3.alloc (.cells #[.pointer none] 25)).heap.size = X3.heap.size + 1 := by simp
            obtain ⟨X4, e4⟩ : ∃ Y, X3.alloc (.cells #[.pointer none] 25) = Y := ⟨_, rfl⟩
            rw [e4] at fA b4 t4 hHeld ⊢
            clear e4
            have s4 := Lib.hid t4
            clear t4
            have B4 := Lib.hid (B3.out.trans (b4.out.mono B3.out.size))
            have z1 := b1.out.size
            have z2 := b2.out.size
            have z3 := b3.out.size
            have z4 := b4.out.size
            have y2 := s2.out
            have y4 := s4.out
            have y3 := s3.out
            have fM := ((Later b3.out b4.out).block _ (by omega)).trans fM
            have fB := (b4.out.block _ (by omega)).trans fB
            have hRg := R.out.own (by intro h0; rw [h0] at hds; simp at hds; omega)
            obtain ⟨kq, hkq, hkl⟩ := hRg
            have hgl : g' < X1.heap.size := by cases hkq; exact hkl
            clear hkq hkl
            have hRow := R.out.kept fun k hk => (Later b2.out (Later b3.out b4.out)).block k (by cases hk; exact hgl)
            have z0 := B0.out.size
            have hpc : X4.cell? ⟨X3.heap.size, 0, none⟩ = some (.pointer none) := cell_of_row _ _ 0 _ _ _ fA
            have hpf : X4.frozen? ⟨X3.heap.size, 0, none⟩ = false := frozen_of_row _ _ 0 _ _ fA
            have hBt := built_of (W := W) (M := M) (X := X4) (g' := g') (cap' := cap') B4.out fB fA fM hRow hdd (by omega) (by omega) (by omega) (by omega) (by omega) (by omega) (by omega) (by omega) (by omega) (by omega) (by omega)
            have HBt := Lib.hid hBt
            clear hBt y2 y4 y3
            refine wpAnyH_ready (rs := [17]) (by kernel_rfl) (by simp) ?_
            refine AllReadyH.cons (o := _) rfl (fun K hK => ?_) AllReadyH.nil
            go_simp
            refine hK.out _ _ (HS.out _ HBt.out.below) (fun hHeld => ?_)
            clear hK K
            (try simp only [Act.put, List.setIfInBounds_toArray, List.set_cons_zero, List.set_cons_succ, List.getElem_toArray, List.getElem_cons_zero, List.getElem_cons_succ])
            refine wpAnyH_done (by kernel_rfl) ?_ _
            exact ⟨rfl, _, _, ⟨_, _, _, _, _, _, _, _, _, _, _, _, _, _, _, _, rfl⟩, HBt.out⟩
          exact AllReadyH.nil
        refine AllReadyH.cons (o := _) rfl (fun K hK => ?_) ?_
        · go_simp
          refine hK.out _ _ (HS.out _ (B2.out.alloc B2.out.size _)) (fun hHeld => ?_)
          clear hK K
          (try simp only [Act.put, List.setIfInBounds_toArray, List.set_cons_zero, List.set_cons_succ, List.getElem_toArray, List.getElem_cons_zero, List.getElem_cons_succ])
          have fA := heap_alloc_new X2 (.cells #[.pointer none] 25)
          have b3 := Lib.hid ((Below.refl X2.heap.size X2).alloc (Nat.le_refl _) (.cells #[.pointer none] 25))
          have t3 : (X2.alloc (.cells #[.pointer none] 25)).heap.size = X2.heap.size + 1 := by simp
          obtain ⟨X3, e3⟩ : ∃ Y, X2.alloc (.cells #[.pointer none] 25) = Y := ⟨_, rfl⟩
          rw [e3] at fA b3 t3 hHeld ⊢
          clear e3
          have s3 := Lib.hid t3
          clear t3
          have B3 := Lib.hid (B2.out.trans (b3.out.mono B2.out.size))
          refine wpAnyH_ready (rs := [15]) (by kernel_rfl) (by simp) ?_
          refine AllReadyH.cons (o := _) rfl (fun K hK => ?_) ?_
          · go_simp
            refine hK.out _ _ (HS.out _ (B3.out.alloc B3.out.size _)) (fun hHeld => ?_)
            clear hK K
            (try simp only [Act.put, List.setIfInBounds_toArray, List.set_cons_zero, List.set_cons_succ, List.getElem_toArray, List.getElem_cons_zero, List.getElem_cons_succ])
            have fB := heap_alloc_new X3 (.cells #[.int .i64 (M.left : Int), .bool M.down, .slice (some ⟨g', 0, none⟩) M.n cap', .map (some X1.heap.size), .int .u64 (M.wr : Int)] 58)
            have b4 := Lib.hid ((Below.refl X3.heap.size X3).alloc (Nat.le_refl _) (.cells #[.int .i64 (M.left : Int), .bool M.down, .slice (some ⟨g', 0, none⟩) M.n cap', .map (some X1.heap.size), .int .u64 (M.wr : Int)] 58))
            have t4 : (X3.alloc (.cells #[.int .i64 (M.left : Int), .bool M.down, .slice (some ⟨g', 0, none⟩) M.n cap', .map (some X1.heap.size), .int .u64 (M.wr : Int)] 58)).heap.size = X3.heap.size + 1 := by simp
            obtain ⟨X4, e4⟩ : ∃ Y, X3.alloc (.cells #[.int .i64 (M.left : Int), .bool M.down, .slice (some ⟨g', 0, none⟩) M.n cap', .map (some X1.heap.size), .int .u64 (M.wr : Int)] 58) = Y := ⟨_, rfl⟩
            rw [e4] at fB b4 t4 hHeld ⊢
            clear e4
            have s4 := Lib.hid t4
            clear t4
            have B4 := Lib.hid (B3.out.trans (b4.out.mono B3.out.size))
            have z1 := b1.out.size
            have z2 := b2.out.size
            have z3 := b3.out.size
            have z4 := b4.out.size
            have y2 := s2.out
            have y3 := s3.out
            have y4 := s4.out
            have fA := (b4.out.block _ (by omega)).trans fA
            have fM := ((Later b3.out b4.out).block _ (by omega)).trans fM
            have hRg := R.out.own (by intro h0; rw [h0] at hds; simp at hds; omega)
            obtain ⟨kq, hkq, hkl⟩ := hRg
            have hgl : g' < X1.heap.size := by cases hkq; exact hkl
            clear hkq hkl
            have hRow := R.out.kept fun k hk => (Later b2.out (Later b3.out b4.out)).block k (by cases hk; exact hgl)
            have z0 := B0.out.size
            have hpc : X4.cell? ⟨X2.heap.size, 0, none⟩ = some (.pointer none) := cell_of_row _ _ 0 _ _ _ fA
            have hpf : X4.frozen? ⟨X2.heap.size, 0, none⟩ = false := frozen_of_row _ _ 0 _ _ fA
            have hBt := built_of (W := W) (M := M) (X := X4) (g' := g') (cap' := cap') B4.out fB fA fM hRow hdd (by omega) (by omega) (by omega) (by omega) (by omega) (by omega) (by omega) (by omega) (by omega) (by omega) (by omega)
            have HBt := Lib.hid hBt
            clear hBt y2 y3 y4
            refine wpAnyH_ready (rs := [17]) (by kernel_rfl) (by simp) ?_
            refine AllReadyH.cons (o := _) rfl (fun K hK => ?_) AllReadyH.nil
            go_simp
            refine hK.out _ _ (HS.out _ HBt.out.below) (fun hHeld => ?_)
            clear hK K
            (try simp only [Act.put, List.setIfInBounds_toArray, List.set_cons_zero, List.set_cons_succ, List.getElem_toArray, List.getElem_cons_zero, List.getElem_cons_succ])
            refine wpAnyH_done (by kernel_rfl) ?_ _
            exact ⟨rfl, _, _, ⟨_, _, _, _, _, _, _, _, _, _, _, _, _, _, _, _, rfl⟩, HBt.out⟩
          exact AllReadyH.nil
        exact AllReadyH.nil
      refine AllReadyH.cons (o := _) rfl (fun K hK => ?_) ?_
      · go_simp
        refine hK.out _ _ (HS.out _ (B1.out.alloc B1.out.size _)) (fun hHeld => ?_)
        clear hK K
        (try simp only [Act.put, List.setIfInBounds_toArray, List.set_cons_zero, List.set_cons_succ, List.getElem_toArray, List.getElem_cons_zero, List.getElem_cons_succ])
        have fA := heap_alloc_new X1 (.cells #[.pointer none] 25)
        have b2 := Lib.hid ((Below.refl X1.heap.size X1).alloc (Nat.le_refl _) (.cells #[.pointer none] 25))
        have t2 : (X1.alloc (.cells #[.pointer none] 25)).heap.size = X1.heap.size + 1 := by simp
        obtain ⟨X2, e2⟩ : ∃ Y, X1.alloc (.cells #[.pointer none] 25) = Y := ⟨_, rfl⟩
        rw [e2] at fA b2 t2 hHeld ⊢
        clear e2
        have s2 := Lib.hid t2
        clear t2
        have B2 := Lib.hid (B1.out.trans (b2.out.mono B1.out.size))
        refine wpAnyH_ready (rs := [9]) (by kernel_rfl) (by simp) ?_
        refine AllReadyH.cons (o := _) rfl (fun K hK => ?_) ?_
        · go_simp
          refine hK.out _ _ (HS.out _ (B2.out.alloc B2.out.size _)) (fun hHeld => ?_)
          clear hK K
          (try simp only [Act.put, List.setIfInBounds_toArray, List.set_cons_zero, List.set_cons_succ, List.getElem_toArray, List.getElem_cons_zero, List.getElem_cons_succ])
          have fM := heap_alloc_new X2 (.map #[] 0)
          have b3 := Lib.hid ((Below.refl X2.heap.size X2).alloc (Nat.le_refl _) (.map #[] 0))
          have t3 : (X2.alloc (.map #[] 0)).heap.size = X2.heap.size + 1 := by simp
          obtain ⟨X3, e3⟩ : ∃ Y, X2.alloc (.map #[] 0) = Y := ⟨_, rfl⟩
          rw [e3] at fM b3 t3 hHeld ⊢
          clear e3
          have s3 := Lib.hid t3
          clear t3
          have B3 := Lib.hid (B2.out.trans (b3.out.mono B2.out.size))
          refine wpAnyH_take (i := 14) (oi := _) (v := ?_) rfl (by kernel_rfl) (by kernel_rfl) (by kernel_rfl) (fun _ _ _ h => nomatch h.1) (Or.inl ⟨by rfl, ?_⟩) (by assumption) ?_
          rotate_left
          · intro w hSw
            try dsimp only at hSw
            go_simp
            try with_reducible rfl
          (try simp only [Act.put, List.setIfInBounds_toArray, List.set_cons_zero, List.set_cons_succ, List.getElem_toArray, List.getElem_cons_zero, List.getElem_cons_succ])
          refine wpAnyH_ready (rs := [15]) (by kernel_rfl) (by simp) ?_
          refine AllReadyH.cons (o := _) rfl (fun K hK => ?_) ?_
          · go_simp
            refine hK.out _ _ (HS.out _ (B3.out.alloc B3.out.size _)) (fun hHeld => ?_)
            clear hK K
            (try simp only [Act.put, List.setIfInBounds_toArray, List.set_cons_zero, List.set_cons_succ, List.getElem_toArray, List.getElem_cons_zero, List.getElem_cons_succ])
            have fB := heap_alloc_new X3 (.cells #[.int .i64 (M.left : Int), .bool M.down, .slice (some ⟨g', 0, none⟩) M.n cap', .map (some X2.heap.size), .int .u64 (M.wr : Int)] 58)
            have b4 := Lib.hid ((Below.refl X3.heap.size X3).alloc (Nat.le_refl _) (.cells #[.int .i64 (M.left : Int), .bool M.down, .slice (some ⟨g', 0, none⟩) M.n cap', .map (some X2.heap.size), .int .u64 (M.wr : Int)] 58))
            have t4 : (X3.alloc (.cells #[.int .i64 (M.left : Int), .bool M.down, .slice (some ⟨g', 0, none⟩) M.n cap', .map (some X2.heap.size), .int .u64 (M.wr : Int)] 58)).heap.size = X3.heap.size + 1 := by simp
            obtain ⟨X4, e4⟩ : ∃ Y, X3.alloc (.cells #[.int .i64 (M.left : Int), .bool M.down, .slice (some ⟨g', 0, none⟩) M.n cap', .map (some X2.heap.size), .int .u64 (M.wr : Int)] 58) = Y := ⟨_, rfl⟩
            rw [e4] at fB b4 t4 hHeld ⊢
            clear e4
            have s4 := Lib.hid t4
            clear t4
            have B4 := Lib.hid (B3.out.trans (b4.out.mono B3.out.size))
            have z1 := b1.out.size
            have z2 := b2.out.size
            have z3 := b3.out.size
            have z4 := b4.out.size
            have y3 := s3.out
            have y2 := s2.out
            have y4 := s4.out
            have fA := ((Later b3.out b4.out).block _ (by omega)).trans fA
            have fM := (b4.out.block _ (by omega)).trans fM
            have hRg := R.out.own (by intro h0; rw [h0] at hds; simp at hds; omega)
            obtain ⟨kq, hkq, hkl⟩ := hRg
            have hgl : g' < X1.heap.size := by cases hkq; exact hkl
            clear hkq hkl
            have hRow := R.out.kept fun k hk => (Later b2.out (Later b3.out b4.out)).block k (by cases hk; exact hgl)
            have z0 := B0.out.size
            have hpc : X4.cell? ⟨X1.heap.size, 0, none⟩ = some (.pointer none) := cell_of_row _ _ 0 _ _ _ fA
            have hpf : X4.frozen? ⟨X1.heap.size, 0, none⟩ = false := frozen_of_row _ _ 0 _ _ fA
            have hBt := built_of (W := W) (M := M) (X := X4) (g' := g') (cap' := cap') B4.out fB fA fM hRow hdd (by omega) (by omega) (by omega) (by omega) (by omega) (by omega) (by omega) (by omega) (by omega) (by omega) (by omega)
            have HBt := Lib.hid hBt
            clear hBt y3 y2 y4
            refine wpAnyH_ready (rs := [17]) (by kernel_rfl) (by simp) ?_
            refine AllReadyH.cons (o := _) rfl (fun K hK => ?_) AllReadyH.nil
            go_simp
            refine hK.out _ _ (HS.out _ HBt.out.below) (fun hHeld => ?_)
            clear hK K
            (try simp only [Act.put, List.setIfInBounds_toArray, List.set_cons_zero, List.set_cons_succ, List.getElem_toArray, List.getElem_cons_zero, List.getElem_cons_succ])
            refine wpAnyH_done (by kernel_rfl) ?_ _
            exact ⟨rfl, _, _, ⟨_, _, _, _, _, _, _, _, _, _, _, _, _, _, _, _, rfl⟩, HBt.out⟩
          exact AllReadyH.nil
        exact AllReadyH.nil
      exact AllReadyH.nil
    refine AllReadyH.cons (o := _) rfl (fun K hK => ?_) ?_
    · go_simp
      refine hK.out _ _ (HS.out _ (B0.out.alloc B0.out.size _)) (fun hHeld => ?_)
      clear hK K
      (try simp only [Act.put, List.setIfInBounds_toArray, List.set_cons_zero, List.set_cons_succ, List.getElem_toArray, List.getElem_cons_zero, List.getElem_cons_succ])
      have fM := heap_alloc_new X0 (.map #[] 0)
      have b1 := Lib.hid ((Below.refl X0.heap.size X0).alloc (Nat.le_refl _) (.map #[] 0))
      have t1 : (X0.alloc (.map #[] 0)).heap.size = X0.heap.size + 1 := by simp
      obtain ⟨X1, e1⟩ : ∃ Y, X0.alloc (.map #[] 0) = Y := ⟨_, rfl⟩
      rw [e1] at fM b1 t1 hHeld ⊢
      clear e1
      have s1 := Lib.hid t1
      clear t1
      have B1 := Lib.hid (B0.out.trans (b1.out.mono B0.out.size))
      refine wpAnyH_ready (rs := [8, 16]) (by kernel_rfl) (by simp) ?_
      refine AllReadyH.cons (o := _) rfl (fun K hK => ?_) ?_
      · go_simp
        go_at_call 29
        have cc := clone_any g 0 c ds X1 (HR.out _ B1.out) hdn hdl hdb
        rw [hds] at cc
        refine cc.mono ?_
        clear cc
        rintro e X2 ⟨g', cap', rfl, hRow, hge, hbl⟩
        have b2 := Lib.hid hbl
        have R := Lib.hid hRow
        have B2 := Lib.hid (B1.out.trans (b2.out.mono B1.out.size))
        clear hbl hRow
        refine hK.out _ _ (HS.out _ B2.out) (fun hHeld => ?_)
        clear hK K
        (try simp only [Act.put, List.setIfInBounds_toArray, List.set_cons_zero, List.set_cons_succ, List.getElem_toArray, List.getElem_cons_zero, List.getElem_cons_succ])
        refine wpAnyH_take (i := 14) (oi := _) (v := ?_) rfl (by kernel_rfl) (by kernel_rfl) (by kernel_rfl) (fun _ _ _ h => nomatch h.1) (Or.inl ⟨by rfl, ?_⟩) (by assumption) ?_
        rotate_left
        · intro w hSw
          try dsimp only at hSw
          go_simp
          try with_reducible rfl
        (try simp only [Act.put, List.setIfInBounds_toArray, List.set_cons_zero, List.set_cons_succ, List.getElem_toArray, List.getElem_cons_zero, List.getElem_cons_succ])
        refine wpAnyH_ready (rs := [15, 16]) (by kernel_rfl) (by simp) ?_
        refine AllReadyH.cons (o := _) rfl (fun K hK => ?_) ?_
        · go_simp
          refine hK.out _ _ (HS.out _ (B2.out.alloc B2.out.size _)) (fun hHeld => ?_)
          clear hK K
          (try simp only [Act.put, List.setIfInBounds_toArray, List.set_cons_zero, List.set_cons_succ, List.getElem_toArray, List.getElem_cons_zero, List.getElem_cons_succ])
          have fB := heap_alloc_new X2 (.cells #[.int .i64 (M.left : Int), .bool M.down, .slice (some ⟨g', 0, none⟩) M.n cap', .map (some X0.heap.size), .int .u64 (M.wr : Int)] 58)
          have b3 := Lib.hid ((Below.refl X2.heap.size X2).alloc (Nat.le_refl _) (.cells #[.int .i64 (M.left : Int), .bool M.down, .slice (some ⟨g', 0, none⟩) M.n cap', .map (some X0.heap.size), .int .u64 (M.wr : Int)] 58))
          have t3 : (X2.alloc (.cells #[.int .i64 (M.left : Int), .bool M.down, .slice (some ⟨g', 0, none⟩) M.n cap', .map (some X0.heap.size), .int .u64 (M.wr : Int)] 58)).heap.size = X2.heap.size + 1 := by simp
          obtain ⟨X3, e3⟩ : ∃ Y, X2.alloc (.cells #[.int .i64 (M.left : Int), .bool M.down, .slice (some ⟨g', 0, none⟩) M.n cap', .map (some X0.heap.size), .int .u64 (M.wr : Int)] 58) = Y := ⟨_, rfl⟩
          rw [e3] at fB b3 t3 hHeld ⊢
          clear e3
          have s3 := Lib.hid t3
          clear t3
          have B3 := Lib.hid (B2.out.trans (b3.out.mono B2.out.size))
          refine wpAnyH_ready (rs := [16]) (by kernel_rfl) (by simp) ?_
          refine AllReadyH.cons (o := _) rfl (fun K hK => ?_) ?_
          · go_simp
            refine hK.out _ _ (HS.out _ (B3.out.alloc B3.out.size _)) (fun hHeld => ?_)
            clear hK K
            (try simp only [Act.put, List.setIfInBounds_toArray, List.set_cons_zero, List.set_cons_succ, List.getElem_toArray, List.getElem_cons_zero, List.getElem_cons_succ])
            have fA := heap_alloc_new X3 (.cells #[.pointer none] 25)
            have b4 := Lib.hid ((Below.refl X3.heap.size X3).alloc (Nat.le_refl _) (.cells #[.pointer none] 25))
            have t4 : (X3.alloc (.cells #[.pointer none] 25)).heap.size = X3.heap.size + 1 := by simp
            obtain ⟨X4, e4⟩ : ∃ Y, X3.alloc (.cells #[.pointer none] 25) = Y := ⟨_, rfl⟩
            rw [e4] at fA b4 t4 hHeld ⊢
            clear e4
            have s4 := Lib.hid t4
            clear t4
            have B4 := Lib.hid (B3.out.trans (b4.out.mono B3.out.size))
            have z1 := b1.out.size
            have z2 := b2.out.size
            have z3 := b3.out.size
            have z4 := b4.out.size
            have y1 := s1.out
            have y4 := s4.out
            have y3 := s3.out
            have fM := ((Later b2.out (Later b3.out b4.out)).block _ (by omega)).trans fM
            have fB := (b4.out.block _ (by omega)).trans fB
            have hRg := R.out.own (by intro h0; rw [h0] at hds; simp at hds; omega)
            obtain ⟨kq, hkq, hkl⟩ := hRg
            have hgl : g' < X2.heap.size := by cases hkq; exact hkl
            clear hkq hkl
            have hRow := R.out.kept fun k hk => (Later b3.out b4.out).block k (by cases hk; exact hgl)
            have z0 := B0.out.size
            have hpc : X4.cell? ⟨X3.heap.size, 0, none⟩ = some (.pointer none) := cell_of_row _ _ 0 _ _ _ fA
            have hpf : X4.frozen? ⟨X3.heap.size, 0, none⟩ = false := frozen_of_row _ _ 0 _ _ fA
            have hBt := built_of (W := W) (M := M) (X := X4) (g' := g') (cap' := cap') B4.out fB fA fM hRow hdd (by omega) (by omega) (by omega) (by omega) (by omega) (by omega) (by omega) (by omega) (by omega) (by omega) (by omega)
            have HBt := Lib.hid hBt
            clear hBt y1 y4 y3
            refine wpAnyH_ready (rs := [17]) (by kernel_rfl) (by simp) ?_
            refine AllReadyH.cons (o := _) rfl (fun K hK => ?_) AllReadyH.nil
            go_simp
            refine hK.out _ _ (HS.out _ HBt.out.below) (fun hHeld => ?_)
            clear hK K
            (try simp only [Act.put, List.setIfInBounds_toArray, List.set_cons_zero, List.set_cons_succ, List.getElem_toArray, List.getElem_cons_zero, List.getElem_cons_succ])
            refine wpAnyH_done (by kernel_rfl) ?_ _
            exact ⟨rfl, _, _, ⟨_, _, _, _, _, _, _, _, _, _, _, _, _, _, _, _, rfl⟩, HBt.out⟩
          exact AllReadyH.nil
        refine AllReadyH.cons (o := _) rfl (fun K hK => ?_) ?_
        · go_simp
          refine hK.out _ _ (HS.out _ (B2.out.alloc B2.out.size _)) (fun hHeld => ?_)
          clear hK K
          (try simp only [Act.put, List.setIfInBounds_toArray, List.set_cons_zero, List.set_cons_succ, List.getElem_toArray, List.getElem_cons_zero, List.getElem_cons_succ])
          have fA := heap_alloc_new X2 (.cells #[.pointer none] 25)
          have b3 := Lib.hid ((Below.refl X2.heap.size X2).alloc (Nat.le_refl _) (.cells #[.pointer none] 25))
          have t3 : (X2.alloc (.cells #[.pointer none] 25)).heap.size = X2.heap.size + 1 := by simp
          obtain ⟨X3, e3⟩ : ∃ Y, X2.alloc (.cells #[.pointer none] 25) = Y := ⟨_, rfl⟩
          rw [e3] at fA b3 t3 hHeld ⊢
          clear e3
          have s3 := Lib.hid t3
          clear t3
          have B3 := Lib.hid (B2.out.trans (b3.out.mono B2.out.size))
          refine wpAnyH_ready (rs := [15]) (by kernel_rfl) (by simp) ?_
          refine AllReadyH.cons (o := _) rfl (fun K hK => ?_) ?_
          · go_simp
            refine hK.out _ _ (HS.out _ (B3.out.alloc B3.out.size _)) (fun hHeld => ?_)
            clear hK K
            (try simp only [Act.put, List.setIfInBounds_toArray, List.set_cons_zero, List.set_cons_succ, List.getElem_toArray, List.getElem_cons_zero, List.getElem_cons_succ])
            have fB := heap_alloc_new X3 (.cells #[.int .i64 (M.left : Int), .bool M.down, .slice (some ⟨g', 0, none⟩) M.n cap', .map (some X0.heap.size), .int .u64 (M.wr : Int)] 58)
            have b4 := Lib.hid ((Below.refl X3.heap.size X3).alloc (Nat.le_refl _) (.cells #[.int .i64 (M.left : Int), .bool M.down, .slice (some ⟨g', 0, none⟩) M.n cap', .map (some X0.heap.size), .int .u64 (M.wr : Int)] 58))
            have t4 : (X3.alloc (.cells #[.int .i64 (M.left : Int), .bool M.down, .slice (some ⟨g', 0, none⟩) M.n cap', .map (some X0.heap.size), .int .u64 (M.wr : Int)] 58)).heap.size = X3.heap.size + 1 := by simp
            obtain ⟨X4, e4⟩ : ∃ Y, X3.alloc (.cells #[.int .i64 (M.left : Int), .bool M.down, .slice (some ⟨g', 0, none⟩) M.n cap', .map (some X0.heap.size), .int .u64 (M.wr : Int)] 58) = Y := ⟨_, rfl⟩
            rw [e4] at fB b4 t4 hHeld ⊢
            clear e4
            have s4 := Lib.hid t4
            clear t4
            have B4 := Lib.hid (B3.out.trans (b4.out.mono B3.out.size))
            have z1 := b1.out.size
            have z2 := b2.out.size
            have z3 := b3.out.size
            have z4 := b4.out.size
            have y1 := s1.out
            have y3 := s3.out
            have y4 := s4.out
            have fA := (b4.out.block _ (by omega)).trans fA
            have fM := ((Later b2.out (Later b3.out b4.out)).block _ (by omega)).trans fM
            have hRg := R.out.own (by intro h0; rw [h0] at hds; simp at hds; omega)
            obtain ⟨kq, hkq, hkl⟩ := hRg
            have hgl : g' < X2.heap.size := by cases hkq; exact hkl
            clear hkq hkl
            have hRow := R.out.kept fun k hk => (Later b3.out b4.out).block k (by cases hk; exact hgl)
            have z0 := B0.out.size
            have hpc : X4.cell? ⟨X2.heap.size, 0, none⟩ = some (.pointer none) := cell_of_row _ _ 0 _ _ _ fA
            have hpf : X4.frozen? ⟨X2.heap.size, 0, none⟩ = false := frozen_of_row _ _ 0 _ _ fA
            have hBt := built_of (W := W) (M := M) (X := X4) (g' := g') (cap' := cap') B4.out fB fA fM hRow hdd (by omega) (by omega) (by omega) (by omega) (by omega) (by omega) (by omega) (by omega) (by omega) (by omega) (by omega)
            have HBt := Lib.hid hBt
            clear hBt y1 y3 y4
            refine wpAnyH_ready (rs := [17]) (by kernel_rfl) (by simp) ?_
            refine AllReadyH.cons (o := _) rfl (fun K hK => ?_) AllReadyH.nil
            go_simp
            refine hK.out _ _ (HS.out _ HBt.out.below) (fun hHeld => ?_)
            clear hK K
            (try simp only [Act.put, List.setIfInBounds_toArray, List.set_cons_zero, List.set_cons_succ, List.getElem_toArray, List.getElem_cons_zero, List.getElem_cons_succ])
            refine wpAnyH_done (by kernel_rfl) ?_ _
            exact ⟨rfl, _, _, ⟨_, _, _, _, _, _, _, _, _, _, _, _, _, _, _, _, rfl⟩, HBt.out⟩
          exact AllReadyH.nil
        exact AllReadyH.nil
      refine AllReadyH.cons (o := _) rfl (fun K hK => ?_) ?_
      · go_simp
        refine hK.out _ _ (HS.out _ (B1.out.alloc B1.out.size _)) (fun hHeld => ?_)
        clear hK K
        (try simp only [Act.put, List.setIfInBounds_toArray, List.set_cons_zero, List.set_cons_succ, List.getElem_toArray, List.getElem_cons_zero, List.getElem_cons_succ])
        have fA := heap_alloc_new X1 (.cells #[.pointer none] 25)
        have b2 := Lib.hid ((Below.refl X1.heap.size X1).alloc (Nat.le_refl _) (.cells #[.pointer none] 25))
        have t2 : (X1.alloc (.cells #[.pointer none] 25)).heap.size = X1.heap.size + 1 := by simp
        obtain ⟨X2, e2⟩ : ∃ Y, X1.alloc (.cells #[.pointer none] 25) = Y := ⟨_, rfl⟩
        rw [e2] at fA b2 t2 hHeld ⊢
        clear e2
        have s2 := Lib.hid t2
        clear t2
        have B2 := Lib.hid (B1.out.trans (b2.out.mono B1.out.size))
        refine wpAnyH_ready (rs := [8]) (by kernel_rfl) (by simp) ?_
        refine AllReadyH.cons (o := _) rfl (fun K hK => ?_) ?_
        · go_simp
          go_at_call 29
          have cc := clone_any g 0 c ds X2 (HR.out _ B2.out) hdn hdl hdb
          rw [hds] at cc
          refine cc.mono ?_
          clear cc
          rintro e X3 ⟨g', cap', rfl, hRow, hge, hbl⟩
          have b3 := Lib.hid hbl
          have R := Lib.hid hRow
          have B3 := Lib.hid (B2.out.trans (b3.out.mono B2.out.size))
          clear hbl hRow
          refine hK.out _ _ (HS.out _ B3.out) (fun hHeld => ?_)
          clear hK K
          (try simp only [Act.put, List.setIfInBounds_toArray, List.set_cons_zero, List.set_cons_succ, List.getElem_toArray, List.getElem_cons_zero, List.getElem_cons_succ])
          refine wpAnyH_take (i := 14) (oi := _) (v := ?_) rfl (by kernel_rfl) (by kernel_rfl) (by kernel_rfl) (fun _ _ _ h => nomatch h.1) (Or.inl ⟨by rfl, ?_⟩) (by assumption) ?_
          rotate_left
          · intro w hSw
            try dsimp only at hSw
            go_simp
            try with_reducible rfl
          (try simp only [Act.put, List.setIfInBounds_toArray, List.set_cons_zero, List.set_cons_succ, List.getElem_toArray, List.getElem_cons_zero, List.getElem_cons_succ])
          refine wpAnyH_ready (rs := [15]) (by kernel_rfl) (by simp) ?_
          refine AllReadyH.cons (o := _) rfl (fun K hK => ?_) ?_
          · go_simp
            refine hK.out _ _ (HS.out _ (B3.out.alloc B3.out.size _)) (fun hHeld => ?_)
            clear hK K
            (try simp only [Act.put, List.setIfInBounds_toArray, List.set_cons_zero, List.set_cons_succ, List.getElem_toArray, List.getElem_cons_zero, List.getElem_cons_succ])
            have fB := heap_alloc_new X3 (.cells #[.int .i64 (M.left : Int), .bool M.down, .slice (some ⟨g', 0, none⟩) M.n cap', .map (some X0.heap.size), .int .u64 (M.wr : Int)] 58)
            have b4 := Lib.hid ((Below.refl X3.heap.size X3).alloc (Nat.le_refl _) (.cells #[.int .i64 (M.left : Int), .bool M.down, .slice (some ⟨g', 0, none⟩) M.n cap', .map (some X0.heap.size), .int .u64 (M.wr : Int)] 58))
            have t4 : (X3.alloc (.cells #[.int .i64 (M.left : Int), .bool M.down, .slice (some ⟨g', 0, none⟩) M.n cap', .map (some X0.heap.size), .int .u64 (M.wr : Int)] 58)).heap.size = X3.heap.size + 1 := by simp
            obtain ⟨X4, e4⟩ : ∃ Y, X3.alloc (.cells #[.int .i64 (M.left : Int), .bool M.down, .slice (some ⟨g', 0, none⟩) M.n cap', .map (some X0.heap.size), .int .u64 (M.wr : Int)] 58) = Y := ⟨_, rfl⟩
            rw [e4] at fB b4 t4 hHeld ⊢
            clear e4
            have s4 := Lib.hid t4
            clear t4
            have B4 := Lib.hid (B3.out.trans (b4.out.mono B3.out.size))
            have z1 := b1.out.size
            have z2 := b2.out.size
            have z3 := b3.out.size
            have z4 := b4.out.size
            have y1 := s1.out
            have y2 := s2.out
            have y4 := s4.out
            have fA := ((Later b3.out b4.out).block _ (by omega)).trans fA
            have fM := ((Later b2.out (Later b3.out b4.out)).block _ (by omega)).trans fM
            have hRg := R.out.own (by intro h0; rw [h0] at hds; simp at hds; omega)
            obtain ⟨kq, hkq, hkl⟩ := hRg
            have hgl : g' < X3.heap.size := by cases hkq; exact hkl
            clear hkq hkl
            have hRow := R.out.kept fun k hk => b4.out.block k (by cases hk; exact hgl)
            have z0 := B0.out.size
            have hpc : X4.cell? ⟨X1.heap.size, 0, none⟩ = some (.pointer none) := cell_of_row _ _ 0 _ _ _ fA
            have hpf : X4.frozen? ⟨X1.heap.size, 0, none⟩ = false := frozen_of_row _ _ 0 _ _ fA
            have hBt := built_of (W := W) (M := M) (X := X4) (g' := g') (cap' := cap') B4.out fB fA fM hRow hdd (by omega) (by omega) (by omega) (by omega) (by omega) (by omega) (by omega) (by omega) (by omega) (by omega) (by omega)
            have HBt := Lib.hid hBt
            clear hBt y1 y2 y4
            refine wpAnyH_ready (rs := [17]) (by kernel_rfl) (by simp) ?_
            refine AllReadyH.cons (o := _) rfl (fun K hK => ?_) AllReadyH.nil
            go_simp
            refine hK.out _ _ (HS.out _ HBt.out.below) (fun hHeld => ?_)
            clear hK K
            (try simp only [Act.put, List.setIfInBounds_toArray, List.set_cons_zero, List.set_cons_succ, List.getElem_toArray, List.getElem_cons_zero, List.getElem_cons_succ])
            refine wpAnyH_done (by kernel_rfl) ?_ _
            exact ⟨rfl, _, _, ⟨_, _, _, _, _, _, _, _, _, _, _, _, _, _, _, _, rfl⟩, HBt.out⟩
          exact AllReadyH.nil
        exact AllReadyH.nil
      exact AllReadyH.nil
    refine AllReadyH.cons (o := _) rfl (fun K hK => ?_) ?_
    · go_simp
      refine hK.out _ _ (HS.out _ (B0.out.alloc B0.out.size _)) (fun hHeld => ?_)
      clear hK K
      (try simp only [Act.put, List.setIfInBounds_toArray, List.set_cons_zero, List.set_cons_succ, List.getElem_toArray, List.getElem_cons_zero, List.getElem_cons_succ])
      have fA := heap_alloc_new X0 (.cells #[.pointer none] 25)
      have b1 := Lib.hid ((Below.refl X0.heap.size X0).alloc (Nat.le_refl _) (.cells #[.pointer none] 25))
      have t1 : (X0.alloc (.cells #[.pointer none] 25)).heap.size = X0.heap.size + 1 := by simp
      obtain ⟨X1, e1⟩ : ∃ Y, X0.alloc (.cells #[.pointer none] 25) = Y := ⟨_, rfl⟩
      rw [e1] at fA b1 t1 hHeld ⊢
      clear e1
      have s1 := Lib.hid t1
      clear t1
      have B1 := Lib.hid (B0.out.trans (b1.out.mono B0.out.size))
      refine wpAnyH_ready (rs := [8, 9]) (by kernel_rfl) (by simp) ?_
      refine AllReadyH.cons (o := _) rfl (fun K hK => ?_) ?_
      · go_simp
        go_at_call 29
        have cc := clone_any g 0 c ds X1 (HR.out _ B1.out) hdn hdl hdb
        rw [hds] at cc
        refine cc.mono ?_
        clear cc
        rintro e X2 ⟨g', cap', rfl, hRow, hge, hbl⟩
        have b2 := Lib.hid hbl
        have R := Lib.hid hRow
        have B2 := Lib.hid (B1.out.trans (b2.out.mono B1.out.size))
        clear hbl hRow
        refine hK.out _ _ (HS.out _ B2.out) (fun hHeld => ?_)
        clear hK K
        (try simp only [Act.put, List.setIfInBounds_toArray, List.set_cons_zero, List.set_cons_succ, List.getElem_toArray, List.getElem_cons_zero, List.getElem_cons_succ])
        refine wpAnyH_ready (rs := [9]) (by kernel_rfl) (by simp) ?_
        refine AllReadyH.cons (o := _) rfl (fun K hK => ?_) ?_
        · go_simp
          refine hK.out _ _ (HS.out _ (B2.out.alloc B2.out.size _)) (fun hHeld => ?_)
          clear hK K
          (try simp only [Act.put, List.setIfInBounds_toArray, List.set_cons_zero, List.set_cons_succ, List.getElem_toArray, List.getElem_cons_zero, List.getElem_cons_succ])
          have fM := heap_alloc_new X2 (.map #[] 0)
          have b3 := Lib.hid ((Below.refl X2.heap.size X2).alloc (Nat.le_refl _) (.map #[] 0))
          have t3 : (X2.alloc (.map #[] 0)).heap.size = X2.heap.size + 1 := by simp
          obtain ⟨X3, e3⟩ : ∃ Y, X2.alloc (.map #[] 0) = Y := ⟨_, rfl⟩
          rw [e3] at fM b3 t3 hHeld ⊢
          clear e3
          have s3 := Lib.hid t3
          clear t3
          have B3 := Lib.hid (B2.out.trans (b3.out.mono B2.out.size))
          refine wpAnyH_take (i := 14) (oi := _) (v := ?_) rfl (by kernel_rfl) (by kernel_rfl) (by kernel_rfl) (fun _ _ _ h => nomatch h.1) (Or.inl ⟨by rfl, ?_⟩) (by assumption) ?_
          rotate_left
          · intro w hSw
            try dsimp only at hSw
            go_simp
            try with_reducible rfl
          (try simp only [Act.put, List.setIfInBounds_toArray, List.set_cons_zero, List.set_cons_succ, List.getElem_toArray, List.getElem_cons_zero, List.getElem_cons_succ])
          refine wpAnyH_ready (rs := [15]) (by kernel_rfl) (by simp) ?_
          refine AllReadyH.cons (o := _) rfl (fun K hK => ?_) ?_
          · go_simp
            refine hK.out _ _ (HS.out _ (B3.out.alloc B3.out.size _)) (fun hHeld => ?_)
            clear hK K
            (try simp only [Act.put, List.setIfInBounds_toArray, List.set_cons_zero, List.set_cons_succ, List.getElem_toArray, List.getElem_cons_zero, List.getElem_cons_succ])
            have fB := heap_alloc_new X3 (.cells #[.int .i64 (M.left : Int), .bool M.down, .slice (some ⟨g', 0, none⟩) M.n cap', .map (some X2.heap.size), .int .u64 (M.wr : Int)] 58)
            have b4 := Lib.hid ((Below.refl X3.heap.size X3).alloc (Nat.le_refl _) (.cells #[.int .i64 (M.left : Int), .bool M.down, .slice (some ⟨g', 0, none⟩) M.n cap', .map (some X2.heap.size), .int .u64 (M.wr : Int)] 58))
            have t4 : (X3.alloc (.cells #[.int .i64 (M.left : Int), .bool M.down, .slice (some ⟨g', 0, none⟩) M.n cap', .map (some X2.heap.size), .int .u64 (M.wr : Int)] 58)).heap.size = X3.heap.size + 1 := by simp
            obtain ⟨X4, e4⟩ : ∃ Y, X3.alloc (.cells #[.int .i64 (M.left : Int), .bool M.down, .slice (some ⟨g', 0, none⟩) M.n cap', .map (some X2.heap.size), .int .u64 (M.wr : Int)] 58) = Y := ⟨_, rfl⟩
            rw [e4] at fB b4 t4 hHeld ⊢
            clear e4
            have s4 := Lib.hid t4
            clear t4
            have B4 := Lib.hid (B3.out.trans (b4.out.mono B3.out.size))
            have z1 := b1.out.size
            have z2 := b2.out.size
            have z3 := b3.out.size
            have z4 := b4.out.size
            have y3 := s3.out
            have y1 := s1.out
            have y4 := s4.out
            have fA := ((Later b2.out (Later b3.out b4.out)).block _ (by omega)).trans fA
            have fM := (b4.out.block _ (by omega)).trans fM
            have hRg := R.out.own (by intro h0; rw [h0] at hds; simp at hds; omega)
            obtain ⟨kq, hkq, hkl⟩ := hRg
            have hgl : g' < X2.heap.size := by cases hkq; exact hkl
            clear hkq hkl
            have hRow := R.out.kept fun k hk => (Later b3.out b4.out).block k (by cases hk; exact hgl)
            have z0 := B0.out.size
            have hpc : X4.cell? ⟨X0.heap.size, 0, none⟩ = some (.pointer none) := cell_of_row _ _ 0 _ _ _ fA
            have hpf : X4.frozen? ⟨X0.heap.size, 0, none⟩ = false := frozen_of_row _ _ 0 _ _ fA
            have hBt := built_of (W := W) (M := M) (X := X4) (g' := g') (cap' := cap') B4.out fB fA fM hRow hdd (by omega) (by omega) (by omega) (by omega) (by omega) (by omega) (by omega) (by omega) (by omega) (by omega) (by omega)
            have HBt := Lib.hid hBt
            clear hBt y3 y1 y4
            refine wpAnyH_ready (rs := [17]) (by kernel_rfl) (by simp) ?_
            refine AllReadyH.cons (o := _) rfl (fun K hK => ?_) AllReadyH.nil
            go_simp
            refine hK.out _ _ (HS.out _ HBt.out.below) (fun hHeld => ?_)
            clear hK K
            (try simp only [Act.put, List.setIfInBounds_toArray, List.set_cons_zero, List.set_cons_succ, List.getElem_toArray, List.getElem_cons_zero, List.getElem_cons_succ])
            refine wpAnyH_done (by kernel_rfl) ?_ _
            exact ⟨rfl, _, _, ⟨_, _, _, _, _, _, _, _, _, _, _, _, _, _, _, _, rfl⟩, HBt.out⟩
          exact AllReadyH.nil
        exact AllReadyH.nil
      refine AllReadyH.cons (o := _) rfl (fun K hK => ?_) ?_
      · go_simp
        refine hK.out _ _ (HS.out _ (B1.out.alloc B1.out.size _)) (fun hHeld => ?_)
        clear hK K
        (try simp only [Act.put, List.setIfInBounds_toArray, List.set_cons_zero, List.set_cons_succ, List.getElem_toArray, List.getElem_cons_zero, List.getElem_cons_succ])
        have fM := heap_alloc_new X1 (.map #[] 0)
        have b2 := Lib.hid ((Below.refl X1.heap.size X1).alloc (Nat.le_refl _) (.map #[] 0))
        have t2 : (X1.alloc (.map #[] 0)).heap.size = X1.heap.size + 1 := by simp
        obtain ⟨X2, e2⟩ : ∃ Y, X1.alloc (.map #[] 0) = Y := ⟨_, rfl⟩
        rw [e2] at fM b2 t2 hHeld ⊢
        clear e2
        have s2 := Lib.hid t2
        clear t2
        have B2 := Lib.hid (B1.out.trans (b2.out.mono B1.out.size))
        refine wpAnyH_ready (rs := [8]) (by kernel_rfl) (by simp) ?_
        refine AllReadyH.cons (o := _) rfl (fun K hK => ?_) ?_
        · go_simp
          go_at_call 29
          have cc := clone_any g 0 c ds X2 (HR.out _ B2.out) hdn hdl hdb
          rw [hds] at cc
          refine cc.mono ?_
          clear cc
          rintro e X3 ⟨g', cap', rfl, hRow, hge, hbl⟩
          have b3 := Lib.hid hbl
          have R := Lib.hid hRow
          have B3 := Lib.hid (B2.out.trans (b3.out.mono B2.out.size))
          clear hbl hRow
          refine hK.out _ _ (HS.out _ B3.out) (fun hHeld => ?_)
          clear hK K
          (try simp only [Act.put, List.setIfInBounds_toArray, List.set_cons_zero, List.set_cons_succ, List.getElem_toArray, List.getElem_cons_zero, List.getElem_cons_succ])
          refine wpAnyH_take (i := 14) (oi := _) (v := ?_) rfl (by kernel_rfl) (by kernel_rfl) (by kernel_rfl) (fun _ _ _ h => nomatch h.1) (Or.inl ⟨by rfl, ?_⟩) (by assumption) ?_
          rotate_left
          · intro w hSw
            try dsimp only at hSw
            go_simp
            try with_reducible rfl
          (try simp only [Act.put, List.setIfInBounds_toArray, List.set_cons_zero, List.set_cons_succ, List.getElem_toArray, List.getElem_cons_zero, List.getElem_cons_succ])
          refine wpAnyH_ready (rs := [15]) (by kernel_rfl) (by simp) ?_
          refine AllReadyH.cons (o := _) rfl (fun K hK => ?_) ?_
          · go_simp
            refine hK.out _ _ (HS.out _ (B3.out.alloc B3.out.size _)) (fun hHeld => ?_)
            clear hK K
            (try simp only [Act.put, List.setIfInBounds_toArray, List.set_cons_zero, List.set_cons_succ, List.getElem_toArray, List.getElem_cons_zero, List.getElem_cons_succ])
            have fB := heap_alloc_new X3 (.cells #[.int .i64 (M.left : Int), .bool M.down, .slice (some ⟨g', 0, none⟩) M.n cap', .map (some X1.heap.size), .int .u64 (M.wr : Int)] 58)
            have b4 := Lib.hid ((Below.refl X3.heap.size X3).alloc (Nat.le_refl _) (.cells #[.int .i64 (M.left : Int), .bool M.down, .slice (some ⟨g', 0, none⟩) M.n cap', .map (some X1.heap.size), .int .u64 (M.wr : Int)] 58))
            have t4 : (X3.alloc (.cells #[.int .i64 (M.left : Int), .bool M.down, .slice (some ⟨g', 0, none⟩) M.n cap', .map (some X1.heap.size), .int .u64 (M.wr : Int)] 58)).heap.size = X3.heap.size + 1 := by simp
            obtain ⟨X4, e4⟩ : ∃ Y, X3.alloc (.cells #[.int .i64 (M.left : Int), .bool M.down, .slice (some ⟨g', 0, none⟩) M.n cap', .map (some X1.heap.size), .int .u64 (M.wr : Int)] 58) = Y := ⟨_, rfl⟩
            rw [e4] at fB b4 t4 hHeld ⊢
            clear e4
            have s4 := Lib.hid t4
            clear t4
            have B4 := Lib.hid (B3.out.trans (b4.out.mono B3.out.size))
            have z1 := b1.out.size
            have z2 := b2.out.size
            have z3 := b3.out.size
            have z4 := b4.out.size
            have y2 := s2.out
            have y1 := s1.out
            have y4 := s4.out
            have fA := ((Later b2.out (Later b3.out b4.out)).block _ (by omega)).trans fA
            have fM := ((Later b3.out b4.out).block _ (by omega)).trans fM
            have hRg := R.out.own (by intro h0; rw [h0] at hds; simp at hds; omega)
            obtain ⟨kq, hkq, hkl⟩ := hRg
            have hgl : g' < X3.heap.size := by cases hkq; exact hkl
            clear hkq hkl
            have hRow := R.out.kept fun k hk => b4.out.block k (by cases hk; exact hgl)
            have z0 := B0.out.size
            have hpc : X4.cell? ⟨X0.heap.size, 0, none⟩ = some (.pointer none) := cell_of_row _ _ 0 _ _ _ fA
            have hpf : X4.frozen? ⟨X0.heap.size, 0, none⟩ = false := frozen_of_row _ _ 0 _ _ fA
            have hBt := built_of (W := W) (M := M) (X := X4) (g' := g') (cap' := cap') B4.out fB fA fM hRow hdd (by omega) (by omega) (by omega) (by omega) (by omega) (by omega) (by omega) (by omega) (by omega) (by omega) (by omega)
            have HBt := Lib.hid hBt
            clear hBt y2 y1 y4
            refine wpAnyH_ready (rs := [17]) (by kernel_rfl) (by simp) ?_
            refine AllReadyH.cons (o := _) rfl (fun K hK => ?_) AllReadyH.nil
            go_simp
            refine hK.out _ _ (HS.out _ HBt.out.below) (fun hHeld => ?_)
            clear hK K
            (try simp only [Act.put, List.setIfInBounds_toArray, List.set_cons_zero, List.set_cons_succ, List.getElem_toArray, List.getElem_cons_zero, List.getElem_cons_succ])
            refine wpAnyH_done (by kernel_rfl) ?_ _
            exact ⟨rfl, _, _, ⟨_, _, _, _, _, _, _, _, _, _, _, _, _, _, _, _, rfl⟩, HBt.out⟩
          exact AllReadyH.nil
        exact AllReadyH.nil
      exact AllReadyH.nil
    exact AllReadyH.nil
  case rest =>
    rintro e a' V ⟨rfl, nb, p, ⟨u8, u9, u10, u11, u12, u13, u14, u15, u16, u17, u18, u19, u20, u21, u22, u23, rfl⟩, hBt⟩
    have HBt := Lib.hid hBt
    clear hBt
    gi_wp2_with fail
    refine ⟨trivial, (callsIn_wide.2 (loose_any _ _)).mono ?_⟩
    rintro e w2 ⟨rfl, rfl⟩
    gi_wp2_with fail
    obtain ⟨g', cap', m', hh, hr, hm, l1, l2, n1, n2, n3, n4, n5, lg, lm⟩ := HBt.out.parts
    have hpge := HBt.out.pge
    have hpb := HBt.out.pb
    have hplt := HBt.out.plt
    have hbge := HBt.out.bge
    have hblt := HBt.out.blt
    have hbel := HBt.out.below
    have hWV : W.heap.size ≤ V.heap.size := hbel.size
    obtain ⟨W0, hW0⟩ : ∃ W0, V.alloc (.cells #[devp b] 25) = W0 := ⟨_, rfl⟩
    have hs0 : W0.heap.size = V.heap.size + 1 := by rw [← hW0]; simp
    have hb0 : Below V.heap.size V W0 := by rw [← hW0]; exact (Below.refl _ V).alloc (Nat.le_refl _) _
    have hbd : W0.cell? ⟨V.heap.size, 0, none⟩ = some (devp b) := by rw [← hW0]; exact cell_new_l V _ _
    rw [hW0]
    have hS : ∀ k, S k → k < W.heap.size := fun k hk => HI.out.lt k hk
    have hstart : CopyI S W b g c m vals M V.heap.size nb p g' cap' m' 0 W0 := by
      have hd := (new_none HI.out.fine hh hr hm n1 n2 n3 lg lm hblt).kept hb0.size (fun k hk => hb0.block k (by rcases hk with rfl | rfl | rfl <;> assumption))
      refine ⟨HI.out.kept (Nat.le_trans hWV hb0.size) (fun k hk => (hb0.block k (by have := hS k hk; omega)).trans (hbel.block k (hS k hk))), ⟨_, _, (by rw [List.take_zero]; exact hd), fun k hk => ?_⟩, (cell_same 0 (hb0.block p hplt)).trans HBt.out.box, hbd, hbel.trans (hb0.mono hWV)⟩
      rcases hk with rfl | rfl | rfl
      · exact ⟨by omega, by omega, by omega⟩
      · exact ⟨by omega, by omega, by omega⟩
      · exact ⟨by omega, by omega, by omega⟩
    have HStart := Lib.hid hstart
    clear hstart hh hr hm hW0
    refine range_told (n := 8) (by decide) (gf := 30) (lb := #[.pointer (some ⟨V.heap.size, 0, none⟩)]) rfl (enters_of Try.func30 (by kernel_rfl) rfl) M.loose.length
      (fun j args X => ∃ v, args = #[.int .i64 ((M.loose.getD j 0 : Nat) : Int), v] ∧ (Instr.lookup 54 (.map (some m)) (.int .i64 ((M.loose.getD j 0 : Nat) : Int)) false).run Try.prog X = .ok v X)
      (fun _ j X => CopyI S W b g c m vals M V.heap.size nb p g' cap' m' j X) ?hit ?h0 ?hput
      (fun _ j a' X => CopyI S W b g c m vals M V.heap.size nb p g' cap' m' j X ∧ ∃ Br A cap, a' = { tmps := #[devp b, undef, .pointer none, .pointer (some ⟨p, 0, none⟩), .int .i64 ((M.loose.getD j 0 : Nat) : Int), .pointer (some ⟨Br, 0, none⟩), devp b, .bool false, u8, u9, u10, u11, u12, u13, u14, u15, u16, u17, u18, u19, u20, u21, u22, u23, devp b, .func (.func 30) #[] #[.pointer (some ⟨V.heap.size, 0, none⟩)], .int .i64 ((M.loose.getD j 0 : Nat) : Int), .agg #[.slice A (M.row (M.loose.getD j 0)).length cap], undef, undef, undef, undef, undef, undef, undef, undef, undef, undef], defers := [] } ∧
        W0.heap.size + 2 ≤ Br ∧ X.cell? ⟨Br, 0, none⟩ = some (.slice A (M.row (M.loose.getD j 0)).length cap) ∧ .slice A (M.row (M.loose.getD j 0)).length cap = vals (M.loose.getD j 0)) ?hAx ?hassign ?hbody ?hdone
    case hit =>
      intro l J X hJI hst hrd hb
      have hV := HStart.out.under hb
      refine loose1_in l V.heap.size b m M.n (entry M.row vals) X hV.bd hV.orig.head.c3 hV.orig.ro.map HI.out.fine.n M.loose (M.loose_keys vals) J (fun p j V' hJ => ⟨(hJI p j V' hJ).bd, (hJI p j V' hJ).orig.head.c3⟩) hst ?_
      intro p j hj V1 hJ
      have hD := hJI p j V1 hJ
      have hget : M.loose.getD j 0 = M.loose[j] := by rw [List.getD_eq_getElem?_getD, List.getElem?_eq_getElem hj]; rfl
      have hmem := (Dv.mem_loose (M := M)).1 (List.getElem_mem hj)
      obtain ⟨A, cap, hl, _⟩ := look_row hD.orig M.loose[j] hmem.1
      refine ⟨_, hl, hrd p j hj _ V1 hJ ⟨_, by rw [hget], by rw [hget]; exact hl⟩⟩
    case h0 =>
      intro p V hb _ _
      exact HStart.out.under hb
    case hput =>
      intro p j X l o h1 h2 h
      exact h.put hS hplt hWV l o (by omega) (by omega)
    case hAx =>
      rintro p j a' X l o h1 h2 ⟨hD, Br, A, cap, rfl, hBr, hcell, hv⟩
      exact ⟨hD.put hS hplt hWV l o (by omega) (by omega), Br, A, cap, rfl, hBr, (cell_same 0 (World.putObj_heap_other (by omega))).trans hcell, hv⟩
    case hassign =>
      rintro l p j args X hj hp1 hp2 hD ⟨v, rfl, hlk⟩
      refine ⟨rfl, ?_⟩
      have hget : M.loose.getD j 0 = M.loose[j] := by rw [List.getD_eq_getElem?_getD, List.getElem?_eq_getElem hj]; rfl
      have hmem := (Dv.mem_loose (M := M)).1 (List.getElem_mem hj)
      obtain ⟨A, cap, hl, hor⟩ := look_row hD.orig M.loose[j] hmem.1
      have hvv : .slice A (M.row M.loose[j]).length cap = vals M.loose[j] := by
        rcases hor with h | h
        · exact absurd h.1 hmem.2
        · exact h.2
      rw [hget] at hlk ⊢
      have hv : v = .agg #[.slice A (M.row M.loose[j]).length cap] := by
        rw [hl] at hlk; injection hlk with h1 h2; exact h1.symm
      subst hv
      have HD := Lib.hid hD
      have Hvv := Lib.hid hvv
      have hX : W0.heap.size ≤ X.heap.size := by omega
      clear hD hlk hl hget hmem hvv hor HBt HStart HI HR HS
      generalize (M.row M.loose[j]).length = q at Hvv
      generalize vals M.loose[j] = vv at Hvv
      generalize M.loose[j] = x
      clear hdd hds hdn hdl hn4 hdb l1 l2 n1 n2 n3 n4 n5 lg lm hpge hpb hbge hblt hS
      gi_wp2
      have hbl : Below X.heap.size X (X.alloc (.cells #[.slice A q cap] 62)) := (Below.refl _ X).alloc (Nat.le_refl _) _
      exact ⟨KeepB.below hbl (by omega) hp2, HD.out.under hbl, X.heap.size, A, cap, rfl, by omega, cell_new_l X _ _, Hvv.out⟩
    case hbody =>
      rintro l pi j a' X hj hp1 hp2 ⟨hD, Br, A, cap, rfl, hBr, hcell, hv⟩
      have hget : M.loose.getD j 0 = M.loose[j] := by rw [List.getD_eq_getElem?_getD, List.getElem?_eq_getElem hj]; rfl
      have hmem := (Dv.mem_loose (M := M)).1 (List.getElem_mem hj)
      have hBrl : Br < X.heap.size := World.block_lt_of_cell? X _ hcell
      have hrow := hD.orig.ro.at_ M.loose[j] hmem.2
      rw [hget] at hcell hv ⊢
      rw [← hv] at hrow
      obtain ⟨gr, offr, capr, hse, hr1, hr2, hr3, hr4⟩ := hrow
      injection hse with e1 e2 e3
      subst e1 e3
      have hX3 : V.heap.size + 3 ≤ X.heap.size := by omega
      have hround := fun Y (hbY : Below X.heap.size X Y) v' gq h1 h2 h3 h4 => hD.round hj hS l2 lm n5 hbY v' gq h1 h2 h3 h4 hX3
      have hclone := clone_any gr offr cap (M.row M.loose[j]) X.drew hr3 hmem.2 (fun q hq => HI.out.fine.row _ q hq) (by have := HI.out.fine.rows M.loose[j]; omega)
      have hkeep : ∀ Y, Below X.heap.size X Y → Y.cell? ⟨p, 0, none⟩ = some (devp nb) ∧ Y.cell? ⟨nb, 3, none⟩ = some (.map (some m')) ∧ Y.cell? ⟨Br, 0, none⟩ = some (.slice (some ⟨gr, offr, none⟩) (M.row M.loose[j]).length cap) := fun Y hY => by
        have hu := hD.under hY
        obtain ⟨S', vals', hd, hk⟩ := hu.dev
        exact ⟨hu.box, hd.head.c3, (cell_same 0 (hY.block Br hBrl)).trans hcell⟩
      have hkeep2 : ∀ Z, (∀ k, k < X.heap.size → k ≠ m' → Z.heap[k]? = X.heap[k]?) → CopyI S W b g c m vals M V.heap.size nb p g' cap' m' (j + 1) Z → Z.cell? ⟨p, 0, none⟩ = some (devp nb) ∧ Z.cell? ⟨nb, 3, none⟩ = some (.map (some m')) ∧ Z.cell? ⟨Br, 0, none⟩ = some (.slice (some ⟨gr, offr, none⟩) (M.row M.loose[j]).length cap) := fun Z hZ hc => by
        obtain ⟨S', vals', hd, hk⟩ := hc.dev
        exact ⟨hc.box, hd.head.c3, (cell_same 0 (hZ Br hBrl (by omega))).trans hcell⟩
      have HRound := Lib.hid hround
      have HClone := Lib.hid hclone
      have HKeep := Lib.hid hkeep
      have HKeep2 := Lib.hid hkeep2
      have HQ0 := Lib.hid hmem.2
      clear hround hclone hkeep hkeep2 hr1 hr2 hr3 hr4 hv hD hcell hget hmem HBt HStart HR HS
      gi_wp2_with fail
      refine wpIn_mono (Q := fun e a' Z => e = .normal ∧ CopyI S W b g c m vals M V.heap.size nb p g' cap' m' (j + 1) Z ∧ ∀ k, k < X.heap.size → k ≠ m' → Z.heap[k]? = X.heap[k]?) ?reg ?post
      case reg =>
        generalize hq : (M.row M.loose[j]).length = q at HKeep HKeep2 HClone HRound ⊢
        refine region_round (by kernel_rfl) (noDefer_of _ (by kernel_rfl)) ?_ ?_
        · rintro ⟨_, _, h, _⟩
          cases h
        refine wpAny_of_held (S := fun Y => Y.cell? ⟨p, 0, none⟩ = some (devp nb) ∧ Y.cell? ⟨nb, 3, none⟩ = some (.map (some m')) ∧ Y.cell? ⟨Br, 0, none⟩ = some (.slice (some ⟨gr, offr, none⟩) q cap)) _ _ _ _ ?_
        have hHeld : (fun Y : World => Y.cell? ⟨p, 0, none⟩ = some (devp nb) ∧ Y.cell? ⟨nb, 3, none⟩ = some (.map (some m')) ∧ Y.cell? ⟨Br, 0, none⟩ = some (.slice (some ⟨gr, offr, none⟩) q cap)) X.drew := HKeep.out _ (Below.refl _ X).drew
        refine wpAnyH_take (i := 0) (oi := _) (v := ?_) rfl (by kernel_rfl) (by kernel_rfl) (by kernel_rfl) (fun _ _ _ h => nomatch h.1) (Or.inl ⟨by rfl, ?_⟩) (by assumption) ?_
        rotate_left
        · intro w hSw
          try dsimp only at hSw
          go_simp
          try with_reducible rfl
        (try simp only [Act.put, List.setIfInBounds_toArray, List.set_cons_zero, List.set_cons_succ, List.getElem_toArray, List.getElem_cons_zero, List.getElem_cons_succ])
        refine wpAnyH_take (i := 1) (oi := _) (v := ?_) rfl (by kernel_rfl) (by kernel_rfl) (by kernel_rfl) (fun _ _ _ h => nomatch h.1) (Or.inl ⟨by rfl, ?_⟩) (by assumption) ?_
        rotate_left
        · intro w hSw
          try dsimp only at hSw
          go_simp
          try with_reducible rfl
        (try simp only [Act.put, List.setIfInBounds_toArray, List.set_cons_zero, List.set_cons_succ, List.getElem_toArray, List.getElem_cons_zero, List.getElem_cons_succ])
        refine wpAnyH_take (i := 2) (oi := _) (v := ?_) rfl (by kernel_rfl) (by kernel_rfl) (by kernel_rfl) (fun _ _ _ h => nomatch h.1) (Or.inl ⟨by rfl, ?_⟩) (by assumption) ?_
        rotate_left
        · intro w hSw
          try dsimp only at hSw
          go_simp
          try with_reducible rfl
        (try simp only [Act.put, List.setIfInBounds_toArray, List.set_cons_zero, List.set_cons_succ, List.getElem_toArray, List.getElem_cons_zero, List.getElem_cons_succ])
        refine wpAnyH_take (i := 3) (oi := _) (v := ?_) rfl (by kernel_rfl) (by kernel_rfl) (by kernel_rfl) (fun _ _ _ h => nomatch h.1) (Or.inl ⟨by rfl, ?_⟩) (by assumption) ?_
        rotate_left
        · intro w hSw
          try dsimp only at hSw
          go_simp
          try with_reducible rfl
        (try simp only [Act.put, List.setIfInBounds_toArray, List.set_cons_zero, List.set_cons_succ, List.getElem_toArray, List.getElem_cons_zero, List.getElem_cons_succ])
        refine wpAnyH_take (i := 4) (oi := _) (v := ?_) rfl (by kernel_rfl) (by kernel_rfl) (by kernel_rfl) (fun _ _ _ h => nomatch h.1) (Or.inl ⟨by rfl, ?_⟩) (by assumption) ?_
        rotate_left
        · intro w hSw
          try dsimp only at hSw
          go_simp
          try with_reducible rfl
        (try simp only [Act.put, List.setIfInBounds_toArray, List.set_cons_zero, List.set_cons_succ, List.getElem_toArray, List.getElem_cons_zero, List.getElem_cons_succ])
        refine wpAnyH_take (i := 5) (oi := _) (v := ?_) rfl (by kernel_rfl) (by kernel_rfl) (by kernel_rfl) (fun _ _ _ h => nomatch h.1) (Or.inl ⟨by rfl, ?_⟩) (by assumption) ?_
        rotate_left
        · intro w hSw
          try dsimp only at hSw
          go_simp
          try with_reducible rfl
        (try simp only [Act.put, List.setIfInBounds_toArray, List.set_cons_zero, List.set_cons_succ, List.getElem_toArray, List.getElem_cons_zero, List.getElem_cons_succ])
        refine wpAnyH_take (i := 6) (oi := _) (v := ?_) rfl (by kernel_rfl) (by kernel_rfl) (by kernel_rfl) (fun _ _ _ h => nomatch h.1) (Or.inl ⟨by rfl, ?_⟩) (by assumption) ?_
        rotate_left
        · intro w hSw
          try dsimp only at hSw
          go_simp
          try with_reducible rfl
        (try simp only [Act.put, List.setIfInBounds_toArray, List.set_cons_zero, List.set_cons_succ, List.getElem_toArray, List.getElem_cons_zero, List.getElem_cons_succ])
        refine wpAnyH_ready (rs := [7]) (by kernel_rfl) (by simp) ?_
        refine AllReadyH.cons (o := _) rfl (fun K hK => ?_) AllReadyH.nil
        go_simp
        go_at_call 29
        refine HClone.out.mono ?_
        rintro e Y ⟨gq, capq, rfl, hRow, hge, hbl⟩
        have hgq : gq < Y.heap.size := by
          obtain ⟨k, hk1, hk2⟩ := hRow.own HQ0.out
          cases hk1
          exact hk2
        have hbY : Below X.heap.size X Y := (Below.refl X.heap.size X).drew.trans hbl
        obtain ⟨Z, hup, hNext, hZX⟩ := HRound.out Y hbY _ gq rfl hRow hge hgq
        have hrb := row_build (some ⟨gq, 0, none⟩) q capq
        have HNext := Lib.hid hNext
        have HZX := Lib.hid hZX
        refine hK.out _ _ (HKeep.out _ hbY) (fun hHeld => ?_)
        clear hK K hNext hZX hbl hge hgq hRow
        (try simp only [Act.put, List.setIfInBounds_toArray, List.set_cons_zero, List.set_cons_succ, List.getElem_toArray, List.getElem_cons_zero, List.getElem_cons_succ])
        refine wpAnyH_take (i := 8) (oi := _) (v := ?_) rfl (by kernel_rfl) (by kernel_rfl) (by kernel_rfl) (fun _ _ _ h => nomatch h.1) (Or.inl ⟨by rfl, ?_⟩) (by assumption) ?_
        rotate_left
        · intro w hSw
          try dsimp only at hSw
          go_simp
          try with_reducible rfl
        (try simp only [Act.put, List.setIfInBounds_toArray, List.set_cons_zero, List.set_cons_succ, List.getElem_toArray, List.getElem_cons_zero, List.getElem_cons_succ])
        refine wpAnyH_ready (rs := [9]) (by kernel_rfl) (by simp) ?_
        refine AllReadyH.cons (o := _) rfl (fun K hK => ?_) AllReadyH.nil
        go_simp
        refine hK.out _ _ (HKeep2.out _ HZX.out HNext.out) (fun hHeld => ?_)
        clear hK K
        (try simp only [Act.put, List.setIfInBounds_toArray, List.set_cons_zero, List.set_cons_succ, List.getElem_toArray, List.getElem_cons_zero, List.getElem_cons_succ])
        refine wpAnyH_done (by kernel_rfl) ?_ _
        exact ⟨rfl, HNext.out, HZX.out⟩
      case post =>
        rintro e a' Z ⟨rfl, hc, hZ⟩
        have HC := Lib.hid hc
        have HZ := Lib.hid hZ
        clear hc hZ HRound HClone HKeep HKeep2 HQ0
        gi_wp2
        have hc := HC.out
        have hZ := HZ.out
        exact ⟨⟨hZ _ (by omega) (by omega), hZ _ (by omega) (by omega), hZ _ hp2 (by omega)⟩, hc⟩
    case hdone =>
      intro pi X hD hK
      have hbx := hD.box
      have HD := Lib.hid hD
      clear hD
      gi_wp2
      have hP := HD.out.put hS hplt hWV W0.heap.size (.deferred none) (by omega) (by omega)
      refine ⟨by simp, .inl ⟨_, _, rfl, run_takeDeferred hK, ?_⟩⟩
      obtain ⟨S', vals', hd, hk⟩ := hP.dev
      rw [List.take_length, Dv.only_all HI.out.fine] at hd
      exact ⟨_, results_tmp rfl _ _ _, nb, rfl, ⟨S', ⟨g', cap', m', vals', hd⟩, fun k e => (hk k e).1⟩, hP.below⟩
theorem held_copy {K : Nat → Prop} {w W : World} {b : Nat} {M : Dv} (h : Held K w W b M) (hn : 8 ≤ M.n) (hw : M.wr ≤ 1099511627776) :
    Calls Try.prog 18 #[devp b] W fun e w' => ∃ b', e = .returned (devp b') ∧ (∃ S', DevAt S' w' b' M ∧ ∀ k, S' k → W.heap.size ≤ k) ∧ Below W.heap.size W w' := by
  obtain ⟨h1, S, h3, h4⟩ := h
  exact copy_any h3 hn hw
end Go.Proofs.Ytoogedjeclcdbaa
