/- Layer 5, the document's own answers: the superblock. -/
import Derived.Test.YtoighnnjadmoiaaGeoR2
import Derived.Test.YtoighnnjadmoiaaGeo6
import Derived.Deep.RegionHeld3
namespace Go.Proofs.Ytoighnnjadmoiaa
open Go.RowKit
set_option linter.unusedVariables false
set_option linter.unusedSimpArgs false
set_option maxRecDepth 10000
/-- 'string([]byte{a, b, c, d})'. -/
theorem conv_four {P : Program} (src dst e : TypeId) (hs : P.underlying src = some (.slice e)) (he : P.underlying e = some (.int .u8)) (hd : P.underlying dst = some .string) (W : World) (a b c d : Int) (g : Nat) (hg : g = W.heap.size) :
    (convert src dst (.slice (some ⟨g, 0, none⟩) 4 4)).run P (W.alloc (.cells #[.int .u8 a, .int .u8 b, .int .u8 c, .int .u8 d] e)) = .ok (str [UInt8.ofNat a.toNat, UInt8.ofNat b.toNat, UInt8.ofNat c.toNat, UInt8.ofNat d.toNat]) (W.alloc (.cells #[.int .u8 a, .int .u8 b, .int .u8 c, .int .u8 d] e)) := by
  subst hg
  rw [run_convert_bytes_string _ src dst e _ 4 4 hs he hd]
  have hl := run_loadCells_list (P := P) (W.alloc (.cells #[.int .u8 a, .int .u8 b, .int .u8 c, .int .u8 d] e)) ⟨W.heap.size, 0, none⟩ [.int .u8 a, .int .u8 b, .int .u8 c, .int .u8 d] (fun j v hj => by
    match j, hj with
    | 0, hj | 1, hj | 2, hj | 3, hj => simp at hj; subst hj; simp [Addr.add])
  rw [run_bytesToString _ _ 4 4 [a, b, c, d] (by simpa using hl)]
  rfl
theorem u8_nat (n : Nat) : IntKind.u8.wrap (n : Int) = ((n % 256 : Nat) : Int) := by
  simp [IntKind.wrap, IntKind.bits, IntKind.signed]
/-- The four bytes of a number, as 'num' lays them. -/
def numC (v : Nat) : Array Value := #[.int .u8 ((v : Int) % 256), .int .u8 ((v : Int) / 256), .int .u8 ((v : Int) / 65536), .int .u8 ((v : Int) / 16777216)]
set_option maxHeartbeats 400000 in
theorem refNum4 (v : Nat) (w : World) (h : v ≤ 1024) :
    Calls Try.prog 33 #[.int .i64 (v : Int)] w fun e w' => e = .returned (str (leB 4 v)) ∧ w' = w.alloc (.cells (numC v) 5) := by
  have hcv := fun W a b c d g hg => conv_four (P := Try.prog) 46 9 5 Try.underlying46 Try.underlying5 Try.underlying9 W a b c d g hg
  go_enter Try.func33, Try.ntmps33
  go_wp2
  go_ret
  refine ⟨congrArg (fun l => Ending.returned (str l)) ?_, rfl⟩
  simp only [leB]
  rw [show v / 256 % 256 = v / 256 by omega, show v / 256 / 256 % 256 = v / 65536 by omega, show v / 256 / 256 / 256 % 256 = v / 16777216 by omega]
set_option maxHeartbeats 400000 in
theorem refValue4 (a b c d : UInt8) (w : World) :
    Calls Try.prog 31 #[str [a, b, c, d]] w fun e w' => e = .returned (.int .i64 (leV [a, b, c, d] : Nat)) ∧ ∃ n, w' = w.drewN n := by
  have ha := a.toNat_lt
  have hb := b.toNat_lt
  have hc := c.toNat_lt
  have hd := d.toNat_lt
  go_enter Try.func31, Try.ntmps31
  go_wp2
  go_quiet (fail)
  go_wp2
  go_ret
  refine ⟨congrArg (fun n => Ending.returned (.int .i64 n)) ?_, _, rfl⟩
  simp only [leV]
  omega
/-- The same, of whatever four bytes. -/
theorem refValue_any (l : List UInt8) (hl : l.length = 4) (w : World) :
    Calls Try.prog 31 #[str l] w fun e w' => e = .returned (.int .i64 (leV l : Nat)) ∧ ∃ n, w' = w.drewN n := by
  match l, hl with
  | [a, b, c, d], _ => exact refValue4 a b c d w
/-- Noughts, as 'make' lays them. -/
def zeroC : Array Value := byteCells (List.replicate 44 0)
def zeroL : List UInt8 := List.replicate 44 0
theorem convZ (W : World) (g : Nat) (h : W.heap[g]? = some (.cells zeroC 5 (0, 0))) : (convert 46 9 (.slice (some ⟨g, 0, none⟩) 44 44)).run Try.prog W = .ok (str zeroL) W := by
  have := conv_blk (P := Try.prog) 46 9 5 Try.underlying46 Try.underlying5 Try.underlying9 W g 44 (List.replicate 44 0) h
  simpa [zeroL] using this
theorem heap_alloc_keep (W : World) (o p : Obj) (g : Nat) (h : W.heap[g]? = some p) : (W.alloc o).heap[g]? = some p := by
  have := (Array.getElem?_eq_some_iff.1 h).1
  rw [heap_alloc_old _ _ this]
  exact h
theorem conv0 (X : World) (g : Nat) (hg : g = X.heap.size) : (convert 46 9 (.slice (some ⟨g, 0, none⟩) 44 44)).run Try.prog (X.alloc (.cells zeroC 5)).drew = .ok (str zeroL) (X.alloc (.cells zeroC 5)).drew :=
  convZ _ _ (hg ▸ heap_alloc_new _ _)
theorem conv1 (X : World) (a : Array Value) (g : Nat) (hg : g = X.heap.size) : (convert 46 9 (.slice (some ⟨g, 0, none⟩) 44 44)).run Try.prog ((X.alloc (.cells zeroC 5)).alloc (.cells a 5)).drew = .ok (str zeroL) ((X.alloc (.cells zeroC 5)).alloc (.cells a 5)).drew :=
  convZ _ _ (heap_alloc_keep _ _ _ _ (hg ▸ heap_alloc_new _ _))
theorem conv2 (X : World) (a b : Array Value) (g : Nat) (hg : g = X.heap.size) : (convert 46 9 (.slice (some ⟨g, 0, none⟩) 44 44)).run Try.prog (((X.alloc (.cells zeroC 5)).alloc (.cells a 5)).alloc (.cells b 5)).drew = .ok (str zeroL) (((X.alloc (.cells zeroC 5)).alloc (.cells a 5)).alloc (.cells b 5)).drew :=
  convZ _ _ (heap_alloc_keep _ _ _ _ (heap_alloc_keep _ _ _ _ (hg ▸ heap_alloc_new _ _)))
theorem conv3 (X : World) (a b c : Array Value) (g : Nat) (hg : g = X.heap.size) : (convert 46 9 (.slice (some ⟨g, 0, none⟩) 44 44)).run Try.prog ((((X.alloc (.cells zeroC 5)).alloc (.cells a 5)).alloc (.cells b 5)).alloc (.cells c 5)).drew = .ok (str zeroL) ((((X.alloc (.cells zeroC 5)).alloc (.cells a 5)).alloc (.cells b 5)).alloc (.cells c 5)).drew :=
  convZ _ _ (heap_alloc_keep _ _ _ _ (heap_alloc_keep _ _ _ _ (heap_alloc_keep _ _ _ _ (hg ▸ heap_alloc_new _ _))))
set_option maxHeartbeats 2000000 in
theorem refSuper_any (G : Gm) (w : World) (h : G.ok) :
    Calls Try.prog 23 #[gv G] w fun e w' => e = .returned (str (superL G)) ∧ Below w.heap.size w w' := by
  unfold Gm.ok at h
  obtain ⟨⟨h1, h2⟩, ⟨h3, h4⟩, h5, h6⟩ := h
  have N1 := Lib.hid fun W => refNum4 G.i W (by omega)
  have N2 := Lib.hid fun W => refNum4 G.b W (by omega)
  have N3 := Lib.hid fun W => refNum4 G.j W (by omega)
  have hmk : ∀ W, (Instr.makeSlice 46 (.int .i64 44) (.int .i64 44)).run Try.prog W = .ok (.slice (some ⟨W.heap.size, 0, none⟩) 44 44) (W.alloc (.cells zeroC 5)) := fun W => make_bytes 44 (by omega) W
  have k0 := conv0
  have k1 := conv1
  have k2 := conv2
  have k3 := conv3
  have hl0 : zeroL.length ≤ 44 := by simp [zeroL]
  have hl1 : (leB 4 G.i).length ≤ 4 := by rw [leB_length]; omega
  have hl2 : (leB 4 G.b).length ≤ 4 := by rw [leB_length]; omega
  have hl3 : (leB 4 G.j).length ≤ 4 := by rw [leB_length]; omega
  have HF : Hid (superL G = 108 :: 117 :: 110 :: 101 :: 116 :: 116 :: 101 :: 49 :: (leB 4 G.i ++ (leB 4 G.b ++ (leB 4 G.j ++ zeroL)))) := Lib.hid (by simp [superL, labelL, zeroL])
  generalize leB 4 G.i = t1 at *
  generalize leB 4 G.b = t2 at *
  generalize leB 4 G.j = t3 at *
  generalize superL G = tt at *
  have q1 : ¬ 9223372036854775807 < 8 + t1.length := by omega
  have q2 : ¬ 9223372036854775807 < t1.length + 1 + 1 + 1 + 1 + 1 + 1 + 1 + 1 + t2.length := by omega
  have q3 : ¬ 9223372036854775807 < t1.length + t2.length + 1 + 1 + 1 + 1 + 1 + 1 + 1 + 1 + t3.length := by omega
  have q4 : ¬ 9223372036854775807 < t1.length + (t2.length + t3.length) + 1 + 1 + 1 + 1 + 1 + 1 + 1 + 1 + zeroL.length := by omega
  go_enter Try.func23, Try.ntmps23
  go_wp2_with fail
  refine wp_region_noPanic ?_
  refine wp_region_held_drew (S := (fun W => W.cell? ⟨w.heap.size, 0, none⟩ = some (.int .i64 (G.i : Int)) ∧ W.cell? ⟨w.heap.size, 1, none⟩ = some (.int .i64 (G.b : Int)) ∧ W.cell? ⟨w.heap.size, 2, none⟩ = some (.int .i64 (G.j : Int)))) (by kernel_rfl) (by refine ⟨?_, ?_, ?_⟩ <;> go_simp) (fun hHeld => ?_)
  refine wpAnyH_take (i := 0) (oi := _) (v := ?_) rfl (by kernel_rfl) (by kernel_rfl) (by kernel_rfl) (fun _ _ _ h => h) (Or.inl ⟨by rfl, ?_⟩) (by assumption) ?_
  rotate_left
  · intro w hSw
    try dsimp only at hSw
    go_simp
    try with_reducible rfl
  (try simp only [Act.put, List.setIfInBounds_toArray, List.set_cons_zero, List.set_cons_succ, List.getElem_toArray, List.getElem_cons_zero, List.getElem_cons_succ])
  refine wpAnyH_take (i := 1) (oi := _) (v := ?_) rfl (by kernel_rfl) (by kernel_rfl) (by kernel_rfl) (fun _ _ _ h => h) (Or.inl ⟨by rfl, ?_⟩) (by assumption) ?_
  rotate_left
  · intro w hSw
    try dsimp only at hSw
    go_simp
    try with_reducible rfl
  (try simp only [Act.put, List.setIfInBounds_toArray, List.set_cons_zero, List.set_cons_succ, List.getElem_toArray, List.getElem_cons_zero, List.getElem_cons_succ])
  refine wpAnyH_take (i := 4) (oi := _) (v := ?_) rfl (by kernel_rfl) (by kernel_rfl) (by kernel_rfl) (fun _ _ _ h => h) (Or.inl ⟨by rfl, ?_⟩) (by assumption) ?_
  rotate_left
  · intro w hSw
    try dsimp only at hSw
    go_simp
    try with_reducible rfl
  (try simp only [Act.put, List.setIfInBounds_toArray, List.set_cons_zero, List.set_cons_succ, List.getElem_toArray, List.getElem_cons_zero, List.getElem_cons_succ])
  refine wpAnyH_take (i := 5) (oi := _) (v := ?_) rfl (by kernel_rfl) (by kernel_rfl) (by kernel_rfl) (fun _ _ _ h => h) (Or.inl ⟨by rfl, ?_⟩) (by assumption) ?_
  rotate_left
  · intro w hSw
    try dsimp only at hSw
    go_simp
    try with_reducible rfl
  (try simp only [Act.put, List.setIfInBounds_toArray, List.set_cons_zero, List.set_cons_succ, List.getElem_toArray, List.getElem_cons_zero, List.getElem_cons_succ])
  refine wpAnyH_take (i := 8) (oi := _) (v := ?_) rfl (by kernel_rfl) (by kernel_rfl) (by kernel_rfl) (fun _ _ _ h => h) (Or.inl ⟨by rfl, ?_⟩) (by assumption) ?_
  rotate_left
  · intro w hSw
    try dsimp only at hSw
    go_simp
    try with_reducible rfl
  (try simp only [Act.put, List.setIfInBounds_toArray, List.set_cons_zero, List.set_cons_succ, List.getElem_toArray, List.getElem_cons_zero, List.getElem_cons_succ])
  refine wpAnyH_take (i := 9) (oi := _) (v := ?_) rfl (by kernel_rfl) (by kernel_rfl) (by kernel_rfl) (fun _ _ _ h => h) (Or.inl ⟨by rfl, ?_⟩) (by assumption) ?_
  rotate_left
  · intro w hSw
    try dsimp only at hSw
    go_simp
    try with_reducible rfl
  (try simp only [Act.put, List.setIfInBounds_toArray, List.set_cons_zero, List.set_cons_succ, List.getElem_toArray, List.getElem_cons_zero, List.getElem_cons_succ])
  refine wpAnyH_ready (rs := [2, 12]) (by kernel_rfl) (by simp) ?_
  refine AllReadyH.cons (o := _) rfl (fun K hK => ?_) ?_
  · go_simp
    with_reducible refine (N1.out _).mono ?_
    rintro e w4 ⟨rfl, rfl⟩
    try go_wp2_with fail
    refine hK.out _ _ (by refine ⟨?_, ?_, ?_⟩ <;> go_simp) (fun hHeld => ?_)
    clear hK K
    (try simp only [Act.put, List.setIfInBounds_toArray, List.set_cons_zero, List.set_cons_succ, List.getElem_toArray, List.getElem_cons_zero, List.getElem_cons_succ])
    refine wpAnyH_take (i := 3) (oi := _) (v := ?_) rfl (by kernel_rfl) (by kernel_rfl) (by kernel_rfl) (fun _ _ _ h => h) (Or.inl ⟨by rfl, ?_⟩) (by assumption) ?_
    rotate_left
    · intro w hSw
      try dsimp only at hSw
      go_simp
      try with_reducible rfl
    (try simp only [Act.put, List.setIfInBounds_toArray, List.set_cons_zero, List.set_cons_succ, List.getElem_toArray, List.getElem_cons_zero, List.getElem_cons_succ])
    refine wpAnyH_ready (rs := [6, 12]) (by kernel_rfl) (by simp) ?_
    refine AllReadyH.cons (o := _) rfl (fun K hK => ?_) ?_
    · go_simp
      with_reducible refine (N2.out _).mono ?_
      rintro e w4 ⟨rfl, rfl⟩
      try go_wp2_with fail
      refine hK.out _ _ (by refine ⟨?_, ?_, ?_⟩ <;> go_simp) (fun hHeld => ?_)
      clear hK K
      (try simp only [Act.put, List.setIfInBounds_toArray, List.set_cons_zero, List.set_cons_succ, List.getElem_toArray, List.getElem_cons_zero, List.getElem_cons_succ])
      refine wpAnyH_take (i := 7) (oi := _) (v := ?_) rfl (by kernel_rfl) (by kernel_rfl) (by kernel_rfl) (fun _ _ _ h => h) (Or.inl ⟨by rfl, ?_⟩) (by assumption) ?_
      rotate_left
      · intro w hSw
        try dsimp only at hSw
        go_simp
        try with_reducible rfl
      (try simp only [Act.put, List.setIfInBounds_toArray, List.set_cons_zero, List.set_cons_succ, List.getElem_toArray, List.getElem_cons_zero, List.getElem_cons_succ])
      refine wpAnyH_ready (rs := [10, 12]) (by kernel_rfl) (by simp) ?_
      refine AllReadyH.cons (o := _) rfl (fun K hK => ?_) ?_
      · go_simp
        with_reducible refine (N3.out _).mono ?_
        rintro e w4 ⟨rfl, rfl⟩
        try go_wp2_with fail
        refine hK.out _ _ (by refine ⟨?_, ?_, ?_⟩ <;> go_simp) (fun hHeld => ?_)
        clear hK K
        (try simp only [Act.put, List.setIfInBounds_toArray, List.set_cons_zero, List.set_cons_succ, List.getElem_toArray, List.getElem_cons_zero, List.getElem_cons_succ])
        refine wpAnyH_take (i := 11) (oi := _) (v := ?_) rfl (by kernel_rfl) (by kernel_rfl) (by kernel_rfl) (fun _ _ _ h => h) (Or.inl ⟨by rfl, ?_⟩) (by assumption) ?_
        rotate_left
        · intro w hSw
          try dsimp only at hSw
          go_simp
          try with_reducible rfl
        (try simp only [Act.put, List.setIfInBounds_toArray, List.set_cons_zero, List.set_cons_succ, List.getElem_toArray, List.getElem_cons_zero, List.getElem_cons_succ])
        refine wpAnyH_ready (rs := [12]) (by kernel_rfl) (by simp) ?_
        refine AllReadyH.cons (o := _) rfl (fun K hK => ?_) AllReadyH.nil
        go_simp
        refine hK.out _ _ (by refine ⟨?_, ?_, ?_⟩ <;> go_simp) (fun hHeld => ?_)
        clear hK K
        (try simp only [Act.put, List.setIfInBounds_toArray, List.set_cons_zero, List.set_cons_succ, List.getElem_toArray, List.getElem_cons_zero, List.getElem_cons_succ])
        refine wpAnyH_ready (rs := [13]) (by kernel_rfl) (by simp) ?_
        refine AllReadyH.cons (o := _) rfl (fun K hK => ?_) AllReadyH.nil
        go_simp
        refine hK.out _ _ (by refine ⟨?_, ?_, ?_⟩ <;> go_simp) (fun hHeld => ?_)
        clear hK K
        (try simp only [Act.put, List.setIfInBounds_toArray, List.set_cons_zero, List.set_cons_succ, List.getElem_toArray, List.getElem_cons_zero, List.getElem_cons_succ])
        refine wpAnyH_take (i := 14) (oi := _) (v := ?_) rfl (by kernel_rfl) (by kernel_rfl) (by kernel_rfl) (fun _ _ _ h => h) (Or.inl ⟨by rfl, ?_⟩) (by assumption) ?_
        rotate_left
        · intro w hSw
          try dsimp only at hSw
          go_simp
          try with_reducible rfl
        (try simp only [Act.put, List.setIfInBounds_toArray, List.set_cons_zero, List.set_cons_succ, List.getElem_toArray, List.getElem_cons_zero, List.getElem_cons_succ])
        refine wpAnyH_take (i := 15) (oi := _) (v := ?_) rfl (by kernel_rfl) (by kernel_rfl) (by kernel_rfl) (fun _ _ _ h => h) (Or.inl ⟨by rfl, ?_⟩) (by assumption) ?_
        rotate_left
        · intro w hSw
          try dsimp only at hSw
          go_simp
          try with_reducible rfl
        (try simp only [Act.put, List.setIfInBounds_toArray, List.set_cons_zero, List.set_cons_succ, List.getElem_toArray, List.getElem_cons_zero, List.getElem_cons_succ])
        refine wpAnyH_done (by kernel_rfl) ?_ _
        refine NoPanic.normal ?_
        go_wp2_with fail
        go_ret
        exact ⟨congrArg (fun l => Ending.returned (str l)) HF.out.symm, (((((Below.refl _ _).alloc (Nat.le_refl _) _).alloc (by simp <;> omega) _).alloc (by simp <;> omega) _).alloc (by simp <;> omega) _).alloc (by simp <;> omega) _ |>.drew⟩
      refine AllReadyH.cons (o := _) rfl (fun K hK => ?_) AllReadyH.nil
      go_simp
      refine hK.out _ _ (by refine ⟨?_, ?_, ?_⟩ <;> go_simp) (fun hHeld => ?_)
      clear hK K
      (try simp only [Act.put, List.setIfInBounds_toArray, List.set_cons_zero, List.set_cons_succ, List.getElem_toArray, List.getElem_cons_zero, List.getElem_cons_succ])
      refine wpAnyH_ready (rs := [10, 13]) (by kernel_rfl) (by simp) ?_
      refine AllReadyH.cons (o := _) rfl (fun K hK => ?_) ?_
      · go_simp
        with_reducible refine (N3.out _).mono ?_
        rintro e w4 ⟨rfl, rfl⟩
        try go_wp2_with fail
        refine hK.out _ _ (by refine ⟨?_, ?_, ?_⟩ <;> go_simp) (fun hHeld => ?_)
        clear hK K
        (try simp only [Act.put, List.setIfInBounds_toArray, List.set_cons_zero, List.set_cons_succ, List.getElem_toArray, List.getElem_cons_zero, List.getElem_cons_succ])
        refine wpAnyH_take (i := 11) (oi := _) (v := ?_) rfl (by kernel_rfl) (by kernel_rfl) (by kernel_rfl) (fun _ _ _ h => h) (Or.inl ⟨by rfl, ?_⟩) (by assumption) ?_
        rotate_left
        · intro w hSw
          try dsimp only at hSw
          go_simp
          try with_reducible rfl
        (try simp only [Act.put, List.setIfInBounds_toArray, List.set_cons_zero, List.set_cons_succ, List.getElem_toArray, List.getElem_cons_zero, List.getElem_cons_succ])
        refine wpAnyH_ready (rs := [13]) (by kernel_rfl) (by simp) ?_
        refine AllReadyH.cons (o := _) rfl (fun K hK => ?_) AllReadyH.nil
        go_simp
        refine hK.out _ _ (by refine ⟨?_, ?_, ?_⟩ <;> go_simp) (fun hHeld => ?_)
        clear hK K
        (try simp only [Act.put, List.setIfInBounds_toArray, List.set_cons_zero, List.set_cons_succ, List.getElem_toArray, List.getElem_cons_zero, List.getElem_cons_succ])
        refine wpAnyH_take (i := 14) (oi := _) (v := ?_) rfl (by kernel_rfl) (by kernel_rfl) (by kernel_rfl) (fun _ _ _ h => h) (Or.inl ⟨by rfl, ?_⟩) (by assumption) ?_
        rotate_left
        · intro w hSw
          try dsimp only at hSw
          go_simp
          try with_reducible rfl
        (try simp only [Act.put, List.setIfInBounds_toArray, List.set_cons_zero, List.set_cons_succ, List.getElem_toArray, List.getElem_cons_zero, List.getElem_cons_succ])
        refine wpAnyH_take (i := 15) (oi := _) (v := ?_) rfl (by kernel_rfl) (by kernel_rfl) (by kernel_rfl) (fun _ _ _ h => h) (Or.inl ⟨by rfl, ?_⟩) (by assumption) ?_
        rotate_left
        · intro w hSw
          try dsimp only at hSw
          go_simp
          try with_reducible rfl
        (try simp only [Act.put, List.setIfInBounds_toArray, List.set_cons_zero, List.set_cons_succ, List.getElem_toArray, List.getElem_cons_zero, List.getElem_cons_succ])
        refine wpAnyH_done (by kernel_rfl) ?_ _
        refine NoPanic.normal ?_
        go_wp2_with fail
        go_ret
        exact ⟨congrArg (fun l => Ending.returned (str l)) HF.out.symm, (((((Below.refl _ _).alloc (Nat.le_refl _) _).alloc (by simp <;> omega) _).alloc (by simp <;> omega) _).alloc (by simp <;> omega) _).alloc (by simp <;> omega) _ |>.drew⟩
      refine AllReadyH.cons (o := _) rfl (fun K hK => ?_) AllReadyH.nil
      go_simp
      refine hK.out _ _ (by refine ⟨?_, ?_, ?_⟩ <;> go_simp) (fun hHeld => ?_)
      clear hK K
      (try simp only [Act.put, List.setIfInBounds_toArray, List.set_cons_zero, List.set_cons_succ, List.getElem_toArray, List.getElem_cons_zero, List.getElem_cons_succ])
      refine wpAnyH_ready (rs := [10]) (by kernel_rfl) (by simp) ?_
      refine AllReadyH.cons (o := _) rfl (fun K hK => ?_) AllReadyH.nil
      go_simp
      with_reducible refine (N3.out _).mono ?_
      rintro e w4 ⟨rfl, rfl⟩
      try go_wp2_with fail
      refine hK.out _ _ (by refine ⟨?_, ?_, ?_⟩ <;> go_simp) (fun hHeld => ?_)
      clear hK K
      (try simp only [Act.put, List.setIfInBounds_toArray, List.set_cons_zero, List.set_cons_succ, List.getElem_toArray, List.getElem_cons_zero, List.getElem_cons_succ])
      refine wpAnyH_take (i := 11) (oi := _) (v := ?_) rfl (by kernel_rfl) (by kernel_rfl) (by kernel_rfl) (fun _ _ _ h => h) (Or.inl ⟨by rfl, ?_⟩) (by assumption) ?_
      rotate_left
      · intro w hSw
        try dsimp only at hSw
        go_simp
        try with_reducible rfl
      (try simp only [Act.put, List.setIfInBounds_toArray, List.set_cons_zero, List.set_cons_succ, List.getElem_toArray, List.getElem_cons_zero, List.getElem_cons_succ])
      refine wpAnyH_take (i := 14) (oi := _) (v := ?_) rfl (by kernel_rfl) (by kernel_rfl) (by kernel_rfl) (fun _ _ _ h => h) (Or.inl ⟨by rfl, ?_⟩) (by assumption) ?_
      rotate_left
      · intro w hSw
        try dsimp only at hSw
        go_simp
        try with_reducible rfl
      (try simp only [Act.put, List.setIfInBounds_toArray, List.set_cons_zero, List.set_cons_succ, List.getElem_toArray, List.getElem_cons_zero, List.getElem_cons_succ])
      refine wpAnyH_take (i := 15) (oi := _) (v := ?_) rfl (by kernel_rfl) (by kernel_rfl) (by kernel_rfl) (fun _ _ _ h => h) (Or.inl ⟨by rfl, ?_⟩) (by assumption) ?_
      rotate_left
      · intro w hSw
        try dsimp only at hSw
        go_simp
        try with_reducible rfl
      (try simp only [Act.put, List.setIfInBounds_toArray, List.set_cons_zero, List.set_cons_succ, List.getElem_toArray, List.getElem_cons_zero, List.getElem_cons_succ])
      refine wpAnyH_done (by kernel_rfl) ?_ _
      refine NoPanic.normal ?_
      go_wp2_with fail
      go_ret
      exact ⟨congrArg (fun l => Ending.returned (str l)) HF.out.symm, (((((Below.refl _ _).alloc (Nat.le_refl _) _).alloc (by simp <;> omega) _).alloc (by simp <;> omega) _).alloc (by simp <;> omega) _).alloc (by simp <;> omega) _ |>.drew⟩
    refine AllReadyH.cons (o := _) rfl (fun K hK => ?_) AllReadyH.nil
    go_simp
    refine hK.out _ _ (by refine ⟨?_, ?_, ?_⟩ <;> go_simp) (fun hHeld => ?_)
    clear hK K
    (try simp only [Act.put, List.setIfInBounds_toArray, List.set_cons_zero, List.set_cons_succ, List.getElem_toArray, List.getElem_cons_zero, List.getElem_cons_succ])
    refine wpAnyH_ready (rs := [6, 13]) (by kernel_rfl) (by simp) ?_
    refine AllReadyH.cons (o := _) rfl (fun K hK => ?_) ?_
    · go_simp
      with_reducible refine (N2.out _).mono ?_
      rintro e w4 ⟨rfl, rfl⟩
      try go_wp2_with fail
      refine hK.out _ _ (by refine ⟨?_, ?_, ?_⟩ <;> go_simp) (fun hHeld => ?_)
      clear hK K
      (try simp only [Act.put, List.setIfInBounds_toArray, List.set_cons_zero, List.set_cons_succ, List.getElem_toArray, List.getElem_cons_zero, List.getElem_cons_succ])
      refine wpAnyH_take (i := 7) (oi := _) (v := ?_) rfl (by kernel_rfl) (by kernel_rfl) (by kernel_rfl) (fun _ _ _ h => h) (Or.inl ⟨by rfl, ?_⟩) (by assumption) ?_
      rotate_left
      · intro w hSw
        try dsimp only at hSw
        go_simp
        try with_reducible rfl
      (try simp only [Act.put, List.setIfInBounds_toArray, List.set_cons_zero, List.set_cons_succ, List.getElem_toArray, List.getElem_cons_zero, List.getElem_cons_succ])
      refine wpAnyH_ready (rs := [10, 13]) (by kernel_rfl) (by simp) ?_
      refine AllReadyH.cons (o := _) rfl (fun K hK => ?_) ?_
      · go_simp
        with_reducible refine (N3.out _).mono ?_
        rintro e w4 ⟨rfl, rfl⟩
        try go_wp2_with fail
        refine hK.out _ _ (by refine ⟨?_, ?_, ?_⟩ <;> go_simp) (fun hHeld => ?_)
        clear hK K
        (try simp only [Act.put, List.setIfInBounds_toArray, List.set_cons_zero, List.set_cons_succ, List.getElem_toArray, List.getElem_cons_zero, List.getElem_cons_succ])
        refine wpAnyH_take (i := 11) (oi := _) (v := ?_) rfl (by kernel_rfl) (by kernel_rfl) (by kernel_rfl) (fun _ _ _ h => h) (Or.inl ⟨by rfl, ?_⟩) (by assumption) ?_
        rotate_left
        · intro w hSw
          try dsimp only at hSw
          go_simp
          try with_reducible rfl
        (try simp only [Act.put, List.setIfInBounds_toArray, List.set_cons_zero, List.set_cons_succ, List.getElem_toArray, List.getElem_cons_zero, List.getElem_cons_succ])
        refine wpAnyH_ready (rs := [13]) (by kernel_rfl) (by simp) ?_
        refine AllReadyH.cons (o := _) rfl (fun K hK => ?_) AllReadyH.nil
        go_simp
        refine hK.out _ _ (by refine ⟨?_, ?_, ?_⟩ <;> go_simp) (fun hHeld => ?_)
        clear hK K
        (try simp only [Act.put, List.setIfInBounds_toArray, List.set_cons_zero, List.set_cons_succ, List.getElem_toArray, List.getElem_cons_zero, List.getElem_cons_succ])
        refine wpAnyH_take (i := 14) (oi := _) (v := ?_) rfl (by kernel_rfl) (by kernel_rfl) (by kernel_rfl) (fun _ _ _ h => h) (Or.inl ⟨by rfl, ?_⟩) (by assumption) ?_
        rotate_left
        · intro w hSw
          try dsimp only at hSw
          go_simp
          try with_reducible rfl
        (try simp only [Act.put, List.setIfInBounds_toArray, List.set_cons_zero, List.set_cons_succ, List.getElem_toArray, List.getElem_cons_zero, List.getElem_cons_succ])
        refine wpAnyH_take (i := 15) (oi := _) (v := ?_) rfl (by kernel_rfl) (by kernel_rfl) (by kernel_rfl) (fun _ _ _ h => h) (Or.inl ⟨by rfl, ?_⟩) (by assumption) ?_
        rotate_left
        · intro w hSw
          try dsimp only at hSw
          go_simp
          try with_reducible rfl
        (try simp only [Act.put, List.setIfInBounds_toArray, List.set_cons_zero, List.set_cons_succ, List.getElem_toArray, List.getElem_cons_zero, List.getElem_cons_succ])
        refine wpAnyH_done (by kernel_rfl) ?_ _
        refine NoPanic.normal ?_
        go_wp2_with fail
        go_ret
        exact ⟨congrArg (fun l => Ending.returned (str l)) HF.out.symm, (((((Below.refl _ _).alloc (Nat.le_refl _) _).alloc (by simp <;> omega) _).alloc (by simp <;> omega) _).alloc (by simp <;> omega) _).alloc (by simp <;> omega) _ |>.drew⟩
      refine AllReadyH.cons (o := _) rfl (fun K hK => ?_) AllReadyH.nil
      go_simp
      refine hK.out _ _ (by refine ⟨?_, ?_, ?_⟩ <;> go_simp) (fun hHeld => ?_)
      clear hK K
      (try simp only [Act.put, List.setIfInBounds_toArray, List.set_cons_zero, List.set_cons_succ, List.getElem_toArray, List.getElem_cons_zero, List.getElem_cons_succ])
      refine wpAnyH_ready (rs := [10]) (by kernel_rfl) (by simp) ?_
      refine AllReadyH.cons (o := _) rfl (fun K hK => ?_) AllReadyH.nil
      go_simp
      with_reducible refine (N3.out _).mono ?_
      rintro e w4 ⟨rfl, rfl⟩
      try go_wp2_with fail
      refine hK.out _ _ (by refine ⟨?_, ?_, ?_⟩ <;> go_simp) (fun hHeld => ?_)
      clear hK K
      (try simp only [Act.put, List.setIfInBounds_toArray, List.set_cons_zero, List.set_cons_succ, List.getElem_toArray, List.getElem_cons_zero, List.getElem_cons_succ])
      refine wpAnyH_take (i := 11) (oi := _) (v := ?_) rfl (by kernel_rfl) (by kernel_rfl) (by kernel_rfl) (fun _ _ _ h => h) (Or.inl ⟨by rfl, ?_⟩) (by assumption) ?_
      rotate_left
      · intro w hSw
        try dsimp only at hSw
        go_simp
        try with_reducible rfl
      (try simp only [Act.put, List.setIfInBounds_toArray, List.set_cons_zero, List.set_cons_succ, List.getElem_toArray, List.getElem_cons_zero, List.getElem_cons_succ])
      refine wpAnyH_take (i := 14) (oi := _) (v := ?_) rfl (by kernel_rfl) (by kernel_rfl) (by kernel_rfl) (fun _ _ _ h => h) (Or.inl ⟨by rfl, ?_⟩) (by assumption) ?_
      rotate_left
      · intro w hSw
        try dsimp only at hSw
        go_simp
        try with_reducible rfl
      (try simp only [Act.put, List.setIfInBounds_toArray, List.set_cons_zero, List.set_cons_succ, List.getElem_toArray, List.getElem_cons_zero, List.getElem_cons_succ])
      refine wpAnyH_take (i := 15) (oi := _) (v := ?_) rfl (by kernel_rfl) (by kernel_rfl) (by kernel_rfl) (fun _ _ _ h => h) (Or.inl ⟨by rfl, ?_⟩) (by assumption) ?_
      rotate_left
      · intro w hSw
        try dsimp only at hSw
        go_simp
        try with_reducible rfl
      (try simp only [Act.put, List.setIfInBounds_toArray, List.set_cons_zero, List.set_cons_succ, List.getElem_toArray, List.getElem_cons_zero, List.getElem_cons_succ])
      refine wpAnyH_done (by kernel_rfl) ?_ _
      refine NoPanic.normal ?_
      go_wp2_with fail
      go_ret
      exact ⟨congrArg (fun l => Ending.returned (str l)) HF.out.symm, (((((Below.refl _ _).alloc (Nat.le_refl _) _).alloc (by simp <;> omega) _).alloc (by simp <;> omega) _).alloc (by simp <;> omega) _).alloc (by simp <;> omega) _ |>.drew⟩
    refine AllReadyH.cons (o := _) rfl (fun K hK => ?_) AllReadyH.nil
    go_simp
    refine hK.out _ _ (by refine ⟨?_, ?_, ?_⟩ <;> go_simp) (fun hHeld => ?_)
    clear hK K
    (try simp only [Act.put, List.setIfInBounds_toArray, List.set_cons_zero, List.set_cons_succ, List.getElem_toArray, List.getElem_cons_zero, List.getElem_cons_succ])
    refine wpAnyH_ready (rs := [6]) (by kernel_rfl) (by simp) ?_
    refine AllReadyH.cons (o := _) rfl (fun K hK => ?_) AllReadyH.nil
    go_simp
    with_reducible refine (N2.out _).mono ?_
    rintro e w4 ⟨rfl, rfl⟩
    try go_wp2_with fail
    refine hK.out _ _ (by refine ⟨?_, ?_, ?_⟩ <;> go_simp) (fun hHeld => ?_)
    clear hK K
    (try simp only [Act.put, List.setIfInBounds_toArray, List.set_cons_zero, List.set_cons_succ, List.getElem_toArray, List.getElem_cons_zero, List.getElem_cons_succ])
    refine wpAnyH_take (i := 7) (oi := _) (v := ?_) rfl (by kernel_rfl) (by kernel_rfl) (by kernel_rfl) (fun _ _ _ h => h) (Or.inl ⟨by rfl, ?_⟩) (by assumption) ?_
    rotate_left
    · intro w hSw
      try dsimp only at hSw
      go_simp
      try with_reducible rfl
    (try simp only [Act.put, List.setIfInBounds_toArray, List.set_cons_zero, List.set_cons_succ, List.getElem_toArray, List.getElem_cons_zero, List.getElem_cons_succ])
    refine wpAnyH_ready (rs := [10]) (by kernel_rfl) (by simp) ?_
    refine AllReadyH.cons (o := _) rfl (fun K hK => ?_) AllReadyH.nil
    go_simp
    with_reducible refine (N3.out _).mono ?_
    rintro e w4 ⟨rfl, rfl⟩
    try go_wp2_with fail
    refine hK.out _ _ (by refine ⟨?_, ?_, ?_⟩ <;> go_simp) (fun hHeld => ?_)
    clear hK K
    (try simp only [Act.put, List.setIfInBounds_toArray, List.set_cons_zero, List.set_cons_succ, List.getElem_toArray, List.getElem_cons_zero, List.getElem_cons_succ])
    refine wpAnyH_take (i := 11) (oi := _) (v := ?_) rfl (by kernel_rfl) (by kernel_rfl) (by kernel_rfl) (fun _ _ _ h => h) (Or.inl ⟨by rfl, ?_⟩) (by assumption) ?_
    rotate_left
    · intro w hSw
      try dsimp only at hSw
      go_simp
      try with_reducible rfl
    (try simp only [Act.put, List.setIfInBounds_toArray, List.set_cons_zero, List.set_cons_succ, List.getElem_toArray, List.getElem_cons_zero, List.getElem_cons_succ])
    refine wpAnyH_take (i := 14) (oi := _) (v := ?_) rfl (by kernel_rfl) (by kernel_rfl) (by kernel_rfl) (fun _ _ _ h => h) (Or.inl ⟨by rfl, ?_⟩) (by assumption) ?_
    rotate_left
    · intro w hSw
      try dsimp only at hSw
      go_simp
      try with_reducible rfl
    (try simp only [Act.put, List.setIfInBounds_toArray, List.set_cons_zero, List.set_cons_succ, List.getElem_toArray, List.getElem_cons_zero, List.getElem_cons_succ])
    refine wpAnyH_take (i := 15) (oi := _) (v := ?_) rfl (by kernel_rfl) (by kernel_rfl) (by kernel_rfl) (fun _ _ _ h => h) (Or.inl ⟨by rfl, ?_⟩) (by assumption) ?_
    rotate_left
    · intro w hSw
      try dsimp only at hSw
      go_simp
      try with_reducible rfl
    (try simp only [Act.put, List.setIfInBounds_toArray, List.set_cons_zero, List.set_cons_succ, List.getElem_toArray, List.getElem_cons_zero, List.getElem_cons_succ])
    refine wpAnyH_done (by kernel_rfl) ?_ _
    refine NoPanic.normal ?_
    go_wp2_with fail
    go_ret
    exact ⟨congrArg (fun l => Ending.returned (str l)) HF.out.symm, (((((Below.refl _ _).alloc (Nat.le_refl _) _).alloc (by simp <;> omega) _).alloc (by simp <;> omega) _).alloc (by simp <;> omega) _).alloc (by simp <;> omega) _ |>.drew⟩
  refine AllReadyH.cons (o := _) rfl (fun K hK => ?_) AllReadyH.nil
  go_simp
  refine hK.out _ _ (by refine ⟨?_, ?_, ?_⟩ <;> go_simp) (fun hHeld => ?_)
  clear hK K
  (try simp only [Act.put, List.setIfInBounds_toArray, List.set_cons_zero, List.set_cons_succ, List.getElem_toArray, List.getElem_cons_zero, List.getElem_cons_succ])
  refine wpAnyH_ready (rs := [2, 13]) (by kernel_rfl) (by simp) ?_
  refine AllReadyH.cons (o := _) rfl (fun K hK => ?_) ?_
  · go_simp
    with_reducible refine (N1.out _).mono ?_
    rintro e w4 ⟨rfl, rfl⟩
    try go_wp2_with fail
    refine hK.out _ _ (by refine ⟨?_, ?_, ?_⟩ <;> go_simp) (fun hHeld => ?_)
    clear hK K
    (try simp only [Act.put, List.setIfInBounds_toArray, List.set_cons_zero, List.set_cons_succ, List.getElem_toArray, List.getElem_cons_zero, List.getElem_cons_succ])
    refine wpAnyH_take (i := 3) (oi := _) (v := ?_) rfl (by kernel_rfl) (by kernel_rfl) (by kernel_rfl) (fun _ _ _ h => h) (Or.inl ⟨by rfl, ?_⟩) (by assumption) ?_
    rotate_left
    · intro w hSw
      try dsimp only at hSw
      go_simp
      try with_reducible rfl
    (try simp only [Act.put, List.setIfInBounds_toArray, List.set_cons_zero, List.set_cons_succ, List.getElem_toArray, List.getElem_cons_zero, List.getElem_cons_succ])
    refine wpAnyH_ready (rs := [6, 13]) (by kernel_rfl) (by simp) ?_
    refine AllReadyH.cons (o := _) rfl (fun K hK => ?_) ?_
    · go_simp
      with_reducible refine (N2.out _).mono ?_
      rintro e w4 ⟨rfl, rfl⟩
      try go_wp2_with fail
      refine hK.out _ _ (by refine ⟨?_, ?_, ?_⟩ <;> go_simp) (fun hHeld => ?_)
      clear hK K
      (try simp only [Act.put, List.setIfInBounds_toArray, List.set_cons_zero, List.set_cons_succ, List.getElem_toArray, List.getElem_cons_zero, List.getElem_cons_succ])
      refine wpAnyH_take (i := 7) (oi := _) (v := ?_) rfl (by kernel_rfl) (by kernel_rfl) (by kernel_rfl) (fun _ _ _ h => h) (Or.inl ⟨by rfl, ?_⟩) (by assumption) ?_
      rotate_left
      · intro w hSw
        try dsimp only at hSw
        go_simp
        try with_reducible rfl
      (try simp only [Act.put, List.setIfInBounds_toArray, List.set_cons_zero, List.set_cons_succ, List.getElem_toArray, List.getElem_cons_zero, List.getElem_cons_succ])
      refine wpAnyH_ready (rs := [10, 13]) (by kernel_rfl) (by simp) ?_
      refine AllReadyH.cons (o := _) rfl (fun K hK => ?_) ?_
      · go_simp
        with_reducible refine (N3.out _).mono ?_
        rintro e w4 ⟨rfl, rfl⟩
        try go_wp2_with fail
        refine hK.out _ _ (by refine ⟨?_, ?_, ?_⟩ <;> go_simp) (fun hHeld => ?_)
        clear hK K
        (try simp only [Act.put, List.setIfInBounds_toArray, List.set_cons_zero, List.set_cons_succ, List.getElem_toArray, List.getElem_cons_zero, List.getElem_cons_succ])
        refine wpAnyH_take (i := 11) (oi := _) (v := ?_) rfl (by kernel_rfl) (by kernel_rfl) (by kernel_rfl) (fun _ _ _ h => h) (Or.inl ⟨by rfl, ?_⟩) (by assumption) ?_
        rotate_left
        · intro w hSw
          try dsimp only at hSw
          go_simp
          try with_reducible rfl
        (try simp only [Act.put, List.setIfInBounds_toArray, List.set_cons_zero, List.set_cons_succ, List.getElem_toArray, List.getElem_cons_zero, List.getElem_cons_succ])
        refine wpAnyH_ready (rs := [13]) (by kernel_rfl) (by simp) ?_
        refine AllReadyH.cons (o := _) rfl (fun K hK => ?_) AllReadyH.nil
        go_simp
        refine hK.out _ _ (by refine ⟨?_, ?_, ?_⟩ <;> go_simp) (fun hHeld => ?_)
        clear hK K
        (try simp only [Act.put, List.setIfInBounds_toArray, List.set_cons_zero, List.set_cons_succ, List.getElem_toArray, List.getElem_cons_zero, List.getElem_cons_succ])
        refine wpAnyH_take (i := 14) (oi := _) (v := ?_) rfl (by kernel_rfl) (by kernel_rfl) (by kernel_rfl) (fun _ _ _ h => h) (Or.inl ⟨by rfl, ?_⟩) (by assumption) ?_
        rotate_left
        · intro w hSw
          try dsimp only at hSw
          go_simp
          try with_reducible rfl
        (try simp only [Act.put, List.setIfInBounds_toArray, List.set_cons_zero, List.set_cons_succ, List.getElem_toArray, List.getElem_cons_zero, List.getElem_cons_succ])
        refine wpAnyH_take (i := 15) (oi := _) (v := ?_) rfl (by kernel_rfl) (by kernel_rfl) (by kernel_rfl) (fun _ _ _ h => h) (Or.inl ⟨by rfl, ?_⟩) (by assumption) ?_
        rotate_left
        · intro w hSw
          try dsimp only at hSw
          go_simp
          try with_reducible rfl
        (try simp only [Act.put, List.setIfInBounds_toArray, List.set_cons_zero, List.set_cons_succ, List.getElem_toArray, List.getElem_cons_zero, List.getElem_cons_succ])
        refine wpAnyH_done (by kernel_rfl) ?_ _
        refine NoPanic.normal ?_
        go_wp2_with fail
        go_ret
        exact ⟨congrArg (fun l => Ending.returned (str l)) HF.out.symm, (((((Below.refl _ _).alloc (Nat.le_refl _) _).alloc (by simp <;> omega) _).alloc (by simp <;> omega) _).alloc (by simp <;> omega) _).alloc (by simp <;> omega) _ |>.drew⟩
      refine AllReadyH.cons (o := _) rfl (fun K hK => ?_) AllReadyH.nil
      go_simp
      refine hK.out _ _ (by refine ⟨?_, ?_, ?_⟩ <;> go_simp) (fun hHeld => ?_)
      clear hK K
      (try simp only [Act.put, List.setIfInBounds_toArray, List.set_cons_zero, List.set_cons_succ, List.getElem_toArray, List.getElem_cons_zero, List.getElem_cons_succ])
      refine wpAnyH_ready (rs := [10]) (by kernel_rfl) (by simp) ?_
      refine AllReadyH.cons (o := _) rfl (fun K hK => ?_) AllReadyH.nil
      go_simp
      with_reducible refine (N3.out _).mono ?_
      rintro e w4 ⟨rfl, rfl⟩
      try go_wp2_with fail
      refine hK.out _ _ (by refine ⟨?_, ?_, ?_⟩ <;> go_simp) (fun hHeld => ?_)
      clear hK K
      (try simp only [Act.put, List.setIfInBounds_toArray, List.set_cons_zero, List.set_cons_succ, List.getElem_toArray, List.getElem_cons_zero, List.getElem_cons_succ])
      refine wpAnyH_take (i := 11) (oi := _) (v := ?_) rfl (by kernel_rfl) (by kernel_rfl) (by kernel_rfl) (fun _ _ _ h => h) (Or.inl ⟨by rfl, ?_⟩) (by assumption) ?_
      rotate_left
      · intro w hSw
        try dsimp only at hSw
        go_simp
        try with_reducible rfl
      (try simp only [Act.put, List.setIfInBounds_toArray, List.set_cons_zero, List.set_cons_succ, List.getElem_toArray, List.getElem_cons_zero, List.getElem_cons_succ])
      refine wpAnyH_take (i := 14) (oi := _) (v := ?_) rfl (by kernel_rfl) (by kernel_rfl) (by kernel_rfl) (fun _ _ _ h => h) (Or.inl ⟨by rfl, ?_⟩) (by assumption) ?_
      rotate_left
      · intro w hSw
        try dsimp only at hSw
        go_simp
        try with_reducible rfl
      (try simp only [Act.put, List.setIfInBounds_toArray, List.set_cons_zero, List.set_cons_succ, List.getElem_toArray, List.getElem_cons_zero, List.getElem_cons_succ])
      refine wpAnyH_take (i := 15) (oi := _) (v := ?_) rfl (by kernel_rfl) (by kernel_rfl) (by kernel_rfl) (fun _ _ _ h => h) (Or.inl ⟨by rfl, ?_⟩) (by assumption) ?_
      rotate_left
      · intro w hSw
        try dsimp only at hSw
        go_simp
        try with_reducible rfl
      (try simp only [Act.put, List.setIfInBounds_toArray, List.set_cons_zero, List.set_cons_succ, List.getElem_toArray, List.getElem_cons_zero, List.getElem_cons_succ])
      refine wpAnyH_done (by kernel_rfl) ?_ _
      refine NoPanic.normal ?_
      go_wp2_with fail
      go_ret
      exact ⟨congrArg (fun l => Ending.returned (str l)) HF.out.symm, (((((Below.refl _ _).alloc (Nat.le_refl _) _).alloc (by simp <;> omega) _).alloc (by simp <;> omega) _).alloc (by simp <;> omega) _).alloc (by simp <;> omega) _ |>.drew⟩
    refine AllReadyH.cons (o := _) rfl (fun K hK => ?_) AllReadyH.nil
    go_simp
    refine hK.out _ _ (by refine ⟨?_, ?_, ?_⟩ <;> go_simp) (fun hHeld => ?_)
    clear hK K
    (try simp only [Act.put, List.setIfInBounds_toArray, List.set_cons_zero, List.set_cons_succ, List.getElem_toArray, List.getElem_cons_zero, List.getElem_cons_succ])
    refine wpAnyH_ready (rs := [6]) (by kernel_rfl) (by simp) ?_
    refine AllReadyH.cons (o := _) rfl (fun K hK => ?_) AllReadyH.nil
    go_simp
    with_reducible refine (N2.out _).mono ?_
    rintro e w4 ⟨rfl, rfl⟩
    try go_wp2_with fail
    refine hK.out _ _ (by refine ⟨?_, ?_, ?_⟩ <;> go_simp) (fun hHeld => ?_)
    clear hK K
    (try simp only [Act.put, List.setIfInBounds_toArray, List.set_cons_zero, List.set_cons_succ, List.getElem_toArray, List.getElem_cons_zero, List.getElem_cons_succ])
    refine wpAnyH_take (i := 7) (oi := _) (v := ?_) rfl (by kernel_rfl) (by kernel_rfl) (by kernel_rfl) (fun _ _ _ h => h) (Or.inl ⟨by rfl, ?_⟩) (by assumption) ?_
    rotate_left
    · intro w hSw
      try dsimp only at hSw
      go_simp
      try with_reducible rfl
    (try simp only [Act.put, List.setIfInBounds_toArray, List.set_cons_zero, List.set_cons_succ, List.getElem_toArray, List.getElem_cons_zero, List.getElem_cons_succ])
    refine wpAnyH_ready (rs := [10]) (by kernel_rfl) (by simp) ?_
    refine AllReadyH.cons (o := _) rfl (fun K hK => ?_) AllReadyH.nil
    go_simp
    with_reducible refine (N3.out _).mono ?_
    rintro e w4 ⟨rfl, rfl⟩
    try go_wp2_with fail
    refine hK.out _ _ (by refine ⟨?_, ?_, ?_⟩ <;> go_simp) (fun hHeld => ?_)
    clear hK K
    (try simp only [Act.put, List.setIfInBounds_toArray, List.set_cons_zero, List.set_cons_succ, List.getElem_toArray, List.getElem_cons_zero, List.getElem_cons_succ])
    refine wpAnyH_take (i := 11) (oi := _) (v := ?_) rfl (by kernel_rfl) (by kernel_rfl) (by kernel_rfl) (fun _ _ _ h => h) (Or.inl ⟨by rfl, ?_⟩) (by assumption) ?_
    rotate_left
    · intro w hSw
      try dsimp only at hSw
      go_simp
      try with_reducible rfl
    (try simp only [Act.put, List.setIfInBounds_toArray, List.set_cons_zero, List.set_cons_succ, List.getElem_toArray, List.getElem_cons_zero, List.getElem_cons_succ])
    refine wpAnyH_take (i := 14) (oi := _) (v := ?_) rfl (by kernel_rfl) (by kernel_rfl) (by kernel_rfl) (fun _ _ _ h => h) (Or.inl ⟨by rfl, ?_⟩) (by assumption) ?_
    rotate_left
    · intro w hSw
      try dsimp only at hSw
      go_simp
      try with_reducible rfl
    (try simp only [Act.put, List.setIfInBounds_toArray, List.set_cons_zero, List.set_cons_succ, List.getElem_toArray, List.getElem_cons_zero, List.getElem_cons_succ])
    refine wpAnyH_take (i := 15) (oi := _) (v := ?_) rfl (by kernel_rfl) (by kernel_rfl) (by kernel_rfl) (fun _ _ _ h => h) (Or.inl ⟨by rfl, ?_⟩) (by assumption) ?_
    rotate_left
    · intro w hSw
      try dsimp only at hSw
      go_simp
      try with_reducible rfl
    (try simp only [Act.put, List.setIfInBounds_toArray, List.set_cons_zero, List.set_cons_succ, List.getElem_toArray, List.getElem_cons_zero, List.getElem_cons_succ])
    refine wpAnyH_done (by kernel_rfl) ?_ _
    refine NoPanic.normal ?_
    go_wp2_with fail
    go_ret
    exact ⟨congrArg (fun l => Ending.returned (str l)) HF.out.symm, (((((Below.refl _ _).alloc (Nat.le_refl _) _).alloc (by simp <;> omega) _).alloc (by simp <;> omega) _).alloc (by simp <;> omega) _).alloc (by simp <;> omega) _ |>.drew⟩
  refine AllReadyH.cons (o := _) rfl (fun K hK => ?_) AllReadyH.nil
  go_simp
  refine hK.out _ _ (by refine ⟨?_, ?_, ?_⟩ <;> go_simp) (fun hHeld => ?_)
  clear hK K
  (try simp only [Act.put, List.setIfInBounds_toArray, List.set_cons_zero, List.set_cons_succ, List.getElem_toArray, List.getElem_cons_zero, List.getElem_cons_succ])
  refine wpAnyH_ready (rs := [2]) (by kernel_rfl) (by simp) ?_
  refine AllReadyH.cons (o := _) rfl (fun K hK => ?_) AllReadyH.nil
  go_simp
  with_reducible refine (N1.out _).mono ?_
  rintro e w4 ⟨rfl, rfl⟩
  try go_wp2_with fail
  refine hK.out _ _ (by refine ⟨?_, ?_, ?_⟩ <;> go_simp) (fun hHeld => ?_)
  clear hK K
  (try simp only [Act.put, List.setIfInBounds_toArray, List.set_cons_zero, List.set_cons_succ, List.getElem_toArray, List.getElem_cons_zero, List.getElem_cons_succ])
  refine wpAnyH_take (i := 3) (oi := _) (v := ?_) rfl (by kernel_rfl) (by kernel_rfl) (by kernel_rfl) (fun _ _ _ h => h) (Or.inl ⟨by rfl, ?_⟩) (by assumption) ?_
  rotate_left
  · intro w hSw
    try dsimp only at hSw
    go_simp
    try with_reducible rfl
  (try simp only [Act.put, List.setIfInBounds_toArray, List.set_cons_zero, List.set_cons_succ, List.getElem_toArray, List.getElem_cons_zero, List.getElem_cons_succ])
  refine wpAnyH_ready (rs := [6]) (by kernel_rfl) (by simp) ?_
  refine AllReadyH.cons (o := _) rfl (fun K hK => ?_) AllReadyH.nil
  go_simp
  with_reducible refine (N2.out _).mono ?_
  rintro e w4 ⟨rfl, rfl⟩
  try go_wp2_with fail
  refine hK.out _ _ (by refine ⟨?_, ?_, ?_⟩ <;> go_simp) (fun hHeld => ?_)
  clear hK K
  (try simp only [Act.put, List.setIfInBounds_toArray, List.set_cons_zero, List.set_cons_succ, List.getElem_toArray, List.getElem_cons_zero, List.getElem_cons_succ])
  refine wpAnyH_take (i := 7) (oi := _) (v := ?_) rfl (by kernel_rfl) (by kernel_rfl) (by kernel_rfl) (fun _ _ _ h => h) (Or.inl ⟨by rfl, ?_⟩) (by assumption) ?_
  rotate_left
  · intro w hSw
    try dsimp only at hSw
    go_simp
    try with_reducible rfl
  (try simp only [Act.put, List.setIfInBounds_toArray, List.set_cons_zero, List.set_cons_succ, List.getElem_toArray, List.getElem_cons_zero, List.getElem_cons_succ])
  refine wpAnyH_ready (rs := [10]) (by kernel_rfl) (by simp) ?_
  refine AllReadyH.cons (o := _) rfl (fun K hK => ?_) AllReadyH.nil
  go_simp
  with_reducible refine (N3.out _).mono ?_
  rintro e w4 ⟨rfl, rfl⟩
  try go_wp2_with fail
  refine hK.out _ _ (by refine ⟨?_, ?_, ?_⟩ <;> go_simp) (fun hHeld => ?_)
  clear hK K
  (try simp only [Act.put, List.setIfInBounds_toArray, List.set_cons_zero, List.set_cons_succ, List.getElem_toArray, List.getElem_cons_zero, List.getElem_cons_succ])
  refine wpAnyH_take (i := 11) (oi := _) (v := ?_) rfl (by kernel_rfl) (by kernel_rfl) (by kernel_rfl) (fun _ _ _ h => h) (Or.inl ⟨by rfl, ?_⟩) (by assumption) ?_
  rotate_left
  · intro w hSw
    try dsimp only at hSw
    go_simp
    try with_reducible rfl
  (try simp only [Act.put, List.setIfInBounds_toArray, List.set_cons_zero, List.set_cons_succ, List.getElem_toArray, List.getElem_cons_zero, List.getElem_cons_succ])
  refine wpAnyH_take (i := 14) (oi := _) (v := ?_) rfl (by kernel_rfl) (by kernel_rfl) (by kernel_rfl) (fun _ _ _ h => h) (Or.inl ⟨by rfl, ?_⟩) (by assumption) ?_
  rotate_left
  · intro w hSw
    try dsimp only at hSw
    go_simp
    try with_reducible rfl
  (try simp only [Act.put, List.setIfInBounds_toArray, List.set_cons_zero, List.set_cons_succ, List.getElem_toArray, List.getElem_cons_zero, List.getElem_cons_succ])
  refine wpAnyH_take (i := 15) (oi := _) (v := ?_) rfl (by kernel_rfl) (by kernel_rfl) (by kernel_rfl) (fun _ _ _ h => h) (Or.inl ⟨by rfl, ?_⟩) (by assumption) ?_
  rotate_left
  · intro w hSw
    try dsimp only at hSw
    go_simp
    try with_reducible rfl
  (try simp only [Act.put, List.setIfInBounds_toArray, List.set_cons_zero, List.set_cons_succ, List.getElem_toArray, List.getElem_cons_zero, List.getElem_cons_succ])
  refine wpAnyH_done (by kernel_rfl) ?_ _
  refine NoPanic.normal ?_
  go_wp2_with fail
  go_ret
  exact ⟨congrArg (fun l => Ending.returned (str l)) HF.out.symm, (((((Below.refl _ _).alloc (Nat.le_refl _) _).alloc (by simp <;> omega) _).alloc (by simp <;> omega) _).alloc (by simp <;> omega) _).alloc (by simp <;> omega) _ |>.drew⟩
theorem at_exit {K : Act → World → Prop} {Q : Exit → Act → World → Prop} {a : Act} {W : World} (F : World → Prop) (h : F W) (k : ∀ X, F X → Exit.then K Q Exit.normal a X) : Exit.then K Q Exit.normal a W := k W h
theorem low0 (w : World) (A B : Obj) (m : Nat) : (((w.alloc A).alloc B).drewN m).heap[w.heap.size]? = some A := heap_low w A B
theorem low1 (w : World) (A B : Obj) (n : Nat) : (((w.alloc A).drewN n).alloc B).heap[w.heap.size]? = some A := by
  have h : ((w.alloc A).drewN n).heap[w.heap.size]? = some A := heap_alloc_new w A
  rw [heap_alloc_old _ _ (Array.getElem?_eq_some_iff.1 h).1]
  exact h
theorem low2 (w : World) (A B : Obj) (n m : Nat) : ((((w.alloc A).drewN n).alloc B).drewN m).heap[w.heap.size]? = some A := low1 w A B n
theorem top0 (w : World) (A B : Obj) (m : Nat) : (((w.alloc A).alloc B).drewN m).heap[w.heap.size + 1]? = some B := heap_new2 w A B
theorem top1 (w : World) (A B : Obj) (n : Nat) : (((w.alloc A).drewN n).alloc B).heap[w.heap.size + 1]? = some B := by
  have := heap_alloc_new ((w.alloc A).drewN n) B
  have e : ((w.alloc A).drewN n).heap.size = w.heap.size + 1 := by show (w.alloc A).heap.size = _; simp
  rwa [e] at this
theorem top2 (w : World) (A B : Obj) (n m : Nat) : ((((w.alloc A).drewN n).alloc B).drewN m).heap[w.heap.size + 1]? = some B := top1 w A B n
theorem bel1 (w : World) (A B : Obj) (n : Nat) : Below w.heap.size w (((w.alloc A).drewN n).alloc B) := (below_drewN ((Below.refl _ _).alloc (Nat.le_refl _) _) _).alloc (by show w.heap.size ≤ (w.alloc A).heap.size; simp) _
theorem bel0 (w : World) (A B : Obj) (m : Nat) : Below w.heap.size w (((w.alloc A).alloc B).drewN m) := below_drewN (((Below.refl _ _).alloc (Nat.le_refl _) _).alloc (by simp) _) _
theorem bel2 (w : World) (A B : Obj) (n m : Nat) : Below w.heap.size w ((((w.alloc A).drewN n).alloc B).drewN m) := below_drewN (bel1 w A B n) _
set_option maxHeartbeats 1000000 in
theorem refRead_short (s : List UInt8) (w : World) (hs : s.length ≤ maxLen) (h : s.length ≠ 64) :
    Calls Try.prog 14 #[str s] w fun e w' => e = .returned (readV none) ∧ Below w.heap.size w w' := by
  unfold maxLen at hs
  have hq : ((s.length : Int) != 64) = true := by rw [bne_iff_ne]; omega
  have HQ := h
  clear h
  go_enter Try.func14, Try.ntmps14
  go_wp2
  refine bodyPost_ret (v := readV none) ?_ rfl ⟨rfl, (Below.refl _ _).alloc (Nat.le_refl _) _⟩
  exact results_row_tmp (p := 2) (q := 3) rfl _ _ w.heap.size _ rfl (load_geo _ _ _ _ _ (heap_alloc_new _ _))
set_option maxHeartbeats 2000000 in
theorem refRead_any (s : List UInt8) (w : World) (h : s.length = 64) :
    Calls Try.prog 14 #[str s] w fun e w' => e = .returned (readV (readL s)) ∧ Below w.heap.size w w' := by
  have hv : ∀ (n m : Nat), n + 4 = m → m ≤ 64 → ∀ W, Calls Try.prog 31 #[str ((s.take m).drop n)] W fun e w' => e = .returned (.int .i64 (leV ((s.drop n).take 4) : Nat)) ∧ ∃ n, w' = W.drewN n := by
    intro n m e hm W
    have e2 : (s.take m).drop n = (s.drop n).take 4 := by rw [List.drop_take]; congr 1; omega
    rw [e2]
    exact refValue_any _ (by simp; omega) W
  have V1 := Lib.hid (hv 8 12 rfl (by omega))
  have V2 := Lib.hid (hv 12 16 rfl (by omega))
  have V3 := Lib.hid (hv 16 20 rfl (by omega))
  clear hv
  have HG : Hid (readL s = if (⟨leV ((s.drop 8).take 4), leV ((s.drop 12).take 4), leV ((s.drop 16).take 4)⟩ : Gm).ok ∧ superL ⟨leV ((s.drop 8).take 4), leV ((s.drop 12).take 4), leV ((s.drop 16).take 4)⟩ = s then some ⟨leV ((s.drop 8).take 4), leV ((s.drop 12).take 4), leV ((s.drop 16).take 4)⟩ else none) := Lib.hid rfl
  generalize leV ((s.drop 8).take 4) = n1 at *
  generalize leV ((s.drop 12).take 4) = n2 at *
  generalize leV ((s.drop 16).take 4) = n3 at *
  generalize readL s = R at *
  have hl1 : 12 ≤ s.length := by omega
  have hl2 : 16 ≤ s.length := by omega
  have hl3 : 20 ≤ s.length := by omega
  have hq : ((s.length : Int) != 64) = false := by simp [h]
  have hq2 : (s.length : Int) = 64 := by omega
  have HH := Lib.hid h
  clear h
  go_enter Try.func14, Try.ntmps14
  go_wp2_with fail
  go_region_held3 (fun W => True)
    (trivial)
    (first | (go_at_call 31; ((first | (with_reducible refine (V1.out _).mono ?_) | (with_reducible refine (V2.out _).mono ?_) | (with_reducible refine (V3.out _).mono ?_)); rintro e w4 ⟨rfl, nn, rfl⟩)))
  all_goals
    refine at_exit (fun X => X.heap[w.heap.size]? = some (.cells #[.int .i64 0, .int .i64 0, .int .i64 0] 23 (0, 0)) ∧ X.heap[w.heap.size + 1]? = some (.cells #[.int .i64 (n1 : Int), .int .i64 (n2 : Int), .int .i64 (n3 : Int)] 23 (0, 0)) ∧ Below w.heap.size w X) ⟨?_, ?_, ?_⟩ ?_
    · first
      | with_reducible exact low1 w _ _ _
      | (rw [heap_setCell_other _ _ _ _ (by simp), heap_setCell_other _ _ _ _ (by simp), heap_setCell_other _ _ _ _ (by simp)]; first | with_reducible exact low0 w _ _ _ | with_reducible exact low2 w _ _ _ _)
    · first
      | with_reducible exact top1 w _ _ _
      | with_reducible exact set3g (top0 w _ _ _) _ _ _
      | with_reducible exact set3g (top2 w _ _ _ _) _ _ _
    · first
      | with_reducible exact bel1 w _ _ _
      | with_reducible exact (((bel0 w _ _ _).setCell (by simp) _).setCell (by simp) _).setCell (by simp) _
      | with_reducible exact (((bel2 w _ _ _ _).setCell (by simp) _).setCell (by simp) _).setCell (by simp) _
  all_goals
    rintro X ⟨hA, hB, hb⟩
    have r2 := frozen_of_row X w.heap.size 0 _ 23 hA
    have r3 := frozen_of_row X w.heap.size 1 _ 23 hA
    have r4 := frozen_of_row X w.heap.size 2 _ 23 hA
    have c0 := cell_of_row X w.heap.size 0 _ 23 (0, 0) hA
    have c1 := cell_of_row X w.heap.size 1 _ 23 (0, 0) hA
    have c2 := cell_of_row X w.heap.size 2 _ 23 (0, 0) hA
    have d0 := cell_of_row X (w.heap.size + 1) 0 _ 23 (0, 0) hB
    have d1 := cell_of_row X (w.heap.size + 1) 1 _ 23 (0, 0) hB
    have d2 := cell_of_row X (w.heap.size + 1) 2 _ 23 (0, 0) hB
    simp only [List.getElem?_toArray, List.getElem?_cons_zero, List.getElem?_cons_succ] at c0 c1 c2 d0 d1 d2
    have HA := Lib.hid hA
    have HB := Lib.hid hB
    clear hA hB
    by_cases hok : (⟨n1, n2, n3⟩ : Gm).ok
    · have hM : ∀ W, Calls Try.prog 16 #[geoV (n1 : Int) (n2 : Int) (n3 : Int)] W fun e w' => e = .returned (.bool true) ∧ Below W.heap.size W w' := fun W => refMay_ok _ _ _ W (gm_mayI hok)
      have hS : ∀ W, Calls Try.prog 23 #[geoV (n1 : Int) (n2 : Int) (n3 : Int)] W fun e w' => e = .returned (str (superL ⟨n1, n2, n3⟩)) ∧ Below W.heap.size W w' := fun W => refSuper_any ⟨n1, n2, n3⟩ W hok
      have HM := Lib.hid hM
      clear hM
      by_cases heq : superL ⟨n1, n2, n3⟩ = s
      · have HR : Hid (R = some ⟨n1, n2, n3⟩) := Lib.hid (by rw [HG.out, if_pos ⟨hok, heq⟩])
        rw [heq] at hS
        have HS := Lib.hid hS
        clear hS heq hok
        go_wp2_with fail
        with_reducible refine (HM.out _).mono ?_
        rintro e X1 ⟨rfl, hb1⟩
        have hA := (hb1.block _ (Array.getElem?_eq_some_iff.1 HA.out).1).trans HA.out
        have hB := (hb1.block _ (Array.getElem?_eq_some_iff.1 HB.out).1).trans HB.out
        have hb := hb.trans (hb1.mono hb.size)
        clear hb1 r2 r3 r4 c0 c1 c2 d0 d1 d2 HA HB
        have r2 := frozen_of_row X1 w.heap.size 0 _ 23 hA
        have r3 := frozen_of_row X1 w.heap.size 1 _ 23 hA
        have r4 := frozen_of_row X1 w.heap.size 2 _ 23 hA
        have c0 := cell_of_row X1 w.heap.size 0 _ 23 (0, 0) hA
        have c1 := cell_of_row X1 w.heap.size 1 _ 23 (0, 0) hA
        have c2 := cell_of_row X1 w.heap.size 2 _ 23 (0, 0) hA
        have d0 := cell_of_row X1 (w.heap.size + 1) 0 _ 23 (0, 0) hB
        have d1 := cell_of_row X1 (w.heap.size + 1) 1 _ 23 (0, 0) hB
        have d2 := cell_of_row X1 (w.heap.size + 1) 2 _ 23 (0, 0) hB
        simp only [List.getElem?_toArray, List.getElem?_cons_zero, List.getElem?_cons_succ] at c0 c1 c2 d0 d1 d2
        have HA := Lib.hid hA
        have HB := Lib.hid hB
        clear hA hB
        go_wp2_with fail
        with_reducible refine (HS.out _).mono ?_
        rintro e X2 ⟨rfl, hb2⟩
        have hA := (hb2.block _ (Array.getElem?_eq_some_iff.1 HA.out).1).trans HA.out
        have hB := (hb2.block _ (Array.getElem?_eq_some_iff.1 HB.out).1).trans HB.out
        have hb := hb.trans (hb2.mono hb.size)
        clear hb2 r2 r3 r4 c0 c1 c2 d0 d1 d2 HA HB
        have r2 := frozen_of_row X2 w.heap.size 0 _ 23 hA
        have r3 := frozen_of_row X2 w.heap.size 1 _ 23 hA
        have r4 := frozen_of_row X2 w.heap.size 2 _ 23 hA
        have c0 := cell_of_row X2 w.heap.size 0 _ 23 (0, 0) hA
        have c1 := cell_of_row X2 w.heap.size 1 _ 23 (0, 0) hA
        have c2 := cell_of_row X2 w.heap.size 2 _ 23 (0, 0) hA
        have d0 := cell_of_row X2 (w.heap.size + 1) 0 _ 23 (0, 0) hB
        have d1 := cell_of_row X2 (w.heap.size + 1) 1 _ 23 (0, 0) hB
        have d2 := cell_of_row X2 (w.heap.size + 1) 2 _ 23 (0, 0) hB
        simp only [List.getElem?_toArray, List.getElem?_cons_zero, List.getElem?_cons_succ] at c0 c1 c2 d0 d1 d2
        have HA := Lib.hid hA
        have HB := Lib.hid hB
        clear hA hB
        go_wp2_with fail
        refine bodyPost_ret (v := readV (some ⟨n1, n2, n3⟩)) ?_ rfl ⟨by rw [HR.out], ((hb.setCell (Nat.le_refl _) _).setCell (Nat.le_refl _) _).setCell (Nat.le_refl _) _⟩
        exact results_row_tmp (p := 2) (q := 3) rfl _ _ w.heap.size _ rfl (load_geo _ _ _ _ _ (set3g HA.out _ _ _))
      · have HR : Hid (R = none) := Lib.hid (by rw [HG.out, if_neg (fun h => heq h.2)])
        have hne : (superL ⟨n1, n2, n3⟩ == s) = false := by simpa using heq
        generalize superL ⟨n1, n2, n3⟩ = tt at hS hne
        have HS := Lib.hid hS
        clear hS heq hok
        go_wp2_with fail
        with_reducible refine (HM.out _).mono ?_
        rintro e X1 ⟨rfl, hb1⟩
        have hA := (hb1.block _ (Array.getElem?_eq_some_iff.1 HA.out).1).trans HA.out
        have hB := (hb1.block _ (Array.getElem?_eq_some_iff.1 HB.out).1).trans HB.out
        have hb := hb.trans (hb1.mono hb.size)
        clear hb1 r2 r3 r4 c0 c1 c2 d0 d1 d2 HA HB
        have r2 := frozen_of_row X1 w.heap.size 0 _ 23 hA
        have r3 := frozen_of_row X1 w.heap.size 1 _ 23 hA
        have r4 := frozen_of_row X1 w.heap.size 2 _ 23 hA
        have c0 := cell_of_row X1 w.heap.size 0 _ 23 (0, 0) hA
        have c1 := cell_of_row X1 w.heap.size 1 _ 23 (0, 0) hA
        have c2 := cell_of_row X1 w.heap.size 2 _ 23 (0, 0) hA
        have d0 := cell_of_row X1 (w.heap.size + 1) 0 _ 23 (0, 0) hB
        have d1 := cell_of_row X1 (w.heap.size + 1) 1 _ 23 (0, 0) hB
        have d2 := cell_of_row X1 (w.heap.size + 1) 2 _ 23 (0, 0) hB
        simp only [List.getElem?_toArray, List.getElem?_cons_zero, List.getElem?_cons_succ] at c0 c1 c2 d0 d1 d2
        have HA := Lib.hid hA
        have HB := Lib.hid hB
        clear hA hB
        go_wp2_with fail
        with_reducible refine (HS.out _).mono ?_
        rintro e X2 ⟨rfl, hb2⟩
        have hA := (hb2.block _ (Array.getElem?_eq_some_iff.1 HA.out).1).trans HA.out
        have hB := (hb2.block _ (Array.getElem?_eq_some_iff.1 HB.out).1).trans HB.out
        have hb := hb.trans (hb2.mono hb.size)
        clear hb2 r2 r3 r4 c0 c1 c2 d0 d1 d2 HA HB
        have r2 := frozen_of_row X2 w.heap.size 0 _ 23 hA
        have r3 := frozen_of_row X2 w.heap.size 1 _ 23 hA
        have r4 := frozen_of_row X2 w.heap.size 2 _ 23 hA
        have c0 := cell_of_row X2 w.heap.size 0 _ 23 (0, 0) hA
        have c1 := cell_of_row X2 w.heap.size 1 _ 23 (0, 0) hA
        have c2 := cell_of_row X2 w.heap.size 2 _ 23 (0, 0) hA
        have d0 := cell_of_row X2 (w.heap.size + 1) 0 _ 23 (0, 0) hB
        have d1 := cell_of_row X2 (w.heap.size + 1) 1 _ 23 (0, 0) hB
        have d2 := cell_of_row X2 (w.heap.size + 1) 2 _ 23 (0, 0) hB
        simp only [List.getElem?_toArray, List.getElem?_cons_zero, List.getElem?_cons_succ] at c0 c1 c2 d0 d1 d2
        have HA := Lib.hid hA
        have HB := Lib.hid hB
        clear hA hB
        go_wp2_with fail
        refine bodyPost_ret (v := readV none) ?_ rfl ⟨by rw [HR.out], ((hb.setCell (Nat.le_refl _) _).setCell (Nat.le_refl _) _).setCell (Nat.le_refl _) _⟩
        exact results_row_tmp (p := 2) (q := 3) rfl _ _ w.heap.size _ rfl (load_geo _ _ _ _ _ (set3g HA.out _ _ _))
    · have HR : Hid (R = none) := Lib.hid (by rw [HG.out, if_neg (fun h => hok h.1)])
      have hM : ∀ W, Calls Try.prog 16 #[geoV (n1 : Int) (n2 : Int) (n3 : Int)] W fun e w' => e = .returned (.bool false) ∧ Below W.heap.size W w' := fun W => refMay_bad _ _ _ W (fun hm => hok (by unfold mayI at hm; unfold Gm.ok; simp only; omega))
      have HM := Lib.hid hM
      clear hM hok
      go_wp2_with fail
      with_reducible refine (HM.out _).mono ?_
      rintro e X1 ⟨rfl, hb1⟩
      have hA := (hb1.block _ (Array.getElem?_eq_some_iff.1 HA.out).1).trans HA.out
      have hB := (hb1.block _ (Array.getElem?_eq_some_iff.1 HB.out).1).trans HB.out
      have hb := hb.trans (hb1.mono hb.size)
      clear hb1 r2 r3 r4 c0 c1 c2 d0 d1 d2 HA HB
      have r2 := frozen_of_row X1 w.heap.size 0 _ 23 hA
      have r3 := frozen_of_row X1 w.heap.size 1 _ 23 hA
      have r4 := frozen_of_row X1 w.heap.size 2 _ 23 hA
      have c0 := cell_of_row X1 w.heap.size 0 _ 23 (0, 0) hA
      have c1 := cell_of_row X1 w.heap.size 1 _ 23 (0, 0) hA
      have c2 := cell_of_row X1 w.heap.size 2 _ 23 (0, 0) hA
      have d0 := cell_of_row X1 (w.heap.size + 1) 0 _ 23 (0, 0) hB
      have d1 := cell_of_row X1 (w.heap.size + 1) 1 _ 23 (0, 0) hB
      have d2 := cell_of_row X1 (w.heap.size + 1) 2 _ 23 (0, 0) hB
      simp only [List.getElem?_toArray, List.getElem?_cons_zero, List.getElem?_cons_succ] at c0 c1 c2 d0 d1 d2
      have HA := Lib.hid hA
      have HB := Lib.hid hB
      clear hA hB
      go_wp2_with fail
      refine bodyPost_ret (v := readV none) ?_ rfl ⟨by rw [HR.out], ((hb.setCell (Nat.le_refl _) _).setCell (Nat.le_refl _) _).setCell (Nat.le_refl _) _⟩
      exact results_row_tmp (p := 2) (q := 3) rfl _ _ w.heap.size _ rfl (load_geo _ _ _ _ _ (set3g HA.out _ _ _))
end Go.Proofs.Ytoighnnjadmoiaa
