/- Layer 7 (inode), the document's answers: Get. -/
import Derived.Test.YtpipjjngffajlaaInodeR2
import Derived.Test.YtpipjjngffajlaaInodeG
namespace Go.Proofs.Ytpipjjngffajlaa
open Go.RowKit
set_option linter.unusedVariables false
set_option linter.unusedSimpArgs false
set_option maxRecDepth 10000
set_option maxHeartbeats 1000000 in
theorem refGet_short (s : List UInt8) (w : World) (h : s.length < 32) :
    Calls Try.prog 10 #[str s] w fun e w' => e = .returned (.tuple #[Im.nought.v, .int .i64 6]) ∧ Below w.heap.size w w' := by
  go_enter Try.func10, Try.ntmps10
  go_wp2
  refine bodyPost_ret (v := .tuple #[Im.nought.v, .int .i64 6]) ?_ rfl ⟨rfl, (Below.refl _ _).alloc (Nat.le_refl _) _⟩
  exact results_row_tmp' (p := 2) (q := 3) rfl _ _ w.heap.size _ rfl (load_ino _ _ Im.nought (heap_alloc_new _ _))
theorem set8_other {W : World} {g k : Nat} {o : Obj} (h : W.heap[k]? = some o) (hn : g ≠ k) (a b c d e f i j : Value) : ((((((((W.setCell ⟨g, 0, none⟩ a).setCell ⟨g, 1, none⟩ b).setCell ⟨g, 2, none⟩ c).setCell ⟨g, 3, none⟩ d).setCell ⟨g, 4, none⟩ e).setCell ⟨g, 5, none⟩ f).setCell ⟨g, 6, none⟩ i).setCell ⟨g, 7, none⟩ j).heap[k]? = some o := by
  rw [heap_setCell_other _ _ _ _ (by simpa using hn.symm), heap_setCell_other _ _ _ _ (by simpa using hn.symm), heap_setCell_other _ _ _ _ (by simpa using hn.symm), heap_setCell_other _ _ _ _ (by simpa using hn.symm), heap_setCell_other _ _ _ _ (by simpa using hn.symm), heap_setCell_other _ _ _ _ (by simpa using hn.symm), heap_setCell_other _ _ _ _ (by simpa using hn.symm), heap_setCell_other _ _ _ _ (by simpa using hn.symm)]
  exact h
theorem alloc_at {w : World} (W : World) (o : Obj) (h : W.heap.size = w.heap.size + 1) : (W.alloc o).heap[w.heap.size + 1]? = some o := by
  rw [← h]; exact heap_alloc_new W o
theorem heap_keep' {W : World} {g : Nat} {p : Obj} (h : W.heap[g]? = some p) (o : Obj) : (W.alloc o).heap[g]? = some p := by
  rw [heap_alloc_old _ _ (row_lt' h)]; exact h
theorem store_ino (W : World) (g : Nat) (a b c d e f i j : Value) (old : Array Value) (hg : W.heap[g]? = some (.cells old 26 (0, 0))) (ho : old.size = 8) (h1 : #[a, b, c, d, e, f, i, j].all (·.oneCell') = true) :
    (storeVar 26 ⟨g, 0, none⟩ (.agg #[a, b, c, d, e, f, i, j])).run Try.prog W = .ok () (W.setRow g #[a, b, c, d, e, f, i, j]) := by
  have sz := Try.sizeOf26
  have h := run_storeCells_row (P := Try.prog) W g 26 old [a, b, c, d, e, f, i, j] hg ho h1
  unfold storeVar
  simp only [Sem.run_bind, sz, Result.andThen_ok, Value.cells]
  simpa using h
theorem wpList_store_ino {w : World} {ops : Array Oper} {rest : List Oper} {tp : TypeId} {pos : String} {aft : Array Edge} {ac : Act} {Q : Exit → Act → World → Prop} (x y : Operand) (g : Nat) (a b c d e f i j : Value) (old : Array Value)
    (hx : ac.eval x = .pointer (some ⟨g, 0, none⟩)) (hy : ac.eval y = .agg #[a, b, c, d, e, f, i, j]) (hg : w.heap[g]? = some (.cells old 26 (0, 0))) (ho : old.size = 8) (h1 : #[a, b, c, d, e, f, i, j].all (·.oneCell') = true)
    (h : wpList Try.prog ops Q rest (ac.put none undef) (w.setRow g #[a, b, c, d, e, f, i, j])) : wpList Try.prog ops Q (⟨none, .store 26 x y, tp, pos, aft, none⟩ :: rest) ac w :=
  wpList_plain rfl fun K hK => wp_store_row _ _ _ rfl g _ hx hy (store_ino w g _ _ _ _ _ _ _ _ _ hg ho h1) (hK _ _ h)
def Heldp (p : Prop) : Prop := p
theorem Heldp.out {p : Prop} (h : Heldp p) : p := h
theorem setRow_other {W : World} {g k : Nat} {o : Obj} (h : W.heap[k]? = some o) (hn : g ≠ k) (cs : Array Value) : (W.setRow g cs).heap[k]? = some o := by
  simp only [World.setRow, Array.getElem?_modify]
  rw [if_neg hn]
  exact h
theorem heap_as {W X : World} {g : Nat} {o : Option Obj} (h : X.heap = W.heap) (e : W.heap[g]? = o) : X.heap[g]? = o := by rw [h]; exact e
theorem exec_build {P : Program} {ρ : Operand → Value} {o : Oper} {t : TypeId} {parts : Array (Nat × Operand)} {vals : Array (Nat × Value)} {v : Value} {w : World} (h : (Instr.build t vals).run P w = .ok v w) (ho : o.op = .build t parts) (hv : parts.map (fun (i, x) => (i, ρ x)) = vals) : (execOp ρ o).run P w = .ok (Next.value v) w := by
  subst hv
  unfold execOp
  simp only [ho, Sem.run_bind, h, Result.andThen_ok, Sem.run_pure]
theorem build_ino (b : UInt8) (n1 z0 n4 n5 n6 n7 n8 : Nat) (W : World) : (Instr.build 26 #[(0, .int .u8 b.toNat), (1, w16 n1), (2, .int .u32 z0), (3, .agg #[w16 n4, w16 n5, w16 n6, w16 n7]), (4, w16 n8)]).run Try.prog W = .ok (.agg #[.int .u8 b.toNat, w16 n1, .int .u32 z0, w16 n4, w16 n5, w16 n6, w16 n7, w16 n8]) W := run_build W _ _ _ (by kernel_rfl)
theorem at_same (l : List UInt8) (j : Nat) (i : Int) (hi : i = ((2 * j : Nat) : Int)) (w : World) (h : 2 * j + 2 ≤ l.length) (hl : l.length ≤ 1000000) :
    Calls Try.prog 29 #[str l, .int .i64 i] w fun e w' => e = .returned (w16 (num2 l j)) ∧ w'.heap = w.heap ∧ Below w.heap.size w w' := by
  refine (at_any l j i hi w h hl).mono ?_
  rintro e w' ⟨rfl, n, rfl⟩
  exact ⟨rfl, rfl, below_drewN (Below.refl _ _) n⟩
set_option maxRecDepth 100000 in
set_option maxHeartbeats 40000000 in
theorem refGet_more (b : UInt8) (r : List UInt8) (w : World) (h : 32 ≤ (b :: r).length) (hl : (b :: r).length ≤ 1000000) :
    Calls Try.prog 10 #[str (b :: r)] w fun e w' => e = .returned (getV (getL (b :: r))) ∧ Below w.heap.size w w' := by
  have A1 := Lib.hid fun W => at_same (b :: r) 1 2 rfl W (by omega) hl
  have A2 := Lib.hid fun W => at_same (b :: r) 2 4 rfl W (by omega) hl
  have A3 := Lib.hid fun W => at_same (b :: r) 3 6 rfl W (by omega) hl
  have A4 := Lib.hid fun W => at_same (b :: r) 4 8 rfl W (by omega) hl
  have A5 := Lib.hid fun W => at_same (b :: r) 5 10 rfl W (by omega) hl
  have A6 := Lib.hid fun W => at_same (b :: r) 6 12 rfl W (by omega) hl
  have A7 := Lib.hid fun W => at_same (b :: r) 7 14 rfl W (by omega) hl
  have A8 := Lib.hid fun W => at_same (b :: r) 8 16 rfl W (by omega) hl
  have hk0 : num2 (b :: r) 0 % 256 = b.toNat := by
    rw [num2_bytes _ 0 (by omega)]
    have := b.toNat_lt
    have := ((b :: r)[2 * 0 + 1]'(by omega)).toNat_lt
    simp only [Nat.mul_zero, List.getElem_cons_zero]
    omega
  have b2 := num2_lt (b :: r) 2
  have b3 := num2_lt (b :: r) 3
  have HX : Hid (getI (b :: r) = ⟨b.toNat, num2 (b :: r) 1, num2 (b :: r) 2 + 65536 * num2 (b :: r) 3, num2 (b :: r) 4, num2 (b :: r) 5, num2 (b :: r) 6, num2 (b :: r) 7, num2 (b :: r) 8⟩) := Lib.hid (by rw [← hk0]; rfl)
  have HF := Lib.hid (getI_fits (b :: r))
  have hor := or32 (num2 (b :: r) 2) (num2 (b :: r) 3) b2 b3
  generalize num2 (b :: r) 2 + 65536 * num2 (b :: r) 3 = z0 at *
  generalize num2 (b :: r) 1 = n1 at *
  generalize num2 (b :: r) 2 = n2 at *
  generalize num2 (b :: r) 3 = n3 at *
  generalize num2 (b :: r) 4 = n4 at *
  generalize num2 (b :: r) 5 = n5 at *
  generalize num2 (b :: r) 6 = n6 at *
  generalize num2 (b :: r) 7 = n7 at *
  generalize num2 (b :: r) 8 = n8 at *
  have hw2 : IntKind.u32.wrap (n2 : Int) = (n2 : Int) := IntWalk.u32_in _ (by omega)
  have hw3 : IntKind.u32.wrap (n3 : Int) = (n3 : Int) := IntWalk.u32_in _ (by omega)
  have hw4 : IntKind.u32.wrap ((n3 : Int) * 65536) = (n3 : Int) * 65536 := IntWalk.u32_in _ (by omega)
  clear hk0 b2 b3
  have h32 : ¬ ((b :: r).length : Int) < 32 := by omega
  go_enter Try.func10, Try.ntmps10
  go_upto_region 3 with fail
  go_cut [4] (fun q X => q = .pointer (some ⟨w.heap.size + 1, 0, none⟩) ∧ X.heap[w.heap.size]? = some (.cells #[.int .u8 0, .int .u16 0, .int .u32 0, .int .u16 0, .int .u16 0, .int .u16 0, .int .u16 0, .int .u16 0] 26 (0, 0)) ∧ X.heap[w.heap.size + 1]? = some (.cells #[.int .u8 b.toNat, w16 n1, .int .u32 z0, w16 n4, w16 n5, w16 n6, w16 n7, w16 n8] 26 (0, 0)) ∧ Below w.heap.size w X)
  case first =>
    as_aux_lemma =>
      go_wp2_with fail
      have HE := Lib.hid (heap_alloc_new w (.cells #[.int .u8 0, .int .u16 0, .int .u32 0, .int .u16 0, .int .u16 0, .int .u16 0, .int .u16 0, .int .u16 0] 26))
      have hsz : (w.alloc (.cells #[.int .u8 0, .int .u16 0, .int .u32 0, .int .u16 0, .int .u16 0, .int .u16 0, .int .u16 0, .int .u16 0] 26)).drew.heap.size = w.heap.size + 1 := by simp
      have hX := Lib.hid (((Below.refl w.heap.size w).alloc (Nat.le_refl _) (.cells #[.int .u8 0, .int .u16 0, .int .u32 0, .int .u16 0, .int .u16 0, .int .u16 0, .int .u16 0, .int .u16 0] 26)).drew)
      have HE : Hid ((w.alloc (.cells #[.int .u8 0, .int .u16 0, .int .u32 0, .int .u16 0, .int .u16 0, .int .u16 0, .int .u16 0, .int .u16 0] 26)).drew.heap[w.heap.size]? = _) := HE
      refine wp_region_held_drew (S := fun W => True) (by kernel_rfl) trivial (fun hHeld => ?_)
      generalize (w.alloc (.cells #[.int .u8 0, .int .u16 0, .int .u32 0, .int .u16 0, .int .u16 0, .int .u16 0, .int .u16 0, .int .u16 0] 26)).drew = W0 at *
      refine wpAnyH_take (i := 0) (oi := _) (v := ?_) rfl (by kernel_rfl) (by kernel_rfl) (by kernel_rfl) (fun _ _ _ h => h) (Or.inl ⟨by rfl, ?_⟩) (by assumption) ?_
      rotate_left
      · intro w hSw
        try dsimp only at hSw
        go_simp
        try with_reducible rfl
      (try simp only [Act.put, List.setIfInBounds_toArray, List.set_cons_zero, List.set_cons_succ, List.getElem_toArray, List.getElem_cons_zero, List.getElem_cons_succ])
      refine wpAnyH_take (i := 1) (oi := _) (v := ?_) rfl (by kernel_rfl) (by kernel_rfl) (by kernel_rfl) (fun _ _ _ h => h) (Or.inl ⟨by rfl, ?_⟩) (by assumption) ?_
      rotate_left
      · intro w hSw
        try dsimp only at hSw
        go_simp
        try with_reducible rfl
      (try simp only [Act.put, List.setIfInBounds_toArray, List.set_cons_zero, List.set_cons_succ, List.getElem_toArray, List.getElem_cons_zero, List.getElem_cons_succ])
      refine wpAnyH_take (i := 2) (oi := _) (v := ?_) rfl (by kernel_rfl) (by kernel_rfl) (by kernel_rfl) (fun _ _ _ h => h) (Or.inl ⟨by rfl, ?_⟩) (by assumption) ?_
      rotate_left
      · intro w hSw
        try dsimp only at hSw
        go_simp
        try with_reducible rfl
      (try simp only [Act.put, List.setIfInBounds_toArray, List.set_cons_zero, List.set_cons_succ, List.getElem_toArray, List.getElem_cons_zero, List.getElem_cons_succ])
      refine wpAnyH_take (i := 4) (oi := _) (v := ?_) rfl (by kernel_rfl) (by kernel_rfl) (by kernel_rfl) (fun _ _ _ h => h) (Or.inl ⟨by rfl, ?_⟩) (by assumption) ?_
      rotate_left
      · intro w hSw
        try dsimp only at hSw
        go_simp
        try with_reducible rfl
      (try simp only [Act.put, List.setIfInBounds_toArray, List.set_cons_zero, List.set_cons_succ, List.getElem_toArray, List.getElem_cons_zero, List.getElem_cons_succ])
      refine wpAnyH_take (i := 7) (oi := _) (v := ?_) rfl (by kernel_rfl) (by kernel_rfl) (by kernel_rfl) (fun _ _ _ h => h) (Or.inl ⟨by rfl, ?_⟩) (by assumption) ?_
      rotate_left
      · intro w hSw
        try dsimp only at hSw
        go_simp
        try with_reducible rfl
      (try simp only [Act.put, List.setIfInBounds_toArray, List.set_cons_zero, List.set_cons_succ, List.getElem_toArray, List.getElem_cons_zero, List.getElem_cons_succ])
      refine wpAnyH_take (i := 12) (oi := _) (v := ?_) rfl (by kernel_rfl) (by kernel_rfl) (by kernel_rfl) (fun _ _ _ h => h) (Or.inl ⟨by rfl, ?_⟩) (by assumption) ?_
      rotate_left
      · intro w hSw
        try dsimp only at hSw
        go_simp
        try with_reducible rfl
      (try simp only [Act.put, List.setIfInBounds_toArray, List.set_cons_zero, List.set_cons_succ, List.getElem_toArray, List.getElem_cons_zero, List.getElem_cons_succ])
      refine wpAnyH_take (i := 14) (oi := _) (v := ?_) rfl (by kernel_rfl) (by kernel_rfl) (by kernel_rfl) (fun _ _ _ h => h) (Or.inl ⟨by rfl, ?_⟩) (by assumption) ?_
      rotate_left
      · intro w hSw
        try dsimp only at hSw
        go_simp
        try with_reducible rfl
      (try simp only [Act.put, List.setIfInBounds_toArray, List.set_cons_zero, List.set_cons_succ, List.getElem_toArray, List.getElem_cons_zero, List.getElem_cons_succ])
      refine wpAnyH_take (i := 16) (oi := _) (v := ?_) rfl (by kernel_rfl) (by kernel_rfl) (by kernel_rfl) (fun _ _ _ h => h) (Or.inl ⟨by rfl, ?_⟩) (by assumption) ?_
      rotate_left
      · intro w hSw
        try dsimp only at hSw
        go_simp
        try with_reducible rfl
      (try simp only [Act.put, List.setIfInBounds_toArray, List.set_cons_zero, List.set_cons_succ, List.getElem_toArray, List.getElem_cons_zero, List.getElem_cons_succ])
      refine wpAnyH_take (i := 18) (oi := _) (v := ?_) rfl (by kernel_rfl) (by kernel_rfl) (by kernel_rfl) (fun _ _ _ h => h) (Or.inl ⟨by rfl, ?_⟩) (by assumption) ?_
      rotate_left
      · intro w hSw
        try dsimp only at hSw
        go_simp
        try with_reducible rfl
      (try simp only [Act.put, List.setIfInBounds_toArray, List.set_cons_zero, List.set_cons_succ, List.getElem_toArray, List.getElem_cons_zero, List.getElem_cons_succ])
      refine wpAnyH_take (i := 21) (oi := _) (v := ?_) rfl (by kernel_rfl) (by kernel_rfl) (by kernel_rfl) (fun _ _ _ h => h) (Or.inl ⟨by rfl, ?_⟩) (by assumption) ?_
      rotate_left
      · intro w hSw
        try dsimp only at hSw
        go_simp
        try with_reducible rfl
      (try simp only [Act.put, List.setIfInBounds_toArray, List.set_cons_zero, List.set_cons_succ, List.getElem_toArray, List.getElem_cons_zero, List.getElem_cons_succ])
      refine wpAnyH_ready (rs := [3, 24]) (by kernel_rfl) (by simp) ?_
      refine AllReadyH.cons (o := _) rfl (fun K hK => ?_) ?_
      · go_simp
        with_reducible refine (A1.out _).mono ?_
        rintro e W1 ⟨rfl, hh, hs⟩
        replace HE := Lib.hid (heap_as hh HE.out)
        replace hsz : W1.heap.size = w.heap.size + 1 := by rw [hh, hsz]
        replace hX := Lib.hid (hX.out.trans (hs.mono hX.out.size))
        clear hs hh
        refine hK.out _ _ trivial (fun _ => ?_)
        clear hK K
        (try simp only [Act.put, List.setIfInBounds_toArray, List.set_cons_zero, List.set_cons_succ, List.getElem_toArray, List.getElem_cons_zero, List.getElem_cons_succ])
        as_aux_lemma =>
          refine wpAnyH_ready (rs := [5, 24]) (by kernel_rfl) (by simp) ?_
          refine AllReadyH.cons (o := _) rfl (fun K hK => ?_) ?_
          · go_simp
            with_reducible refine (A2.out _).mono ?_
            rintro e W2 ⟨rfl, hh, hs⟩
            replace HE := Lib.hid (heap_as hh HE.out)
            replace hsz : W2.heap.size = w.heap.size + 1 := by rw [hh, hsz]
            replace hX := Lib.hid (hX.out.trans (hs.mono hX.out.size))
            clear hs hh
            refine hK.out _ _ trivial (fun _ => ?_)
            clear hK K
            (try simp only [Act.put, List.setIfInBounds_toArray, List.set_cons_zero, List.set_cons_succ, List.getElem_toArray, List.getElem_cons_zero, List.getElem_cons_succ])
            refine wpAnyH_take (i := 6) (oi := _) (v := ?_) rfl (by kernel_rfl) (by kernel_rfl) (by kernel_rfl) (fun _ _ _ h => h) (Or.inl ⟨by rfl, ?_⟩) (by assumption) ?_
            rotate_left
            · intro w hSw
              try dsimp only at hSw
              go_simp
              try with_reducible rfl
            (try simp only [Act.put, List.setIfInBounds_toArray, List.set_cons_zero, List.set_cons_succ, List.getElem_toArray, List.getElem_cons_zero, List.getElem_cons_succ])
            as_aux_lemma =>
              refine wpAnyH_ready (rs := [8, 24]) (by kernel_rfl) (by simp) ?_
              refine AllReadyH.cons (o := _) rfl (fun K hK => ?_) ?_
              · go_simp
                with_reducible refine (A3.out _).mono ?_
                rintro e W3 ⟨rfl, hh, hs⟩
                replace HE := Lib.hid (heap_as hh HE.out)
                replace hsz : W3.heap.size = w.heap.size + 1 := by rw [hh, hsz]
                replace hX := Lib.hid (hX.out.trans (hs.mono hX.out.size))
                clear hs hh
                refine hK.out _ _ trivial (fun _ => ?_)
                clear hK K
                (try simp only [Act.put, List.setIfInBounds_toArray, List.set_cons_zero, List.set_cons_succ, List.getElem_toArray, List.getElem_cons_zero, List.getElem_cons_succ])
                refine wpAnyH_take (i := 9) (oi := _) (v := ?_) rfl (by kernel_rfl) (by kernel_rfl) (by kernel_rfl) (fun _ _ _ h => h) (Or.inl ⟨by rfl, ?_⟩) (by assumption) ?_
                rotate_left
                · intro w hSw
                  try dsimp only at hSw
                  go_simp
                  try with_reducible rfl
                (try simp only [Act.put, List.setIfInBounds_toArray, List.set_cons_zero, List.set_cons_succ, List.getElem_toArray, List.getElem_cons_zero, List.getElem_cons_succ])
                refine wpAnyH_take (i := 10) (oi := _) (v := ?_) rfl (by kernel_rfl) (by kernel_rfl) (by kernel_rfl) (fun _ _ _ h => h) (Or.inl ⟨by rfl, ?_⟩) (by assumption) ?_
                rotate_left
                · intro w hSw
                  try dsimp only at hSw
                  go_simp
                  try with_reducible rfl
                (try simp only [Act.put, List.setIfInBounds_toArray, List.set_cons_zero, List.set_cons_succ, List.getElem_toArray, List.getElem_cons_zero, List.getElem_cons_succ])
                refine wpAnyH_take (i := 11) (oi := _) (v := ?_) rfl (by kernel_rfl) (by kernel_rfl) (by kernel_rfl) (fun _ _ _ h => h) (Or.inl ⟨by rfl, ?_⟩) (by assumption) ?_
                rotate_left
                · intro w hSw
                  try dsimp only at hSw
                  go_simp
                  try with_reducible rfl
                (try simp only [Act.put, List.setIfInBounds_toArray, List.set_cons_zero, List.set_cons_succ, List.getElem_toArray, List.getElem_cons_zero, List.getElem_cons_succ])
                as_aux_lemma =>
                  refine wpAnyH_ready (rs := [13, 24]) (by kernel_rfl) (by simp) ?_
                  refine AllReadyH.cons (o := _) rfl (fun K hK => ?_) ?_
                  · go_simp
                    with_reducible refine (A4.out _).mono ?_
                    rintro e W4 ⟨rfl, hh, hs⟩
                    replace HE := Lib.hid (heap_as hh HE.out)
                    replace hsz : W4.heap.size = w.heap.size + 1 := by rw [hh, hsz]
                    replace hX := Lib.hid (hX.out.trans (hs.mono hX.out.size))
                    clear hs hh
                    refine hK.out _ _ trivial (fun _ => ?_)
                    clear hK K
                    (try simp only [Act.put, List.setIfInBounds_toArray, List.set_cons_zero, List.set_cons_succ, List.getElem_toArray, List.getElem_cons_zero, List.getElem_cons_succ])
                    as_aux_lemma =>
                      refine wpAnyH_ready (rs := [15, 24]) (by kernel_rfl) (by simp) ?_
                      refine AllReadyH.cons (o := _) rfl (fun K hK => ?_) ?_
                      · go_simp
                        with_reducible refine (A5.out _).mono ?_
                        rintro e W5 ⟨rfl, hh, hs⟩
                        replace HE := Lib.hid (heap_as hh HE.out)
                        replace hsz : W5.heap.size = w.heap.size + 1 := by rw [hh, hsz]
                        replace hX := Lib.hid (hX.out.trans (hs.mono hX.out.size))
                        clear hs hh
                        refine hK.out _ _ trivial (fun _ => ?_)
                        clear hK K
                        (try simp only [Act.put, List.setIfInBounds_toArray, List.set_cons_zero, List.set_cons_succ, List.getElem_toArray, List.getElem_cons_zero, List.getElem_cons_succ])
                        as_aux_lemma =>
                          refine wpAnyH_ready (rs := [17, 24]) (by kernel_rfl) (by simp) ?_
                          refine AllReadyH.cons (o := _) rfl (fun K hK => ?_) ?_
                          · go_simp
                            with_reducible refine (A6.out _).mono ?_
                            rintro e W6 ⟨rfl, hh, hs⟩
                            replace HE := Lib.hid (heap_as hh HE.out)
                            replace hsz : W6.heap.size = w.heap.size + 1 := by rw [hh, hsz]
                            replace hX := Lib.hid (hX.out.trans (hs.mono hX.out.size))
                            clear hs hh
                            refine hK.out _ _ trivial (fun _ => ?_)
                            clear hK K
                            (try simp only [Act.put, List.setIfInBounds_toArray, List.set_cons_zero, List.set_cons_succ, List.getElem_toArray, List.getElem_cons_zero, List.getElem_cons_succ])
                            as_aux_lemma =>
                              refine wpAnyH_ready (rs := [19, 24]) (by kernel_rfl) (by simp) ?_
                              refine AllReadyH.cons (o := _) rfl (fun K hK => ?_) ?_
                              · go_simp
                                with_reducible refine (A7.out _).mono ?_
                                rintro e W7 ⟨rfl, hh, hs⟩
                                replace HE := Lib.hid (heap_as hh HE.out)
                                replace hsz : W7.heap.size = w.heap.size + 1 := by rw [hh, hsz]
                                replace hX := Lib.hid (hX.out.trans (hs.mono hX.out.size))
                                clear hs hh
                                refine hK.out _ _ trivial (fun _ => ?_)
                                clear hK K
                                (try simp only [Act.put, List.setIfInBounds_toArray, List.set_cons_zero, List.set_cons_succ, List.getElem_toArray, List.getElem_cons_zero, List.getElem_cons_succ])
                                refine wpAnyH_take (i := 20) (oi := _) (v := ?_) rfl (by kernel_rfl) (by kernel_rfl) (by kernel_rfl) (fun _ _ _ h => h) (Or.inl ⟨by rfl, ?_⟩) (by assumption) ?_
                                rotate_left
                                · intro w hSw
                                  try dsimp only at hSw
                                  go_simp
                                  try with_reducible rfl
                                (try simp only [Act.put, List.setIfInBounds_toArray, List.set_cons_zero, List.set_cons_succ, List.getElem_toArray, List.getElem_cons_zero, List.getElem_cons_succ])
                                as_aux_lemma =>
                                  refine wpAnyH_ready (rs := [22, 24]) (by kernel_rfl) (by simp) ?_
                                  refine AllReadyH.cons (o := _) rfl (fun K hK => ?_) ?_
                                  · go_simp
                                    with_reducible refine (A8.out _).mono ?_
                                    rintro e W8 ⟨rfl, hh, hs⟩
                                    replace HE := Lib.hid (heap_as hh HE.out)
                                    replace hsz : W8.heap.size = w.heap.size + 1 := by rw [hh, hsz]
                                    replace hX := Lib.hid (hX.out.trans (hs.mono hX.out.size))
                                    clear hs hh
                                    refine hK.out _ _ trivial (fun _ => ?_)
                                    clear hK K
                                    (try simp only [Act.put, List.setIfInBounds_toArray, List.set_cons_zero, List.set_cons_succ, List.getElem_toArray, List.getElem_cons_zero, List.getElem_cons_succ])
                                    refine wpAnyH_take (i := 23) (oi := _) (v := ?_) rfl (by kernel_rfl) (by kernel_rfl) (by kernel_rfl) (fun _ _ _ h => h) (Or.inl ⟨by rfl, ?_⟩) (by assumption) ?_
                                    rotate_left
                                    · intro w hSw
                                      refine Eq.trans (exec_build (build_ino b n1 z0 n4 n5 n6 n7 n8 w) rfl (by simp only [List.map_toArray, List.map_cons, List.map_nil]; go_simp)) ?_
                                      with_reducible rfl
                                    (try simp only [Act.put, List.setIfInBounds_toArray, List.set_cons_zero, List.set_cons_succ, List.getElem_toArray, List.getElem_cons_zero, List.getElem_cons_succ])
                                    as_aux_lemma =>
                                      refine wpAnyH_ready (rs := [24]) (by kernel_rfl) (by simp) ?_
                                      refine AllReadyH.cons (o := _) rfl (fun K hK => ?_) AllReadyH.nil
                                      go_simp
                                      have HA := Lib.hid (alloc_at W8 (.cells #[.int .u8 0, .int .u16 0, .int .u32 0, .int .u16 0, .int .u16 0, .int .u16 0, .int .u16 0, .int .u16 0] 26) hsz)
                                      replace HE := Lib.hid (heap_keep' HE.out (.cells #[.int .u8 0, .int .u16 0, .int .u32 0, .int .u16 0, .int .u16 0, .int .u16 0, .int .u16 0, .int .u16 0] 26))
                                      replace hX := Lib.hid (hX.out.alloc hX.out.size (.cells #[.int .u8 0, .int .u16 0, .int .u32 0, .int .u16 0, .int .u16 0, .int .u16 0, .int .u16 0, .int .u16 0] 26))
                                      refine hK.out _ _ trivial (fun _ => ?_)
                                      clear hK K
                                      (try simp only [Act.put, List.setIfInBounds_toArray, List.set_cons_zero, List.set_cons_succ, List.getElem_toArray, List.getElem_cons_zero, List.getElem_cons_succ])
                                      generalize W8.alloc (.cells #[.int .u8 0, .int .u16 0, .int .u32 0, .int .u16 0, .int .u16 0, .int .u16 0, .int .u16 0, .int .u16 0] 26) = W9 at *
                                      clear hsz
                                      as_aux_lemma =>
                                        refine wpAnyH_ready (rs := [25]) (by kernel_rfl) (by simp) ?_
                                        refine AllReadyH.cons (o := _) rfl (fun K hK => ?_) AllReadyH.nil
                                        refine wp_store_row _ _ _ rfl (w.heap.size + 1) _ rfl rfl (store_ino W9 (w.heap.size + 1) _ _ _ _ _ _ _ _ _ HA.out rfl (by simp [Value.oneCell'])) ?_
                                        refine hK.out _ _ trivial (fun _ => ?_)
                                        clear hK K
                                        (try simp only [Act.put, List.setIfInBounds_toArray, List.set_cons_zero, List.set_cons_succ, List.getElem_toArray, List.getElem_cons_zero, List.getElem_cons_succ])
                                        refine wpAnyH_done (by kernel_rfl) ?_ _
                                        go_wp2_with fail
                                        go_meet
                                        case rel => exact ⟨rfl, setRow_other HE.out (by omega) _, setRow_heap _ _ _ _ _ _ HA.out, below_setRow hX.out _ (Nat.le_succ _) _⟩
                                  refine AllReadyH.cons (o := _) rfl (fun K hK => ?_) AllReadyH.nil
                                  go_simp
                                  have HA := Lib.hid (alloc_at W7 (.cells #[.int .u8 0, .int .u16 0, .int .u32 0, .int .u16 0, .int .u16 0, .int .u16 0, .int .u16 0, .int .u16 0] 26) hsz)
                                  replace HE := Lib.hid (heap_keep' HE.out (.cells #[.int .u8 0, .int .u16 0, .int .u32 0, .int .u16 0, .int .u16 0, .int .u16 0, .int .u16 0, .int .u16 0] 26))
                                  replace hX := Lib.hid (hX.out.alloc hX.out.size (.cells #[.int .u8 0, .int .u16 0, .int .u32 0, .int .u16 0, .int .u16 0, .int .u16 0, .int .u16 0, .int .u16 0] 26))
                                  refine hK.out _ _ trivial (fun _ => ?_)
                                  clear hK K
                                  (try simp only [Act.put, List.setIfInBounds_toArray, List.set_cons_zero, List.set_cons_succ, List.getElem_toArray, List.getElem_cons_zero, List.getElem_cons_succ])
                                  generalize W7.alloc (.cells #[.int .u8 0, .int .u16 0, .int .u32 0, .int .u16 0, .int .u16 0, .int .u16 0, .int .u16 0, .int .u16 0] 26) = W8 at *
                                  clear hsz
                                  as_aux_lemma =>
                                    refine wpAnyH_ready (rs := [22]) (by kernel_rfl) (by simp) ?_
                                    refine AllReadyH.cons (o := _) rfl (fun K hK => ?_) AllReadyH.nil
                                    go_simp
                                    with_reducible refine (A8.out _).mono ?_
                                    rintro e W9 ⟨rfl, hh, hs⟩
                                    replace HE := Lib.hid (heap_as hh HE.out)
                                    replace HA := Lib.hid (heap_as hh HA.out)
                                    replace hX := Lib.hid (hX.out.trans (hs.mono hX.out.size))
                                    clear hs hh
                                    refine hK.out _ _ trivial (fun _ => ?_)
                                    clear hK K
                                    (try simp only [Act.put, List.setIfInBounds_toArray, List.set_cons_zero, List.set_cons_succ, List.getElem_toArray, List.getElem_cons_zero, List.getElem_cons_succ])
                                    refine wpAnyH_take (i := 23) (oi := _) (v := ?_) rfl (by kernel_rfl) (by kernel_rfl) (by kernel_rfl) (fun _ _ _ h => h) (Or.inl ⟨by rfl, ?_⟩) (by assumption) ?_
                                    rotate_left
                                    · intro w hSw
                                      refine Eq.trans (exec_build (build_ino b n1 z0 n4 n5 n6 n7 n8 w) rfl (by simp only [List.map_toArray, List.map_cons, List.map_nil]; go_simp)) ?_
                                      with_reducible rfl
                                    (try simp only [Act.put, List.setIfInBounds_toArray, List.set_cons_zero, List.set_cons_succ, List.getElem_toArray, List.getElem_cons_zero, List.getElem_cons_succ])
                                    as_aux_lemma =>
                                      refine wpAnyH_ready (rs := [25]) (by kernel_rfl) (by simp) ?_
                                      refine AllReadyH.cons (o := _) rfl (fun K hK => ?_) AllReadyH.nil
                                      refine wp_store_row _ _ _ rfl (w.heap.size + 1) _ rfl rfl (store_ino W9 (w.heap.size + 1) _ _ _ _ _ _ _ _ _ HA.out rfl (by simp [Value.oneCell'])) ?_
                                      refine hK.out _ _ trivial (fun _ => ?_)
                                      clear hK K
                                      (try simp only [Act.put, List.setIfInBounds_toArray, List.set_cons_zero, List.set_cons_succ, List.getElem_toArray, List.getElem_cons_zero, List.getElem_cons_succ])
                                      refine wpAnyH_done (by kernel_rfl) ?_ _
                                      go_wp2_with fail
                                      go_meet
                                      case rel => exact ⟨rfl, setRow_other HE.out (by omega) _, setRow_heap _ _ _ _ _ _ HA.out, below_setRow hX.out _ (Nat.le_succ _) _⟩
                              refine AllReadyH.cons (o := _) rfl (fun K hK => ?_) AllReadyH.nil
                              go_simp
                              have HA := Lib.hid (alloc_at W6 (.cells #[.int .u8 0, .int .u16 0, .int .u32 0, .int .u16 0, .int .u16 0, .int .u16 0, .int .u16 0, .int .u16 0] 26) hsz)
                              replace HE := Lib.hid (heap_keep' HE.out (.cells #[.int .u8 0, .int .u16 0, .int .u32 0, .int .u16 0, .int .u16 0, .int .u16 0, .int .u16 0, .int .u16 0] 26))
                              replace hX := Lib.hid (hX.out.alloc hX.out.size (.cells #[.int .u8 0, .int .u16 0, .int .u32 0, .int .u16 0, .int .u16 0, .int .u16 0, .int .u16 0, .int .u16 0] 26))
                              refine hK.out _ _ trivial (fun _ => ?_)
                              clear hK K
                              (try simp only [Act.put, List.setIfInBounds_toArray, List.set_cons_zero, List.set_cons_succ, List.getElem_toArray, List.getElem_cons_zero, List.getElem_cons_succ])
                              generalize W6.alloc (.cells #[.int .u8 0, .int .u16 0, .int .u32 0, .int .u16 0, .int .u16 0, .int .u16 0, .int .u16 0, .int .u16 0] 26) = W7 at *
                              clear hsz
                              as_aux_lemma =>
                                refine wpAnyH_ready (rs := [19]) (by kernel_rfl) (by simp) ?_
                                refine AllReadyH.cons (o := _) rfl (fun K hK => ?_) AllReadyH.nil
                                go_simp
                                with_reducible refine (A7.out _).mono ?_
                                rintro e W8 ⟨rfl, hh, hs⟩
                                replace HE := Lib.hid (heap_as hh HE.out)
                                replace HA := Lib.hid (heap_as hh HA.out)
                                replace hX := Lib.hid (hX.out.trans (hs.mono hX.out.size))
                                clear hs hh
                                refine hK.out _ _ trivial (fun _ => ?_)
                                clear hK K
                                (try simp only [Act.put, List.setIfInBounds_toArray, List.set_cons_zero, List.set_cons_succ, List.getElem_toArray, List.getElem_cons_zero, List.getElem_cons_succ])
                                refine wpAnyH_take (i := 20) (oi := _) (v := ?_) rfl (by kernel_rfl) (by kernel_rfl) (by kernel_rfl) (fun _ _ _ h => h) (Or.inl ⟨by rfl, ?_⟩) (by assumption) ?_
                                rotate_left
                                · intro w hSw
                                  try dsimp only at hSw
                                  go_simp
                                  try with_reducible rfl
                                (try simp only [Act.put, List.setIfInBounds_toArray, List.set_cons_zero, List.set_cons_succ, List.getElem_toArray, List.getElem_cons_zero, List.getElem_cons_succ])
                                as_aux_lemma =>
                                  refine wpAnyH_ready (rs := [22]) (by kernel_rfl) (by simp) ?_
                                  refine AllReadyH.cons (o := _) rfl (fun K hK => ?_) AllReadyH.nil
                                  go_simp
                                  with_reducible refine (A8.out _).mono ?_
                                  rintro e W9 ⟨rfl, hh, hs⟩
                                  replace HE := Lib.hid (heap_as hh HE.out)
                                  replace HA := Lib.hid (heap_as hh HA.out)
                                  replace hX := Lib.hid (hX.out.trans (hs.mono hX.out.size))
                                  clear hs hh
                                  refine hK.out _ _ trivial (fun _ => ?_)
                                  clear hK K
                                  (try simp only [Act.put, List.setIfInBounds_toArray, List.set_cons_zero, List.set_cons_succ, List.getElem_toArray, List.getElem_cons_zero, List.getElem_cons_succ])
                                  refine wpAnyH_take (i := 23) (oi := _) (v := ?_) rfl (by kernel_rfl) (by kernel_rfl) (by kernel_rfl) (fun _ _ _ h => h) (Or.inl ⟨by rfl, ?_⟩) (by assumption) ?_
                                  rotate_left
                                  · intro w hSw
                                    refine Eq.trans (exec_build (build_ino b n1 z0 n4 n5 n6 n7 n8 w) rfl (by simp only [List.map_toArray, List.map_cons, List.map_nil]; go_simp)) ?_
                                    with_reducible rfl
                                  (try simp only [Act.put, List.setIfInBounds_toArray, List.set_cons_zero, List.set_cons_succ, List.getElem_toArray, List.getElem_cons_zero, List.getElem_cons_succ])
                                  as_aux_lemma =>
                                    refine wpAnyH_ready (rs := [25]) (by kernel_rfl) (by simp) ?_
                                    refine AllReadyH.cons (o := _) rfl (fun K hK => ?_) AllReadyH.nil
                                    refine wp_store_row _ _ _ rfl (w.heap.size + 1) _ rfl rfl (store_ino W9 (w.heap.size + 1) _ _ _ _ _ _ _ _ _ HA.out rfl (by simp [Value.oneCell'])) ?_
                                    refine hK.out _ _ trivial (fun _ => ?_)
                                    clear hK K
                                    (try simp only [Act.put, List.setIfInBounds_toArray, List.set_cons_zero, List.set_cons_succ, List.getElem_toArray, List.getElem_cons_zero, List.getElem_cons_succ])
                                    refine wpAnyH_done (by kernel_rfl) ?_ _
                                    go_wp2_with fail
                                    go_meet
                                    case rel => exact ⟨rfl, setRow_other HE.out (by omega) _, setRow_heap _ _ _ _ _ _ HA.out, below_setRow hX.out _ (Nat.le_succ _) _⟩
                          refine AllReadyH.cons (o := _) rfl (fun K hK => ?_) AllReadyH.nil
                          go_simp
                          have HA := Lib.hid (alloc_at W5 (.cells #[.int .u8 0, .int .u16 0, .int .u32 0, .int .u16 0, .int .u16 0, .int .u16 0, .int .u16 0, .int .u16 0] 26) hsz)
                          replace HE := Lib.hid (heap_keep' HE.out (.cells #[.int .u8 0, .int .u16 0, .int .u32 0, .int .u16 0, .int .u16 0, .int .u16 0, .int .u16 0, .int .u16 0] 26))
                          replace hX := Lib.hid (hX.out.alloc hX.out.size (.cells #[.int .u8 0, .int .u16 0, .int .u32 0, .int .u16 0, .int .u16 0, .int .u16 0, .int .u16 0, .int .u16 0] 26))
                          refine hK.out _ _ trivial (fun _ => ?_)
                          clear hK K
                          (try simp only [Act.put, List.setIfInBounds_toArray, List.set_cons_zero, List.set_cons_succ, List.getElem_toArray, List.getElem_cons_zero, List.getElem_cons_succ])
                          generalize W5.alloc (.cells #[.int .u8 0, .int .u16 0, .int .u32 0, .int .u16 0, .int .u16 0, .int .u16 0, .int .u16 0, .int .u16 0] 26) = W6 at *
                          clear hsz
                          as_aux_lemma =>
                            refine wpAnyH_ready (rs := [17]) (by kernel_rfl) (by simp) ?_
                            refine AllReadyH.cons (o := _) rfl (fun K hK => ?_) AllReadyH.nil
                            go_simp
                            with_reducible refine (A6.out _).mono ?_
                            rintro e W7 ⟨rfl, hh, hs⟩
                            replace HE := Lib.hid (heap_as hh HE.out)
                            replace HA := Lib.hid (heap_as hh HA.out)
                            replace hX := Lib.hid (hX.out.trans (hs.mono hX.out.size))
                            clear hs hh
                            refine hK.out _ _ trivial (fun _ => ?_)
                            clear hK K
                            (try simp only [Act.put, List.setIfInBounds_toArray, List.set_cons_zero, List.set_cons_succ, List.getElem_toArray, List.getElem_cons_zero, List.getElem_cons_succ])
                            as_aux_lemma =>
                              refine wpAnyH_ready (rs := [19]) (by kernel_rfl) (by simp) ?_
                              refine AllReadyH.cons (o := _) rfl (fun K hK => ?_) AllReadyH.nil
                              go_simp
                              with_reducible refine (A7.out _).mono ?_
                              rintro e W8 ⟨rfl, hh, hs⟩
                              replace HE := Lib.hid (heap_as hh HE.out)
                              replace HA := Lib.hid (heap_as hh HA.out)
                              replace hX := Lib.hid (hX.out.trans (hs.mono hX.out.size))
                              clear hs hh
                              refine hK.out _ _ trivial (fun _ => ?_)
                              clear hK K
                              (try simp only [Act.put, List.setIfInBounds_toArray, List.set_cons_zero, List.set_cons_succ, List.getElem_toArray, List.getElem_cons_zero, List.getElem_cons_succ])
                              refine wpAnyH_take (i := 20) (oi := _) (v := ?_) rfl (by kernel_rfl) (by kernel_rfl) (by kernel_rfl) (fun _ _ _ h => h) (Or.inl ⟨by rfl, ?_⟩) (by assumption) ?_
                              rotate_left
                              · intro w hSw
                                try dsimp only at hSw
                                go_simp
                                try with_reducible rfl
                              (try simp only [Act.put, List.setIfInBounds_toArray, List.set_cons_zero, List.set_cons_succ, List.getElem_toArray, List.getElem_cons_zero, List.getElem_cons_succ])
                              as_aux_lemma =>
                                refine wpAnyH_ready (rs := [22]) (by kernel_rfl) (by simp) ?_
                                refine AllReadyH.cons (o := _) rfl (fun K hK => ?_) AllReadyH.nil
                                go_simp
                                with_reducible refine (A8.out _).mono ?_
                                rintro e W9 ⟨rfl, hh, hs⟩
                                replace HE := Lib.hid (heap_as hh HE.out)
                                replace HA := Lib.hid (heap_as hh HA.out)
                                replace hX := Lib.hid (hX.out.trans (hs.mono hX.out.size))
                                clear hs hh
                                refine hK.out _ _ trivial (fun _ => ?_)
                                clear hK K
                                (try simp only [Act.put, List.setIfInBounds_toArray, List.set_cons_zero, List.set_cons_succ, List.getElem_toArray, List.getElem_cons_zero, List.getElem_cons_succ])
                                refine wpAnyH_take (i := 23) (oi := _) (v := ?_) rfl (by kernel_rfl) (by kernel_rfl) (by kernel_rfl) (fun _ _ _ h => h) (Or.inl ⟨by rfl, ?_⟩) (by assumption) ?_
                                rotate_left
                                · intro w hSw
                                  refine Eq.trans (exec_build (build_ino b n1 z0 n4 n5 n6 n7 n8 w) rfl (by simp only [List.map_toArray, List.map_cons, List.map_nil]; go_simp)) ?_
                                  with_reducible rfl
                                (try simp only [Act.put, List.setIfInBounds_toArray, List.set_cons_zero, List.set_cons_succ, List.getElem_toArray, List.getElem_cons_zero, List.getElem_cons_succ])
                                as_aux_lemma =>
                                  refine wpAnyH_ready (rs := [25]) (by kernel_rfl) (by simp) ?_
                                  refine AllReadyH.cons (o := _) rfl (fun K hK => ?_) AllReadyH.nil
                                  refine wp_store_row _ _ _ rfl (w.heap.size + 1) _ rfl rfl (store_ino W9 (w.heap.size + 1) _ _ _ _ _ _ _ _ _ HA.out rfl (by simp [Value.oneCell'])) ?_
                                  refine hK.out _ _ trivial (fun _ => ?_)
                                  clear hK K
                                  (try simp only [Act.put, List.setIfInBounds_toArray, List.set_cons_zero, List.set_cons_succ, List.getElem_toArray, List.getElem_cons_zero, List.getElem_cons_succ])
                                  refine wpAnyH_done (by kernel_rfl) ?_ _
                                  go_wp2_with fail
                                  go_meet
                                  case rel => exact ⟨rfl, setRow_other HE.out (by omega) _, setRow_heap _ _ _ _ _ _ HA.out, below_setRow hX.out _ (Nat.le_succ _) _⟩
                      refine AllReadyH.cons (o := _) rfl (fun K hK => ?_) AllReadyH.nil
                      go_simp
                      have HA := Lib.hid (alloc_at W4 (.cells #[.int .u8 0, .int .u16 0, .int .u32 0, .int .u16 0, .int .u16 0, .int .u16 0, .int .u16 0, .int .u16 0] 26) hsz)
                      replace HE := Lib.hid (heap_keep' HE.out (.cells #[.int .u8 0, .int .u16 0, .int .u32 0, .int .u16 0, .int .u16 0, .int .u16 0, .int .u16 0, .int .u16 0] 26))
                      replace hX := Lib.hid (hX.out.alloc hX.out.size (.cells #[.int .u8 0, .int .u16 0, .int .u32 0, .int .u16 0, .int .u16 0, .int .u16 0, .int .u16 0, .int .u16 0] 26))
                      refine hK.out _ _ trivial (fun _ => ?_)
                      clear hK K
                      (try simp only [Act.put, List.setIfInBounds_toArray, List.set_cons_zero, List.set_cons_succ, List.getElem_toArray, List.getElem_cons_zero, List.getElem_cons_succ])
                      generalize W4.alloc (.cells #[.int .u8 0, .int .u16 0, .int .u32 0, .int .u16 0, .int .u16 0, .int .u16 0, .int .u16 0, .int .u16 0] 26) = W5 at *
                      clear hsz
                      as_aux_lemma =>
                        refine wpAnyH_ready (rs := [15]) (by kernel_rfl) (by simp) ?_
                        refine AllReadyH.cons (o := _) rfl (fun K hK => ?_) AllReadyH.nil
                        go_simp
                        with_reducible refine (A5.out _).mono ?_
                        rintro e W6 ⟨rfl, hh, hs⟩
                        replace HE := Lib.hid (heap_as hh HE.out)
                        replace HA := Lib.hid (heap_as hh HA.out)
                        replace hX := Lib.hid (hX.out.trans (hs.mono hX.out.size))
                        clear hs hh
                        refine hK.out _ _ trivial (fun _ => ?_)
                        clear hK K
                        (try simp only [Act.put, List.setIfInBounds_toArray, List.set_cons_zero, List.set_cons_succ, List.getElem_toArray, List.getElem_cons_zero, List.getElem_cons_succ])
                        as_aux_lemma =>
                          refine wpAnyH_ready (rs := [17]) (by kernel_rfl) (by simp) ?_
                          refine AllReadyH.cons (o := _) rfl (fun K hK => ?_) AllReadyH.nil
                          go_simp
                          with_reducible refine (A6.out _).mono ?_
                          rintro e W7 ⟨rfl, hh, hs⟩
                          replace HE := Lib.hid (heap_as hh HE.out)
                          replace HA := Lib.hid (heap_as hh HA.out)
                          replace hX := Lib.hid (hX.out.trans (hs.mono hX.out.size))
                          clear hs hh
                          refine hK.out _ _ trivial (fun _ => ?_)
                          clear hK K
                          (try simp only [Act.put, List.setIfInBounds_toArray, List.set_cons_zero, List.set_cons_succ, List.getElem_toArray, List.getElem_cons_zero, List.getElem_cons_succ])
                          as_aux_lemma =>
                            refine wpAnyH_ready (rs := [19]) (by kernel_rfl) (by simp) ?_
                            refine AllReadyH.cons (o := _) rfl (fun K hK => ?_) AllReadyH.nil
                            go_simp
                            with_reducible refine (A7.out _).mono ?_
                            rintro e W8 ⟨rfl, hh, hs⟩
                            replace HE := Lib.hid (heap_as hh HE.out)
                            replace HA := Lib.hid (heap_as hh HA.out)
                            replace hX := Lib.hid (hX.out.trans (hs.mono hX.out.size))
                            clear hs hh
                            refine hK.out _ _ trivial (fun _ => ?_)
                            clear hK K
                            (try simp only [Act.put, List.setIfInBounds_toArray, List.set_cons_zero, List.set_cons_succ, List.getElem_toArray, List.getElem_cons_zero, List.getElem_cons_succ])
                            refine wpAnyH_take (i := 20) (oi := _) (v := ?_) rfl (by kernel_rfl) (by kernel_rfl) (by kernel_rfl) (fun _ _ _ h => h) (Or.inl ⟨by rfl, ?_⟩) (by assumption) ?_
                            rotate_left
                            · intro w hSw
                              try dsimp only at hSw
                              go_simp
                              try with_reducible rfl
                            (try simp only [Act.put, List.setIfInBounds_toArray, List.set_cons_zero, List.set_cons_succ, List.getElem_toArray, List.getElem_cons_zero, List.getElem_cons_succ])
                            as_aux_lemma =>
                              refine wpAnyH_ready (rs := [22]) (by kernel_rfl) (by simp) ?_
                              refine AllReadyH.cons (o := _) rfl (fun K hK => ?_) AllReadyH.nil
                              go_simp
                              with_reducible refine (A8.out _).mono ?_
                              rintro e W9 ⟨rfl, hh, hs⟩
                              replace HE := Lib.hid (heap_as hh HE.out)
                              replace HA := Lib.hid (heap_as hh HA.out)
                              replace hX := Lib.hid (hX.out.trans (hs.mono hX.out.size))
                              clear hs hh
                              refine hK.out _ _ trivial (fun _ => ?_)
                              clear hK K
                              (try simp only [Act.put, List.setIfInBounds_toArray, List.set_cons_zero, List.set_cons_succ, List.getElem_toArray, List.getElem_cons_zero, List.getElem_cons_succ])
                              refine wpAnyH_take (i := 23) (oi := _) (v := ?_) rfl (by kernel_rfl) (by kernel_rfl) (by kernel_rfl) (fun _ _ _ h => h) (Or.inl ⟨by rfl, ?_⟩) (by assumption) ?_
                              rotate_left
                              · intro w hSw
                                refine Eq.trans (exec_build (build_ino b n1 z0 n4 n5 n6 n7 n8 w) rfl (by simp only [List.map_toArray, List.map_cons, List.map_nil]; go_simp)) ?_
                                with_reducible rfl
                              (try simp only [Act.put, List.setIfInBounds_toArray, List.set_cons_zero, List.set_cons_succ, List.getElem_toArray, List.getElem_cons_zero, List.getElem_cons_succ])
                              as_aux_lemma =>
                                refine wpAnyH_ready (rs := [25]) (by kernel_rfl) (by simp) ?_
                                refine AllReadyH.cons (o := _) rfl (fun K hK => ?_) AllReadyH.nil
                                refine wp_store_row _ _ _ rfl (w.heap.size + 1) _ rfl rfl (store_ino W9 (w.heap.size + 1) _ _ _ _ _ _ _ _ _ HA.out rfl (by simp [Value.oneCell'])) ?_
                                refine hK.out _ _ trivial (fun _ => ?_)
                                clear hK K
                                (try simp only [Act.put, List.setIfInBounds_toArray, List.set_cons_zero, List.set_cons_succ, List.getElem_toArray, List.getElem_cons_zero, List.getElem_cons_succ])
                                refine wpAnyH_done (by kernel_rfl) ?_ _
                                go_wp2_with fail
                                go_meet
                                case rel => exact ⟨rfl, setRow_other HE.out (by omega) _, setRow_heap _ _ _ _ _ _ HA.out, below_setRow hX.out _ (Nat.le_succ _) _⟩
                  refine AllReadyH.cons (o := _) rfl (fun K hK => ?_) AllReadyH.nil
                  go_simp
                  have HA := Lib.hid (alloc_at W3 (.cells #[.int .u8 0, .int .u16 0, .int .u32 0, .int .u16 0, .int .u16 0, .int .u16 0, .int .u16 0, .int .u16 0] 26) hsz)
                  replace HE := Lib.hid (heap_keep' HE.out (.cells #[.int .u8 0, .int .u16 0, .int .u32 0, .int .u16 0, .int .u16 0, .int .u16 0, .int .u16 0, .int .u16 0] 26))
                  replace hX := Lib.hid (hX.out.alloc hX.out.size (.cells #[.int .u8 0, .int .u16 0, .int .u32 0, .int .u16 0, .int .u16 0, .int .u16 0, .int .u16 0, .int .u16 0] 26))
                  refine hK.out _ _ trivial (fun _ => ?_)
                  clear hK K
                  (try simp only [Act.put, List.setIfInBounds_toArray, List.set_cons_zero, List.set_cons_succ, List.getElem_toArray, List.getElem_cons_zero, List.getElem_cons_succ])
                  generalize W3.alloc (.cells #[.int .u8 0, .int .u16 0, .int .u32 0, .int .u16 0, .int .u16 0, .int .u16 0, .int .u16 0, .int .u16 0] 26) = W4 at *
                  clear hsz
                  as_aux_lemma =>
                    refine wpAnyH_ready (rs := [13]) (by kernel_rfl) (by simp) ?_
                    refine AllReadyH.cons (o := _) rfl (fun K hK => ?_) AllReadyH.nil
                    go_simp
                    with_reducible refine (A4.out _).mono ?_
                    rintro e W5 ⟨rfl, hh, hs⟩
                    replace HE := Lib.hid (heap_as hh HE.out)
                    replace HA := Lib.hid (heap_as hh HA.out)
                    replace hX := Lib.hid (hX.out.trans (hs.mono hX.out.size))
                    clear hs hh
                    refine hK.out _ _ trivial (fun _ => ?_)
                    clear hK K
                    (try simp only [Act.put, List.setIfInBounds_toArray, List.set_cons_zero, List.set_cons_succ, List.getElem_toArray, List.getElem_cons_zero, List.getElem_cons_succ])
                    as_aux_lemma =>
                      refine wpAnyH_ready (rs := [15]) (by kernel_rfl) (by simp) ?_
                      refine AllReadyH.cons (o := _) rfl (fun K hK => ?_) AllReadyH.nil
                      go_simp
                      with_reducible refine (A5.out _).mono ?_
                      rintro e W6 ⟨rfl, hh, hs⟩
                      replace HE := Lib.hid (heap_as hh HE.out)
                      replace HA := Lib.hid (heap_as hh HA.out)
                      replace hX := Lib.hid (hX.out.trans (hs.mono hX.out.size))
                      clear hs hh
                      refine hK.out _ _ trivial (fun _ => ?_)
                      clear hK K
                      (try simp only [Act.put, List.setIfInBounds_toArray, List.set_cons_zero, List.set_cons_succ, List.getElem_toArray, List.getElem_cons_zero, List.getElem_cons_succ])
                      as_aux_lemma =>
                        refine wpAnyH_ready (rs := [17]) (by kernel_rfl) (by simp) ?_
                        refine AllReadyH.cons (o := _) rfl (fun K hK => ?_) AllReadyH.nil
                        go_simp
                        with_reducible refine (A6.out _).mono ?_
                        rintro e W7 ⟨rfl, hh, hs⟩
                        replace HE := Lib.hid (heap_as hh HE.out)
                        replace HA := Lib.hid (heap_as hh HA.out)
                        replace hX := Lib.hid (hX.out.trans (hs.mono hX.out.size))
                        clear hs hh
                        refine hK.out _ _ trivial (fun _ => ?_)
                        clear hK K
                        (try simp only [Act.put, List.setIfInBounds_toArray, List.set_cons_zero, List.set_cons_succ, List.getElem_toArray, List.getElem_cons_zero, List.getElem_cons_succ])
                        as_aux_lemma =>
                          refine wpAnyH_ready (rs := [19]) (by kernel_rfl) (by simp) ?_
                          refine AllReadyH.cons (o := _) rfl (fun K hK => ?_) AllReadyH.nil
                          go_simp
                          with_reducible refine (A7.out _).mono ?_
                          rintro e W8 ⟨rfl, hh, hs⟩
                          replace HE := Lib.hid (heap_as hh HE.out)
                          replace HA := Lib.hid (heap_as hh HA.out)
                          replace hX := Lib.hid (hX.out.trans (hs.mono hX.out.size))
                          clear hs hh
                          refine hK.out _ _ trivial (fun _ => ?_)
                          clear hK K
                          (try simp only [Act.put, List.setIfInBounds_toArray, List.set_cons_zero, List.set_cons_succ, List.getElem_toArray, List.getElem_cons_zero, List.getElem_cons_succ])
                          refine wpAnyH_take (i := 20) (oi := _) (v := ?_) rfl (by kernel_rfl) (by kernel_rfl) (by kernel_rfl) (fun _ _ _ h => h) (Or.inl ⟨by rfl, ?_⟩) (by assumption) ?_
                          rotate_left
                          · intro w hSw
                            try dsimp only at hSw
                            go_simp
                            try with_reducible rfl
                          (try simp only [Act.put, List.setIfInBounds_toArray, List.set_cons_zero, List.set_cons_succ, List.getElem_toArray, List.getElem_cons_zero, List.getElem_cons_succ])
                          as_aux_lemma =>
                            refine wpAnyH_ready (rs := [22]) (by kernel_rfl) (by simp) ?_
                            refine AllReadyH.cons (o := _) rfl (fun K hK => ?_) AllReadyH.nil
                            go_simp
                            with_reducible refine (A8.out _).mono ?_
                            rintro e W9 ⟨rfl, hh, hs⟩
                            replace HE := Lib.hid (heap_as hh HE.out)
                            replace HA := Lib.hid (heap_as hh HA.out)
                            replace hX := Lib.hid (hX.out.trans (hs.mono hX.out.size))
                            clear hs hh
                            refine hK.out _ _ trivial (fun _ => ?_)
                            clear hK K
                            (try simp only [Act.put, List.setIfInBounds_toArray, List.set_cons_zero, List.set_cons_succ, List.getElem_toArray, List.getElem_cons_zero, List.getElem_cons_succ])
                            refine wpAnyH_take (i := 23) (oi := _) (v := ?_) rfl (by kernel_rfl) (by kernel_rfl) (by kernel_rfl) (fun _ _ _ h => h) (Or.inl ⟨by rfl, ?_⟩) (by assumption) ?_
                            rotate_left
                            · intro w hSw
                              refine Eq.trans (exec_build (build_ino b n1 z0 n4 n5 n6 n7 n8 w) rfl (by simp only [List.map_toArray, List.map_cons, List.map_nil]; go_simp)) ?_
                              with_reducible rfl
                            (try simp only [Act.put, List.setIfInBounds_toArray, List.set_cons_zero, List.set_cons_succ, List.getElem_toArray, List.getElem_cons_zero, List.getElem_cons_succ])
                            as_aux_lemma =>
                              refine wpAnyH_ready (rs := [25]) (by kernel_rfl) (by simp) ?_
                              refine AllReadyH.cons (o := _) rfl (fun K hK => ?_) AllReadyH.nil
                              refine wp_store_row _ _ _ rfl (w.heap.size + 1) _ rfl rfl (store_ino W9 (w.heap.size + 1) _ _ _ _ _ _ _ _ _ HA.out rfl (by simp [Value.oneCell'])) ?_
                              refine hK.out _ _ trivial (fun _ => ?_)
                              clear hK K
                              (try simp only [Act.put, List.setIfInBounds_toArray, List.set_cons_zero, List.set_cons_succ, List.getElem_toArray, List.getElem_cons_zero, List.getElem_cons_succ])
                              refine wpAnyH_done (by kernel_rfl) ?_ _
                              go_wp2_with fail
                              go_meet
                              case rel => exact ⟨rfl, setRow_other HE.out (by omega) _, setRow_heap _ _ _ _ _ _ HA.out, below_setRow hX.out _ (Nat.le_succ _) _⟩
              refine AllReadyH.cons (o := _) rfl (fun K hK => ?_) AllReadyH.nil
              go_simp
              have HA := Lib.hid (alloc_at W2 (.cells #[.int .u8 0, .int .u16 0, .int .u32 0, .int .u16 0, .int .u16 0, .int .u16 0, .int .u16 0, .int .u16 0] 26) hsz)
              replace HE := Lib.hid (heap_keep' HE.out (.cells #[.int .u8 0, .int .u16 0, .int .u32 0, .int .u16 0, .int .u16 0, .int .u16 0, .int .u16 0, .int .u16 0] 26))
              replace hX := Lib.hid (hX.out.alloc hX.out.size (.cells #[.int .u8 0, .int .u16 0, .int .u32 0, .int .u16 0, .int .u16 0, .int .u16 0, .int .u16 0, .int .u16 0] 26))
              refine hK.out _ _ trivial (fun _ => ?_)
              clear hK K
              (try simp only [Act.put, List.setIfInBounds_toArray, List.set_cons_zero, List.set_cons_succ, List.getElem_toArray, List.getElem_cons_zero, List.getElem_cons_succ])
              generalize W2.alloc (.cells #[.int .u8 0, .int .u16 0, .int .u32 0, .int .u16 0, .int .u16 0, .int .u16 0, .int .u16 0, .int .u16 0] 26) = W3 at *
              clear hsz
              as_aux_lemma =>
                refine wpAnyH_ready (rs := [8]) (by kernel_rfl) (by simp) ?_
                refine AllReadyH.cons (o := _) rfl (fun K hK => ?_) AllReadyH.nil
                go_simp
                with_reducible refine (A3.out _).mono ?_
                rintro e W4 ⟨rfl, hh, hs⟩
                replace HE := Lib.hid (heap_as hh HE.out)
                replace HA := Lib.hid (heap_as hh HA.out)
                replace hX := Lib.hid (hX.out.trans (hs.mono hX.out.size))
                clear hs hh
                refine hK.out _ _ trivial (fun _ => ?_)
                clear hK K
                (try simp only [Act.put, List.setIfInBounds_toArray, List.set_cons_zero, List.set_cons_succ, List.getElem_toArray, List.getElem_cons_zero, List.getElem_cons_succ])
                refine wpAnyH_take (i := 9) (oi := _) (v := ?_) rfl (by kernel_rfl) (by kernel_rfl) (by kernel_rfl) (fun _ _ _ h => h) (Or.inl ⟨by rfl, ?_⟩) (by assumption) ?_
                rotate_left
                · intro w hSw
                  try dsimp only at hSw
                  go_simp
                  try with_reducible rfl
                (try simp only [Act.put, List.setIfInBounds_toArray, List.set_cons_zero, List.set_cons_succ, List.getElem_toArray, List.getElem_cons_zero, List.getElem_cons_succ])
                refine wpAnyH_take (i := 10) (oi := _) (v := ?_) rfl (by kernel_rfl) (by kernel_rfl) (by kernel_rfl) (fun _ _ _ h => h) (Or.inl ⟨by rfl, ?_⟩) (by assumption) ?_
                rotate_left
                · intro w hSw
                  try dsimp only at hSw
                  go_simp
                  try with_reducible rfl
                (try simp only [Act.put, List.setIfInBounds_toArray, List.set_cons_zero, List.set_cons_succ, List.getElem_toArray, List.getElem_cons_zero, List.getElem_cons_succ])
                refine wpAnyH_take (i := 11) (oi := _) (v := ?_) rfl (by kernel_rfl) (by kernel_rfl) (by kernel_rfl) (fun _ _ _ h => h) (Or.inl ⟨by rfl, ?_⟩) (by assumption) ?_
                rotate_left
                · intro w hSw
                  try dsimp only at hSw
                  go_simp
                  try with_reducible rfl
                (try simp only [Act.put, List.setIfInBounds_toArray, List.set_cons_zero, List.set_cons_succ, List.getElem_toArray, List.getElem_cons_zero, List.getElem_cons_succ])
                as_aux_lemma =>
                  refine wpAnyH_ready (rs := [13]) (by kernel_rfl) (by simp) ?_
                  refine AllReadyH.cons (o := _) rfl (fun K hK => ?_) AllReadyH.nil
                  go_simp
                  with_reducible refine (A4.out _).mono ?_
                  rintro e W5 ⟨rfl, hh, hs⟩
                  replace HE := Lib.hid (heap_as hh HE.out)
                  replace HA := Lib.hid (heap_as hh HA.out)
                  replace hX := Lib.hid (hX.out.trans (hs.mono hX.out.size))
                  clear hs hh
                  refine hK.out _ _ trivial (fun _ => ?_)
                  clear hK K
                  (try simp only [Act.put, List.setIfInBounds_toArray, List.set_cons_zero, List.set_cons_succ, List.getElem_toArray, List.getElem_cons_zero, List.getElem_cons_succ])
                  as_aux_lemma =>
                    refine wpAnyH_ready (rs := [15]) (by kernel_rfl) (by simp) ?_
                    refine AllReadyH.cons (o := _) rfl (fun K hK => ?_) AllReadyH.nil
                    go_simp
                    with_reducible refine (A5.out _).mono ?_
                    rintro e W6 ⟨rfl, hh, hs⟩
                    replace HE := Lib.hid (heap_as hh HE.out)
                    replace HA := Lib.hid (heap_as hh HA.out)
                    replace hX := Lib.hid (hX.out.trans (hs.mono hX.out.size))
                    clear hs hh
                    refine hK.out _ _ trivial (fun _ => ?_)
                    clear hK K
                    (try simp only [Act.put, List.setIfInBounds_toArray, List.set_cons_zero, List.set_cons_succ, List.getElem_toArray, List.getElem_cons_zero, List.getElem_cons_succ])
                    as_aux_lemma =>
                      refine wpAnyH_ready (rs := [17]) (by kernel_rfl) (by simp) ?_
                      refine AllReadyH.cons (o := _) rfl (fun K hK => ?_) AllReadyH.nil
                      go_simp
                      with_reducible refine (A6.out _).mono ?_
                      rintro e W7 ⟨rfl, hh, hs⟩
                      replace HE := Lib.hid (heap_as hh HE.out)
                      replace HA := Lib.hid (heap_as hh HA.out)
                      replace hX := Lib.hid (hX.out.trans (hs.mono hX.out.size))
                      clear hs hh
                      refine hK.out _ _ trivial (fun _ => ?_)
                      clear hK K
                      (try simp only [Act.put, List.setIfInBounds_toArray, List.set_cons_zero, List.set_cons_succ, List.getElem_toArray, List.getElem_cons_zero, List.getElem_cons_succ])
                      as_aux_lemma =>
                        refine wpAnyH_ready (rs := [19]) (by kernel_rfl) (by simp) ?_
                        refine AllReadyH.cons (o := _) rfl (fun K hK => ?_) AllReadyH.nil
                        go_simp
                        with_reducible refine (A7.out _).mono ?_
                        rintro e W8 ⟨rfl, hh, hs⟩
                        replace HE := Lib.hid (heap_as hh HE.out)
                        replace HA := Lib.hid (heap_as hh HA.out)
                        replace hX := Lib.hid (hX.out.trans (hs.mono hX.out.size))
                        clear hs hh
                        refine hK.out _ _ trivial (fun _ => ?_)
                        clear hK K
                        (try simp only [Act.put, List.setIfInBounds_toArray, List.set_cons_zero, List.set_cons_succ, List.getElem_toArray, List.getElem_cons_zero, List.getElem_cons_succ])
                        refine wpAnyH_take (i := 20) (oi := _) (v := ?_) rfl (by kernel_rfl) (by kernel_rfl) (by kernel_rfl) (fun _ _ _ h => h) (Or.inl ⟨by rfl, ?_⟩) (by assumption) ?_
                        rotate_left
                        · intro w hSw
                          try dsimp only at hSw
                          go_simp
                          try with_reducible rfl
                        (try simp only [Act.put, List.setIfInBounds_toArray, List.set_cons_zero, List.set_cons_succ, List.getElem_toArray, List.getElem_cons_zero, List.getElem_cons_succ])
                        as_aux_lemma =>
                          refine wpAnyH_ready (rs := [22]) (by kernel_rfl) (by simp) ?_
                          refine AllReadyH.cons (o := _) rfl (fun K hK => ?_) AllReadyH.nil
                          go_simp
                          with_reducible refine (A8.out _).mono ?_
                          rintro e W9 ⟨rfl, hh, hs⟩
                          replace HE := Lib.hid (heap_as hh HE.out)
                          replace HA := Lib.hid (heap_as hh HA.out)
                          replace hX := Lib.hid (hX.out.trans (hs.mono hX.out.size))
                          clear hs hh
                          refine hK.out _ _ trivial (fun _ => ?_)
                          clear hK K
                          (try simp only [Act.put, List.setIfInBounds_toArray, List.set_cons_zero, List.set_cons_succ, List.getElem_toArray, List.getElem_cons_zero, List.getElem_cons_succ])
                          refine wpAnyH_take (i := 23) (oi := _) (v := ?_) rfl (by kernel_rfl) (by kernel_rfl) (by kernel_rfl) (fun _ _ _ h => h) (Or.inl ⟨by rfl, ?_⟩) (by assumption) ?_
                          rotate_left
                          · intro w hSw
                            refine Eq.trans (exec_build (build_ino b n1 z0 n4 n5 n6 n7 n8 w) rfl (by simp only [List.map_toArray, List.map_cons, List.map_nil]; go_simp)) ?_
                            with_reducible rfl
                          (try simp only [Act.put, List.setIfInBounds_toArray, List.set_cons_zero, List.set_cons_succ, List.getElem_toArray, List.getElem_cons_zero, List.getElem_cons_succ])
                          as_aux_lemma =>
                            refine wpAnyH_ready (rs := [25]) (by kernel_rfl) (by simp) ?_
                            refine AllReadyH.cons (o := _) rfl (fun K hK => ?_) AllReadyH.nil
                            refine wp_store_row _ _ _ rfl (w.heap.size + 1) _ rfl rfl (store_ino W9 (w.heap.size + 1) _ _ _ _ _ _ _ _ _ HA.out rfl (by simp [Value.oneCell'])) ?_
                            refine hK.out _ _ trivial (fun _ => ?_)
                            clear hK K
                            (try simp only [Act.put, List.setIfInBounds_toArray, List.set_cons_zero, List.set_cons_succ, List.getElem_toArray, List.getElem_cons_zero, List.getElem_cons_succ])
                            refine wpAnyH_done (by kernel_rfl) ?_ _
                            go_wp2_with fail
                            go_meet
                            case rel => exact ⟨rfl, setRow_other HE.out (by omega) _, setRow_heap _ _ _ _ _ _ HA.out, below_setRow hX.out _ (Nat.le_succ _) _⟩
          refine AllReadyH.cons (o := _) rfl (fun K hK => ?_) AllReadyH.nil
          go_simp
          have HA := Lib.hid (alloc_at W1 (.cells #[.int .u8 0, .int .u16 0, .int .u32 0, .int .u16 0, .int .u16 0, .int .u16 0, .int .u16 0, .int .u16 0] 26) hsz)
          replace HE := Lib.hid (heap_keep' HE.out (.cells #[.int .u8 0, .int .u16 0, .int .u32 0, .int .u16 0, .int .u16 0, .int .u16 0, .int .u16 0, .int .u16 0] 26))
          replace hX := Lib.hid (hX.out.alloc hX.out.size (.cells #[.int .u8 0, .int .u16 0, .int .u32 0, .int .u16 0, .int .u16 0, .int .u16 0, .int .u16 0, .int .u16 0] 26))
          refine hK.out _ _ trivial (fun _ => ?_)
          clear hK K
          (try simp only [Act.put, List.setIfInBounds_toArray, List.set_cons_zero, List.set_cons_succ, List.getElem_toArray, List.getElem_cons_zero, List.getElem_cons_succ])
          generalize W1.alloc (.cells #[.int .u8 0, .int .u16 0, .int .u32 0, .int .u16 0, .int .u16 0, .int .u16 0, .int .u16 0, .int .u16 0] 26) = W2 at *
          clear hsz
          as_aux_lemma =>
            refine wpAnyH_ready (rs := [5]) (by kernel_rfl) (by simp) ?_
            refine AllReadyH.cons (o := _) rfl (fun K hK => ?_) AllReadyH.nil
            go_simp
            with_reducible refine (A2.out _).mono ?_
            rintro e W3 ⟨rfl, hh, hs⟩
            replace HE := Lib.hid (heap_as hh HE.out)
            replace HA := Lib.hid (heap_as hh HA.out)
            replace hX := Lib.hid (hX.out.trans (hs.mono hX.out.size))
            clear hs hh
            refine hK.out _ _ trivial (fun _ => ?_)
            clear hK K
            (try simp only [Act.put, List.setIfInBounds_toArray, List.set_cons_zero, List.set_cons_succ, List.getElem_toArray, List.getElem_cons_zero, List.getElem_cons_succ])
            refine wpAnyH_take (i := 6) (oi := _) (v := ?_) rfl (by kernel_rfl) (by kernel_rfl) (by kernel_rfl) (fun _ _ _ h => h) (Or.inl ⟨by rfl, ?_⟩) (by assumption) ?_
            rotate_left
            · intro w hSw
              try dsimp only at hSw
              go_simp
              try with_reducible rfl
            (try simp only [Act.put, List.setIfInBounds_toArray, List.set_cons_zero, List.set_cons_succ, List.getElem_toArray, List.getElem_cons_zero, List.getElem_cons_succ])
            as_aux_lemma =>
              refine wpAnyH_ready (rs := [8]) (by kernel_rfl) (by simp) ?_
              refine AllReadyH.cons (o := _) rfl (fun K hK => ?_) AllReadyH.nil
              go_simp
              with_reducible refine (A3.out _).mono ?_
              rintro e W4 ⟨rfl, hh, hs⟩
              replace HE := Lib.hid (heap_as hh HE.out)
              replace HA := Lib.hid (heap_as hh HA.out)
              replace hX := Lib.hid (hX.out.trans (hs.mono hX.out.size))
              clear hs hh
              refine hK.out _ _ trivial (fun _ => ?_)
              clear hK K
              (try simp only [Act.put, List.setIfInBounds_toArray, List.set_cons_zero, List.set_cons_succ, List.getElem_toArray, List.getElem_cons_zero, List.getElem_cons_succ])
              refine wpAnyH_take (i := 9) (oi := _) (v := ?_) rfl (by kernel_rfl) (by kernel_rfl) (by kernel_rfl) (fun _ _ _ h => h) (Or.inl ⟨by rfl, ?_⟩) (by assumption) ?_
              rotate_left
              · intro w hSw
                try dsimp only at hSw
                go_simp
                try with_reducible rfl
              (try simp only [Act.put, List.setIfInBounds_toArray, List.set_cons_zero, List.set_cons_succ, List.getElem_toArray, List.getElem_cons_zero, List.getElem_cons_succ])
              refine wpAnyH_take (i := 10) (oi := _) (v := ?_) rfl (by kernel_rfl) (by kernel_rfl) (by kernel_rfl) (fun _ _ _ h => h) (Or.inl ⟨by rfl, ?_⟩) (by assumption) ?_
              rotate_left
              · intro w hSw
                try dsimp only at hSw
                go_simp
                try with_reducible rfl
              (try simp only [Act.put, List.setIfInBounds_toArray, List.set_cons_zero, List.set_cons_succ, List.getElem_toArray, List.getElem_cons_zero, List.getElem_cons_succ])
              refine wpAnyH_take (i := 11) (oi := _) (v := ?_) rfl (by kernel_rfl) (by kernel_rfl) (by kernel_rfl) (fun _ _ _ h => h) (Or.inl ⟨by rfl, ?_⟩) (by assumption) ?_
              rotate_left
              · intro w hSw
                try dsimp only at hSw
                go_simp
                try with_reducible rfl
              (try simp only [Act.put, List.setIfInBounds_toArray, List.set_cons_zero, List.set_cons_succ, List.getElem_toArray, List.getElem_cons_zero, List.getElem_cons_succ])
              as_aux_lemma =>
                refine wpAnyH_ready (rs := [13]) (by kernel_rfl) (by simp) ?_
                refine AllReadyH.cons (o := _) rfl (fun K hK => ?_) AllReadyH.nil
                go_simp
                with_reducible refine (A4.out _).mono ?_
                rintro e W5 ⟨rfl, hh, hs⟩
                replace HE := Lib.hid (heap_as hh HE.out)
                replace HA := Lib.hid (heap_as hh HA.out)
                replace hX := Lib.hid (hX.out.trans (hs.mono hX.out.size))
                clear hs hh
                refine hK.out _ _ trivial (fun _ => ?_)
                clear hK K
                (try simp only [Act.put, List.setIfInBounds_toArray, List.set_cons_zero, List.set_cons_succ, List.getElem_toArray, List.getElem_cons_zero, List.getElem_cons_succ])
                as_aux_lemma =>
                  refine wpAnyH_ready (rs := [15]) (by kernel_rfl) (by simp) ?_
                  refine AllReadyH.cons (o := _) rfl (fun K hK => ?_) AllReadyH.nil
                  go_simp
                  with_reducible refine (A5.out _).mono ?_
                  rintro e W6 ⟨rfl, hh, hs⟩
                  replace HE := Lib.hid (heap_as hh HE.out)
                  replace HA := Lib.hid (heap_as hh HA.out)
                  replace hX := Lib.hid (hX.out.trans (hs.mono hX.out.size))
                  clear hs hh
                  refine hK.out _ _ trivial (fun _ => ?_)
                  clear hK K
                  (try simp only [Act.put, List.setIfInBounds_toArray, List.set_cons_zero, List.set_cons_succ, List.getElem_toArray, List.getElem_cons_zero, List.getElem_cons_succ])
                  as_aux_lemma =>
                    refine wpAnyH_ready (rs := [17]) (by kernel_rfl) (by simp) ?_
                    refine AllReadyH.cons (o := _) rfl (fun K hK => ?_) AllReadyH.nil
                    go_simp
                    with_reducible refine (A6.out _).mono ?_
                    rintro e W7 ⟨rfl, hh, hs⟩
                    replace HE := Lib.hid (heap_as hh HE.out)
                    replace HA := Lib.hid (heap_as hh HA.out)
                    replace hX := Lib.hid (hX.out.trans (hs.mono hX.out.size))
                    clear hs hh
                    refine hK.out _ _ trivial (fun _ => ?_)
                    clear hK K
                    (try simp only [Act.put, List.setIfInBounds_toArray, List.set_cons_zero, List.set_cons_succ, List.getElem_toArray, List.getElem_cons_zero, List.getElem_cons_succ])
                    as_aux_lemma =>
                      refine wpAnyH_ready (rs := [19]) (by kernel_rfl) (by simp) ?_
                      refine AllReadyH.cons (o := _) rfl (fun K hK => ?_) AllReadyH.nil
                      go_simp
                      with_reducible refine (A7.out _).mono ?_
                      rintro e W8 ⟨rfl, hh, hs⟩
                      replace HE := Lib.hid (heap_as hh HE.out)
                      replace HA := Lib.hid (heap_as hh HA.out)
                      replace hX := Lib.hid (hX.out.trans (hs.mono hX.out.size))
                      clear hs hh
                      refine hK.out _ _ trivial (fun _ => ?_)
                      clear hK K
                      (try simp only [Act.put, List.setIfInBounds_toArray, List.set_cons_zero, List.set_cons_succ, List.getElem_toArray, List.getElem_cons_zero, List.getElem_cons_succ])
                      refine wpAnyH_take (i := 20) (oi := _) (v := ?_) rfl (by kernel_rfl) (by kernel_rfl) (by kernel_rfl) (fun _ _ _ h => h) (Or.inl ⟨by rfl, ?_⟩) (by assumption) ?_
                      rotate_left
                      · intro w hSw
                        try dsimp only at hSw
                        go_simp
                        try with_reducible rfl
                      (try simp only [Act.put, List.setIfInBounds_toArray, List.set_cons_zero, List.set_cons_succ, List.getElem_toArray, List.getElem_cons_zero, List.getElem_cons_succ])
                      as_aux_lemma =>
                        refine wpAnyH_ready (rs := [22]) (by kernel_rfl) (by simp) ?_
                        refine AllReadyH.cons (o := _) rfl (fun K hK => ?_) AllReadyH.nil
                        go_simp
                        with_reducible refine (A8.out _).mono ?_
                        rintro e W9 ⟨rfl, hh, hs⟩
                        replace HE := Lib.hid (heap_as hh HE.out)
                        replace HA := Lib.hid (heap_as hh HA.out)
                        replace hX := Lib.hid (hX.out.trans (hs.mono hX.out.size))
                        clear hs hh
                        refine hK.out _ _ trivial (fun _ => ?_)
                        clear hK K
                        (try simp only [Act.put, List.setIfInBounds_toArray, List.set_cons_zero, List.set_cons_succ, List.getElem_toArray, List.getElem_cons_zero, List.getElem_cons_succ])
                        refine wpAnyH_take (i := 23) (oi := _) (v := ?_) rfl (by kernel_rfl) (by kernel_rfl) (by kernel_rfl) (fun _ _ _ h => h) (Or.inl ⟨by rfl, ?_⟩) (by assumption) ?_
                        rotate_left
                        · intro w hSw
                          refine Eq.trans (exec_build (build_ino b n1 z0 n4 n5 n6 n7 n8 w) rfl (by simp only [List.map_toArray, List.map_cons, List.map_nil]; go_simp)) ?_
                          with_reducible rfl
                        (try simp only [Act.put, List.setIfInBounds_toArray, List.set_cons_zero, List.set_cons_succ, List.getElem_toArray, List.getElem_cons_zero, List.getElem_cons_succ])
                        as_aux_lemma =>
                          refine wpAnyH_ready (rs := [25]) (by kernel_rfl) (by simp) ?_
                          refine AllReadyH.cons (o := _) rfl (fun K hK => ?_) AllReadyH.nil
                          refine wp_store_row _ _ _ rfl (w.heap.size + 1) _ rfl rfl (store_ino W9 (w.heap.size + 1) _ _ _ _ _ _ _ _ _ HA.out rfl (by simp [Value.oneCell'])) ?_
                          refine hK.out _ _ trivial (fun _ => ?_)
                          clear hK K
                          (try simp only [Act.put, List.setIfInBounds_toArray, List.set_cons_zero, List.set_cons_succ, List.getElem_toArray, List.getElem_cons_zero, List.getElem_cons_succ])
                          refine wpAnyH_done (by kernel_rfl) ?_ _
                          go_wp2_with fail
                          go_meet
                          case rel => exact ⟨rfl, setRow_other HE.out (by omega) _, setRow_heap _ _ _ _ _ _ HA.out, below_setRow hX.out _ (Nat.le_succ _) _⟩
      refine AllReadyH.cons (o := _) rfl (fun K hK => ?_) AllReadyH.nil
      go_simp
      have HA := Lib.hid (alloc_at W0 (.cells #[.int .u8 0, .int .u16 0, .int .u32 0, .int .u16 0, .int .u16 0, .int .u16 0, .int .u16 0, .int .u16 0] 26) hsz)
      replace HE := Lib.hid (heap_keep' HE.out (.cells #[.int .u8 0, .int .u16 0, .int .u32 0, .int .u16 0, .int .u16 0, .int .u16 0, .int .u16 0, .int .u16 0] 26))
      replace hX := Lib.hid (hX.out.alloc hX.out.size (.cells #[.int .u8 0, .int .u16 0, .int .u32 0, .int .u16 0, .int .u16 0, .int .u16 0, .int .u16 0, .int .u16 0] 26))
      refine hK.out _ _ trivial (fun _ => ?_)
      clear hK K
      (try simp only [Act.put, List.setIfInBounds_toArray, List.set_cons_zero, List.set_cons_succ, List.getElem_toArray, List.getElem_cons_zero, List.getElem_cons_succ])
      generalize W0.alloc (.cells #[.int .u8 0, .int .u16 0, .int .u32 0, .int .u16 0, .int .u16 0, .int .u16 0, .int .u16 0, .int .u16 0] 26) = W1 at *
      clear hsz
      as_aux_lemma =>
        refine wpAnyH_ready (rs := [3]) (by kernel_rfl) (by simp) ?_
        refine AllReadyH.cons (o := _) rfl (fun K hK => ?_) AllReadyH.nil
        go_simp
        with_reducible refine (A1.out _).mono ?_
        rintro e W2 ⟨rfl, hh, hs⟩
        replace HE := Lib.hid (heap_as hh HE.out)
        replace HA := Lib.hid (heap_as hh HA.out)
        replace hX := Lib.hid (hX.out.trans (hs.mono hX.out.size))
        clear hs hh
        refine hK.out _ _ trivial (fun _ => ?_)
        clear hK K
        (try simp only [Act.put, List.setIfInBounds_toArray, List.set_cons_zero, List.set_cons_succ, List.getElem_toArray, List.getElem_cons_zero, List.getElem_cons_succ])
        as_aux_lemma =>
          refine wpAnyH_ready (rs := [5]) (by kernel_rfl) (by simp) ?_
          refine AllReadyH.cons (o := _) rfl (fun K hK => ?_) AllReadyH.nil
          go_simp
          with_reducible refine (A2.out _).mono ?_
          rintro e W3 ⟨rfl, hh, hs⟩
          replace HE := Lib.hid (heap_as hh HE.out)
          replace HA := Lib.hid (heap_as hh HA.out)
          replace hX := Lib.hid (hX.out.trans (hs.mono hX.out.size))
          clear hs hh
          refine hK.out _ _ trivial (fun _ => ?_)
          clear hK K
          (try simp only [Act.put, List.setIfInBounds_toArray, List.set_cons_zero, List.set_cons_succ, List.getElem_toArray, List.getElem_cons_zero, List.getElem_cons_succ])
          refine wpAnyH_take (i := 6) (oi := _) (v := ?_) rfl (by kernel_rfl) (by kernel_rfl) (by kernel_rfl) (fun _ _ _ h => h) (Or.inl ⟨by rfl, ?_⟩) (by assumption) ?_
          rotate_left
          · intro w hSw
            try dsimp only at hSw
            go_simp
            try with_reducible rfl
          (try simp only [Act.put, List.setIfInBounds_toArray, List.set_cons_zero, List.set_cons_succ, List.getElem_toArray, List.getElem_cons_zero, List.getElem_cons_succ])
          as_aux_lemma =>
            refine wpAnyH_ready (rs := [8]) (by kernel_rfl) (by simp) ?_
            refine AllReadyH.cons (o := _) rfl (fun K hK => ?_) AllReadyH.nil
            go_simp
            with_reducible refine (A3.out _).mono ?_
            rintro e W4 ⟨rfl, hh, hs⟩
            replace HE := Lib.hid (heap_as hh HE.out)
            replace HA := Lib.hid (heap_as hh HA.out)
            replace hX := Lib.hid (hX.out.trans (hs.mono hX.out.size))
            clear hs hh
            refine hK.out _ _ trivial (fun _ => ?_)
            clear hK K
            (try simp only [Act.put, List.setIfInBounds_toArray, List.set_cons_zero, List.set_cons_succ, List.getElem_toArray, List.getElem_cons_zero, List.getElem_cons_succ])
            refine wpAnyH_take (i := 9) (oi := _) (v := ?_) rfl (by kernel_rfl) (by kernel_rfl) (by kernel_rfl) (fun _ _ _ h => h) (Or.inl ⟨by rfl, ?_⟩) (by assumption) ?_
            rotate_left
            · intro w hSw
              try dsimp only at hSw
              go_simp
              try with_reducible rfl
            (try simp only [Act.put, List.setIfInBounds_toArray, List.set_cons_zero, List.set_cons_succ, List.getElem_toArray, List.getElem_cons_zero, List.getElem_cons_succ])
            refine wpAnyH_take (i := 10) (oi := _) (v := ?_) rfl (by kernel_rfl) (by kernel_rfl) (by kernel_rfl) (fun _ _ _ h => h) (Or.inl ⟨by rfl, ?_⟩) (by assumption) ?_
            rotate_left
            · intro w hSw
              try dsimp only at hSw
              go_simp
              try with_reducible rfl
            (try simp only [Act.put, List.setIfInBounds_toArray, List.set_cons_zero, List.set_cons_succ, List.getElem_toArray, List.getElem_cons_zero, List.getElem_cons_succ])
            refine wpAnyH_take (i := 11) (oi := _) (v := ?_) rfl (by kernel_rfl) (by kernel_rfl) (by kernel_rfl) (fun _ _ _ h => h) (Or.inl ⟨by rfl, ?_⟩) (by assumption) ?_
            rotate_left
            · intro w hSw
              try dsimp only at hSw
              go_simp
              try with_reducible rfl
            (try simp only [Act.put, List.setIfInBounds_toArray, List.set_cons_zero, List.set_cons_succ, List.getElem_toArray, List.getElem_cons_zero, List.getElem_cons_succ])
            as_aux_lemma =>
              refine wpAnyH_ready (rs := [13]) (by kernel_rfl) (by simp) ?_
              refine AllReadyH.cons (o := _) rfl (fun K hK => ?_) AllReadyH.nil
              go_simp
              with_reducible refine (A4.out _).mono ?_
              rintro e W5 ⟨rfl, hh, hs⟩
              replace HE := Lib.hid (heap_as hh HE.out)
              replace HA := Lib.hid (heap_as hh HA.out)
              replace hX := Lib.hid (hX.out.trans (hs.mono hX.out.size))
              clear hs hh
              refine hK.out _ _ trivial (fun _ => ?_)
              clear hK K
              (try simp only [Act.put, List.setIfInBounds_toArray, List.set_cons_zero, List.set_cons_succ, List.getElem_toArray, List.getElem_cons_zero, List.getElem_cons_succ])
              as_aux_lemma =>
                refine wpAnyH_ready (rs := [15]) (by kernel_rfl) (by simp) ?_
                refine AllReadyH.cons (o := _) rfl (fun K hK => ?_) AllReadyH.nil
                go_simp
                with_reducible refine (A5.out _).mono ?_
                rintro e W6 ⟨rfl, hh, hs⟩
                replace HE := Lib.hid (heap_as hh HE.out)
                replace HA := Lib.hid (heap_as hh HA.out)
                replace hX := Lib.hid (hX.out.trans (hs.mono hX.out.size))
                clear hs hh
                refine hK.out _ _ trivial (fun _ => ?_)
                clear hK K
                (try simp only [Act.put, List.setIfInBounds_toArray, List.set_cons_zero, List.set_cons_succ, List.getElem_toArray, List.getElem_cons_zero, List.getElem_cons_succ])
                as_aux_lemma =>
                  refine wpAnyH_ready (rs := [17]) (by kernel_rfl) (by simp) ?_
                  refine AllReadyH.cons (o := _) rfl (fun K hK => ?_) AllReadyH.nil
                  go_simp
                  with_reducible refine (A6.out _).mono ?_
                  rintro e W7 ⟨rfl, hh, hs⟩
                  replace HE := Lib.hid (heap_as hh HE.out)
                  replace HA := Lib.hid (heap_as hh HA.out)
                  replace hX := Lib.hid (hX.out.trans (hs.mono hX.out.size))
                  clear hs hh
                  refine hK.out _ _ trivial (fun _ => ?_)
                  clear hK K
                  (try simp only [Act.put, List.setIfInBounds_toArray, List.set_cons_zero, List.set_cons_succ, List.getElem_toArray, List.getElem_cons_zero, List.getElem_cons_succ])
                  as_aux_lemma =>
                    refine wpAnyH_ready (rs := [19]) (by kernel_rfl) (by simp) ?_
                    refine AllReadyH.cons (o := _) rfl (fun K hK => ?_) AllReadyH.nil
                    go_simp
                    with_reducible refine (A7.out _).mono ?_
                    rintro e W8 ⟨rfl, hh, hs⟩
                    replace HE := Lib.hid (heap_as hh HE.out)
                    replace HA := Lib.hid (heap_as hh HA.out)
                    replace hX := Lib.hid (hX.out.trans (hs.mono hX.out.size))
                    clear hs hh
                    refine hK.out _ _ trivial (fun _ => ?_)
                    clear hK K
                    (try simp only [Act.put, List.setIfInBounds_toArray, List.set_cons_zero, List.set_cons_succ, List.getElem_toArray, List.getElem_cons_zero, List.getElem_cons_succ])
                    refine wpAnyH_take (i := 20) (oi := _) (v := ?_) rfl (by kernel_rfl) (by kernel_rfl) (by kernel_rfl) (fun _ _ _ h => h) (Or.inl ⟨by rfl, ?_⟩) (by assumption) ?_
                    rotate_left
                    · intro w hSw
                      try dsimp only at hSw
                      go_simp
                      try with_reducible rfl
                    (try simp only [Act.put, List.setIfInBounds_toArray, List.set_cons_zero, List.set_cons_succ, List.getElem_toArray, List.getElem_cons_zero, List.getElem_cons_succ])
                    as_aux_lemma =>
                      refine wpAnyH_ready (rs := [22]) (by kernel_rfl) (by simp) ?_
                      refine AllReadyH.cons (o := _) rfl (fun K hK => ?_) AllReadyH.nil
                      go_simp
                      with_reducible refine (A8.out _).mono ?_
                      rintro e W9 ⟨rfl, hh, hs⟩
                      replace HE := Lib.hid (heap_as hh HE.out)
                      replace HA := Lib.hid (heap_as hh HA.out)
                      replace hX := Lib.hid (hX.out.trans (hs.mono hX.out.size))
                      clear hs hh
                      refine hK.out _ _ trivial (fun _ => ?_)
                      clear hK K
                      (try simp only [Act.put, List.setIfInBounds_toArray, List.set_cons_zero, List.set_cons_succ, List.getElem_toArray, List.getElem_cons_zero, List.getElem_cons_succ])
                      refine wpAnyH_take (i := 23) (oi := _) (v := ?_) rfl (by kernel_rfl) (by kernel_rfl) (by kernel_rfl) (fun _ _ _ h => h) (Or.inl ⟨by rfl, ?_⟩) (by assumption) ?_
                      rotate_left
                      · intro w hSw
                        refine Eq.trans (exec_build (build_ino b n1 z0 n4 n5 n6 n7 n8 w) rfl (by simp only [List.map_toArray, List.map_cons, List.map_nil]; go_simp)) ?_
                        with_reducible rfl
                      (try simp only [Act.put, List.setIfInBounds_toArray, List.set_cons_zero, List.set_cons_succ, List.getElem_toArray, List.getElem_cons_zero, List.getElem_cons_succ])
                      as_aux_lemma =>
                        refine wpAnyH_ready (rs := [25]) (by kernel_rfl) (by simp) ?_
                        refine AllReadyH.cons (o := _) rfl (fun K hK => ?_) AllReadyH.nil
                        refine wp_store_row _ _ _ rfl (w.heap.size + 1) _ rfl rfl (store_ino W9 (w.heap.size + 1) _ _ _ _ _ _ _ _ _ HA.out rfl (by simp [Value.oneCell'])) ?_
                        refine hK.out _ _ trivial (fun _ => ?_)
                        clear hK K
                        (try simp only [Act.put, List.setIfInBounds_toArray, List.set_cons_zero, List.set_cons_succ, List.getElem_toArray, List.getElem_cons_zero, List.getElem_cons_succ])
                        refine wpAnyH_done (by kernel_rfl) ?_ _
                        go_wp2_with fail
                        go_meet
                        case rel => exact ⟨rfl, setRow_other HE.out (by omega) _, setRow_heap _ _ _ _ _ _ HA.out, below_setRow hX.out _ (Nat.le_succ _) _⟩
  case rest =>
    as_aux_lemma =>
      obtain ⟨rfl, hE, hD, hB⟩ := hcut
      have HB := Lib.hid hB
      have hxf : (⟨b.toNat, n1, z0, n4, n5, n6, n7, n8⟩ : Im).fits := by rw [← HX.out]; exact HF.out
      have HG : Hid (getL (b :: r) = if (⟨b.toNat, n1, z0, n4, n5, n6, n7, n8⟩ : Im).may ∧ (⟨b.toNat, n1, z0, n4, n5, n6, n7, n8⟩ : Im).putL = b :: r then some ⟨b.toNat, n1, z0, n4, n5, n6, n7, n8⟩ else none) := Lib.hid (by unfold getL; rw [HX.out])
      clear hB HX HF hor hw2 hw3 hw4 h32 A1 A2 A3 A4 A5 A6 A7 A8
      have d0 := cell_of_row wc (w.heap.size + 1) 0 _ 26 (0, 0) hD
      have d1 := cell_of_row wc (w.heap.size + 1) 1 _ 26 (0, 0) hD
      have d2 := cell_of_row wc (w.heap.size + 1) 2 _ 26 (0, 0) hD
      have d3 := cell_of_row wc (w.heap.size + 1) 3 _ 26 (0, 0) hD
      have d4 := cell_of_row wc (w.heap.size + 1) 4 _ 26 (0, 0) hD
      have d5 := cell_of_row wc (w.heap.size + 1) 5 _ 26 (0, 0) hD
      have d6 := cell_of_row wc (w.heap.size + 1) 6 _ 26 (0, 0) hD
      have d7 := cell_of_row wc (w.heap.size + 1) 7 _ 26 (0, 0) hD
      simp only [List.getElem?_toArray, List.getElem?_cons_zero, List.getElem?_cons_succ] at d0 d1 d2 d3 d4 d5 d6 d7
      have HD := Lib.hid hD
      have HE := Lib.hid hE
      have hlt3 := row_lt' hD
      have hlt4 := row_lt' hE
      clear hD hE
      by_cases hm : (⟨b.toNat, n1, z0, n4, n5, n6, n7, n8⟩ : Im).may
      case neg =>
        as_aux_lemma =>
          have HR : Hid (getL (b :: r) = none) := Lib.hid (by rw [HG.out, if_neg (fun h => hm h.1)])
          have HM : Hid (∀ W, Calls Try.prog 18 #[.agg #[.int .u8 b.toNat, w16 n1, .int .u32 z0, w16 n4, w16 n5, w16 n6, w16 n7, w16 n8]] W fun e w' => e = .returned (.bool false) ∧ Below W.heap.size W w') := Lib.hid fun W => by
            have := refMay_any ⟨b.toNat, n1, z0, n4, n5, n6, n7, n8⟩ hxf W
            rwa [decide_eq_false hm] at this
          clear hm HG
          go_wp2_with fail
          refine (HM.out _).mono ?_
          rintro e W4 ⟨rfl, hb⟩
          have hE := (hb.block _ hlt4).trans HE.out
          have HB := Lib.hid (HB.out.trans (hb.mono HB.out.size))
          clear hb d0 d1 d2 d3 d4 d5 d6 d7
          have HE := Lib.hid hE
          clear hE
          go_wp2_with (with_reducible show wpList _ _ _ (⟨none, .store _ _ _, _, _, _, _⟩ :: _) _ _; refine Heldp.out ?_)
          unfold Heldp
          refine wpList_store_ino _ _ w.heap.size _ _ _ _ _ _ _ _ _ rfl rfl HE.out rfl (by simp [Value.oneCell']) ?_
          go_wp2_with fail
          refine bodyPost_ret (v := getV none) ?_ rfl ⟨by rw [HR.out], below_setRow HB.out _ (Nat.le_refl _) _⟩
          exact results_row_tmp' (p := 2) (q := 3) rfl _ _ w.heap.size _ rfl (load_ino _ _ Im.nought (setRow_heap _ _ _ _ _ _ HE.out))
      case pos =>
        have HM : Hid (∀ W, Calls Try.prog 18 #[.agg #[.int .u8 b.toNat, w16 n1, .int .u32 z0, w16 n4, w16 n5, w16 n6, w16 n7, w16 n8]] W fun e w' => e = .returned (.bool true) ∧ Below W.heap.size W w') := Lib.hid fun W => by
          have := refMay_any ⟨b.toNat, n1, z0, n4, n5, n6, n7, n8⟩ hxf W
          rwa [decide_eq_true hm] at this
        have hps : ∀ W, Calls Try.prog 20 #[.agg #[.int .u8 b.toNat, w16 n1, .int .u32 z0, w16 n4, w16 n5, w16 n6, w16 n7, w16 n8]] W fun e w' => e = .returned (str (Im.putL ⟨b.toNat, n1, z0, n4, n5, n6, n7, n8⟩)) ∧ Below W.heap.size W w' := fun W => refPut_any ⟨b.toNat, n1, z0, n4, n5, n6, n7, n8⟩ hxf W
        by_cases heq : Im.putL ⟨b.toNat, n1, z0, n4, n5, n6, n7, n8⟩ = b :: r
        case pos =>
          as_aux_lemma =>
            have HR : Hid (getL (b :: r) = some ⟨b.toNat, n1, z0, n4, n5, n6, n7, n8⟩) := Lib.hid (by rw [HG.out, if_pos ⟨hm, heq⟩])
            rw [heq] at hps
            have HP := Lib.hid hps
            clear hps hm heq HG
            go_wp2_with fail
            refine (HM.out _).mono ?_
            rintro e W4 ⟨rfl, hb⟩
            have hE := (hb.block _ hlt4).trans HE.out
            have hD := (hb.block _ hlt3).trans HD.out
            have HB := Lib.hid (HB.out.trans (hb.mono HB.out.size))
            clear hb d0 d1 d2 d3 d4 d5 d6 d7
            have d0 := cell_of_row W4 (w.heap.size + 1) 0 _ 26 (0, 0) hD
            have d1 := cell_of_row W4 (w.heap.size + 1) 1 _ 26 (0, 0) hD
            have d2 := cell_of_row W4 (w.heap.size + 1) 2 _ 26 (0, 0) hD
            have d3 := cell_of_row W4 (w.heap.size + 1) 3 _ 26 (0, 0) hD
            have d4 := cell_of_row W4 (w.heap.size + 1) 4 _ 26 (0, 0) hD
            have d5 := cell_of_row W4 (w.heap.size + 1) 5 _ 26 (0, 0) hD
            have d6 := cell_of_row W4 (w.heap.size + 1) 6 _ 26 (0, 0) hD
            have d7 := cell_of_row W4 (w.heap.size + 1) 7 _ 26 (0, 0) hD
            simp only [List.getElem?_toArray, List.getElem?_cons_zero, List.getElem?_cons_succ] at d0 d1 d2 d3 d4 d5 d6 d7
            have HD := Lib.hid hD
            have HE := Lib.hid hE
            have hlt3 := row_lt' hD
            have hlt4 := row_lt' hE
            clear hD hE
            go_wp2_with fail
            refine (HP.out _).mono ?_
            rintro e W5 ⟨rfl, hb⟩
            have hE := (hb.block _ hlt4).trans HE.out
            have hD := (hb.block _ hlt3).trans HD.out
            have HB := Lib.hid (HB.out.trans (hb.mono HB.out.size))
            clear hb d0 d1 d2 d3 d4 d5 d6 d7
            have d0 := cell_of_row W5 (w.heap.size + 1) 0 _ 26 (0, 0) hD
            have d1 := cell_of_row W5 (w.heap.size + 1) 1 _ 26 (0, 0) hD
            have d2 := cell_of_row W5 (w.heap.size + 1) 2 _ 26 (0, 0) hD
            have d3 := cell_of_row W5 (w.heap.size + 1) 3 _ 26 (0, 0) hD
            have d4 := cell_of_row W5 (w.heap.size + 1) 4 _ 26 (0, 0) hD
            have d5 := cell_of_row W5 (w.heap.size + 1) 5 _ 26 (0, 0) hD
            have d6 := cell_of_row W5 (w.heap.size + 1) 6 _ 26 (0, 0) hD
            have d7 := cell_of_row W5 (w.heap.size + 1) 7 _ 26 (0, 0) hD
            simp only [List.getElem?_toArray, List.getElem?_cons_zero, List.getElem?_cons_succ] at d0 d1 d2 d3 d4 d5 d6 d7
            have HE := Lib.hid hE
            clear hE hD
            go_wp2_with (with_reducible show wpList _ _ _ (⟨none, .store _ _ _, _, _, _, _⟩ :: _) _ _; refine Heldp.out ?_)
            unfold Heldp
            refine wpList_store_ino _ _ w.heap.size _ _ _ _ _ _ _ _ _ rfl rfl HE.out rfl (by simp [Value.oneCell']) ?_
            go_wp2_with fail
            refine bodyPost_ret (v := getV (some ⟨b.toNat, n1, z0, n4, n5, n6, n7, n8⟩)) ?_ rfl ⟨by rw [HR.out], below_setRow HB.out _ (Nat.le_refl _) _⟩
            exact results_row_tmp' (p := 2) (q := 3) rfl _ _ w.heap.size _ rfl (load_ino _ _ ⟨b.toNat, n1, z0, n4, n5, n6, n7, n8⟩ (setRow_heap _ _ _ _ _ _ HE.out))
        case neg =>
          as_aux_lemma =>
            have HR : Hid (getL (b :: r) = none) := Lib.hid (by rw [HG.out, if_neg (fun h => heq h.2)])
            have hne : (Im.putL ⟨b.toNat, n1, z0, n4, n5, n6, n7, n8⟩ == b :: r) = false := by simpa using heq
            generalize Im.putL ⟨b.toNat, n1, z0, n4, n5, n6, n7, n8⟩ = tt at hps hne
            have HP := Lib.hid hps
            clear hps hm heq HG
            go_wp2_with fail
            refine (HM.out _).mono ?_
            rintro e W4 ⟨rfl, hb⟩
            have hE := (hb.block _ hlt4).trans HE.out
            have hD := (hb.block _ hlt3).trans HD.out
            have HB := Lib.hid (HB.out.trans (hb.mono HB.out.size))
            clear hb d0 d1 d2 d3 d4 d5 d6 d7
            have d0 := cell_of_row W4 (w.heap.size + 1) 0 _ 26 (0, 0) hD
            have d1 := cell_of_row W4 (w.heap.size + 1) 1 _ 26 (0, 0) hD
            have d2 := cell_of_row W4 (w.heap.size + 1) 2 _ 26 (0, 0) hD
            have d3 := cell_of_row W4 (w.heap.size + 1) 3 _ 26 (0, 0) hD
            have d4 := cell_of_row W4 (w.heap.size + 1) 4 _ 26 (0, 0) hD
            have d5 := cell_of_row W4 (w.heap.size + 1) 5 _ 26 (0, 0) hD
            have d6 := cell_of_row W4 (w.heap.size + 1) 6 _ 26 (0, 0) hD
            have d7 := cell_of_row W4 (w.heap.size + 1) 7 _ 26 (0, 0) hD
            simp only [List.getElem?_toArray, List.getElem?_cons_zero, List.getElem?_cons_succ] at d0 d1 d2 d3 d4 d5 d6 d7
            have HE := Lib.hid hE
            have hlt4 := row_lt' hE
            clear hD hE
            go_wp2_with fail
            refine (HP.out _).mono ?_
            rintro e W5 ⟨rfl, hb⟩
            have hE := (hb.block _ hlt4).trans HE.out
            have HB := Lib.hid (HB.out.trans (hb.mono HB.out.size))
            clear hb d0 d1 d2 d3 d4 d5 d6 d7
            have HE := Lib.hid hE
            clear hE
            go_wp2_with (with_reducible show wpList _ _ _ (⟨none, .store _ _ _, _, _, _, _⟩ :: _) _ _; refine Heldp.out ?_)
            unfold Heldp
            refine wpList_store_ino _ _ w.heap.size _ _ _ _ _ _ _ _ _ rfl rfl HE.out rfl (by simp [Value.oneCell']) ?_
            go_wp2_with fail
            refine bodyPost_ret (v := getV none) ?_ rfl ⟨by rw [HR.out], below_setRow HB.out _ (Nat.le_refl _) _⟩
            exact results_row_tmp' (p := 2) (q := 3) rfl _ _ w.heap.size _ rfl (load_ino _ _ Im.nought (setRow_heap _ _ _ _ _ _ HE.out))
theorem refGet_any (s : List UInt8) (w : World) (hs : s.length ≤ 1000000) :
    Calls Try.prog 10 #[str s] w fun e w' => e = .returned (if s.length < 32 then .tuple #[Im.nought.v, .int .i64 6] else getV (getL s)) ∧ Below w.heap.size w w' := by
  by_cases h1 : s.length < 32
  · rw [if_pos h1]; exact refGet_short s w h1
  · rw [if_neg h1]
    match s, h1, hs with
    | [], h1, _ => simp at h1
    | b :: r, h1, hs => exact refGet_more b r w (by omega) hs
end Go.Proofs.Ytpipjjngffajlaa
