/- Layer 10 (dirs), the document's own answers: what a slot tells. -/
import Derived.Test.YtmidoghjacmdcaaDirs4
import Derived.Deep.CutRange
import Derived.Deep.RegionWith
namespace Go.Proofs.Ytmidoghjacmdcaa
open Go.RowKit Go.Lib
set_option linter.unusedVariables false
set_option linter.unusedSimpArgs false
set_option maxRecDepth 10000
theorem heap_keep (W : World) (o p : Obj) (g : Nat) (h : W.heap[g]? = some p) : (W.alloc o).heap[g]? = some p := by
  have := (Array.getElem?_eq_some_iff.1 h).1
  rw [heap_alloc_old _ _ this]
  exact h
/-- The result's block is there, and nothing that was there has turned. -/
def RdT (w W : World) : Prop := (∃ a b, W.heap[w.heap.size]? = some (.cells #[a, b] 34 (0, 0))) ∧ Below w.heap.size w W
theorem rd_kept {w W W' : World} {p : Nat} {a b : Value} (h : W.cell? ⟨p, 0, none⟩ = some a ∧ W.cell? ⟨p, 1, none⟩ = some b ∧ RdT w W) (hb : Below W.heap.size W W') : W'.cell? ⟨p, 0, none⟩ = some a ∧ W'.cell? ⟨p, 1, none⟩ = some b ∧ RdT w W' := by
  have hp : p < W.heap.size := World.block_lt_of_cell? W _ h.1
  obtain ⟨h1, h2, ⟨x, y, h3⟩, h4⟩ := h
  have hq := (Array.getElem?_eq_some_iff.1 h3).1
  exact ⟨(hb.cell (p := ⟨p, 0, none⟩) hp).trans h1, (hb.cell (p := ⟨p, 1, none⟩) hp).trans h2, ⟨x, y, (hb.block _ hq).trans h3⟩, h4.trans (hb.mono h4.size)⟩
theorem rd_set {w W : World} {p : Nat} {a b x y : Value} (hp : w.heap.size < p) (h : W.cell? ⟨p, 0, none⟩ = some a ∧ W.cell? ⟨p, 1, none⟩ = some b ∧ RdT w W) :
    ((W.setCell ⟨w.heap.size, 0, none⟩ x).setCell ⟨w.heap.size, 1, none⟩ y).cell? ⟨p, 0, none⟩ = some a ∧ ((W.setCell ⟨w.heap.size, 0, none⟩ x).setCell ⟨w.heap.size, 1, none⟩ y).cell? ⟨p, 1, none⟩ = some b ∧ RdT w ((W.setCell ⟨w.heap.size, 0, none⟩ x).setCell ⟨w.heap.size, 1, none⟩ y) := by
  obtain ⟨h1, h2, ⟨u, v, h3⟩, h4⟩ := h
  refine ⟨?_, ?_, ⟨x, y, ?_⟩, (h4.setCell (p := ⟨w.heap.size, 0, none⟩) (by simp) _).setCell (p := ⟨w.heap.size, 1, none⟩) (by simp) _⟩
  · rw [World.cell?_setCell_other _ _ _ _ (by intro e; injection e; omega), World.cell?_setCell_other _ _ _ _ (by intro e; injection e; omega)]; exact h1
  · rw [World.cell?_setCell_other _ _ _ _ (by intro e; injection e; omega), World.cell?_setCell_other _ _ _ _ (by intro e; injection e; omega)]; exact h2
  · have e := heap_setCell_same W w.heap.size 0 _ _ x h3
    rw [heap_setCell_same _ w.heap.size 1 _ _ y e]
    simp
theorem okS_free : okS freeL = true := by decide
theorem okS_far {s : List UInt8} (hs : s.length = 32) (hf : s ≠ freeL) (h : 27 < (s[4]'(by omega)).toNat) : okS s = false := by
  have hd : s.drop 4 = s[4]'(by omega) :: s.drop 5 := List.drop_eq_getElem_cons (by omega)
  have hn : (getE s).n = [] := by
    unfold getE
    simp only [hd, name8]
    rw [if_neg (by simp; omega)]
  rw [Bool.eq_false_iff]
  intro h1
  obtain ⟨h2, h3⟩ := okS_okE h1
  have h4 := h2.name_nil.1 hn
  rw [h4, slotL_free] at h3
  exact hf h3.symm
theorem getE_near {s : List UInt8} (hs : s.length = 32) {k : Nat} (hk : (s[4]'(by omega)).toNat = k) (h : k ≤ 27) : getE s = ⟨(s.take (5 + k)).drop 5, leV (s.take 4)⟩ := by
  have hd : s.drop 4 = s[4]'(by omega) :: s.drop 5 := List.drop_eq_getElem_cons (by omega)
  unfold getE
  simp only [hd, name8, hk]
  rw [if_pos (by simp; omega), List.take_drop]
theorem okS_near {s : List UInt8} (hf : s ≠ freeL) : okS s = (mayB (getE s) && decide (slotL (getE s) = s)) := by
  unfold okS
  by_cases h : getE s = En.free
  · rw [h, slotL_free]
    have h2 : ¬ freeL = s := fun e => hf e.symm
    simp [h2]
  · simp [h]
set_option maxHeartbeats 400000 in
theorem refValue_same (l : List UInt8) (w : World) (hl : l.length ≤ 8) :
    Calls Try.prog 61 #[str l] w fun e w' => e = .returned (.int .u64 (leV l)) ∧ w = w' := by
  go_enter Try.func61, Try.ntmps61
  go_wp2
  go_loop [3, 4] (fun v i => ∃ k m : Nat, k ≤ l.length ∧ i = .int .i64 ((k : Int) - 1) ∧ v = .int .u64 m ∧ m = leV (l.drop k)) (fun _ i => (Go.RowKit.intOf i + 1).toNat)
  case atStart => exact ⟨l.length, 0, Nat.le_refl _, rfl, rfl, by simp [leV]⟩
  case round =>
    obtain ⟨k, m, hk, rfl, rfl, hm⟩ := hrel
    have Hm := Lib.hid hm
    rcases Nat.eq_zero_or_pos k with h0 | h0
    · clear hm
      subst h0
      go_wp2
      go_ret
      exact ⟨by rw [Hm.out]; rfl, rfl⟩
    · have hm2 := leV_lt (l.drop k)
      rw [← hm, List.length_drop] at hm2
      clear hm
      have hm3 : m < 72057594037927936 := Nat.lt_of_lt_of_le hm2 (by
        have : 256 ^ (l.length - k) ≤ 256 ^ 7 := Nat.pow_le_pow_right (by omega) (by omega)
        exact Nat.le_trans this (by decide))
      clear hm2
      obtain ⟨j, rfl⟩ : ∃ j, k = j + 1 := ⟨k - 1, by omega⟩
      have hj : j < l.length := by omega
      have hd := leV_drop l j hj
      have Hd := Lib.hid hd
      clear hd
      have hbyte := (l[j]).toNat_lt
      go_wp2
      go_round
      case rel =>
        refine ⟨j, (l[j]).toNat + 256 * m, by omega, rfl, ?_, by rw [Hd.out, Hm.out]⟩
        go_num
      case measure => simp [Go.RowKit.intOf]
set_option maxRecDepth 100000 in
set_option maxHeartbeats 2000000 in
theorem refRead_any (s : List UInt8) (w : World) (hs : s.length = 32) :
    Calls Try.prog 49 #[str s] w fun e w' => (∃ y : En, e = .returned (.tuple #[y.v, .bool (okS s)]) ∧ (okS s = true → y = getE s)) ∧ Below w.heap.size w w' := by
  have HF := Lib.hid free_any
  by_cases h0 : s = freeL
  · subst h0
    have HO := Lib.hid okS_free
    have HG := Lib.hid getE_free
    clear hs
    generalize freeL = F at *
    go_enter Try.func49, Try.ntmps49
    go_wp2_with fail
    refine (HF.out _).mono ?_
    rintro e w1 ⟨rfl, hb⟩
    have hcell : w1.heap[w.heap.size]? = some (.cells #[str [], .int .u32 0] 34 (0, 0)) := (hb.block _ (by simp)).trans (heap_alloc_new w _)
    obtain ⟨d0, d1⟩ := cells_two2 hcell
    have f0 := frozen_of_row w1 w.heap.size 0 _ _ hcell
    have f1 := frozen_of_row w1 w.heap.size 1 _ _ hcell
    have B1 := Lib.hid (((Below.refl _ w).alloc (Nat.le_refl _) (.cells #[str [], .int .u32 0] 34)).trans (hb.mono (by simp)))
    clear hb hcell
    go_wp2_with fail
    obtain ⟨r0, r1⟩ := set_two d0 d1 (.string ⟨#[]⟩) (.int .u32 0)
    refine bodyPost_ret (v := .tuple #[En.free.v, .bool true]) ?_ rfl ⟨⟨En.free, by rw [HO.out], fun _ => HG.out.symm⟩, (B1.out.setCell (p := ⟨w.heap.size, 0, none⟩) (by simp) _).setCell (p := ⟨w.heap.size, 1, none⟩) (by simp) _⟩
    simp [results, Try.f49, go_sem, r0, r1, En.free]
  · have q0 : (s == freeL) = false := by simp [h0]
    obtain ⟨k, hk⟩ : ∃ k, (s[4]'(by omega)).toNat = k := ⟨_, rfl⟩
    have hk255 : k ≤ 255 := by have := (s[4]'(by omega)).toNat_lt; omega
    by_cases h27 : 27 < k
    · have HO := Lib.hid (okS_far hs h0 (by rw [hk]; exact h27))
      clear h0
      generalize freeL = F at *
      go_enter Try.func49, Try.ntmps49
      go_wp2_with fail
      refine (HF.out _).mono ?_
      rintro e w1 ⟨rfl, hb⟩
      have hcell : w1.heap[w.heap.size]? = some (.cells #[str [], .int .u32 0] 34 (0, 0)) := (hb.block _ (by simp)).trans (heap_alloc_new w _)
      obtain ⟨d0, d1⟩ := cells_two2 hcell
      have f0 := frozen_of_row w1 w.heap.size 0 _ _ hcell
      have f1 := frozen_of_row w1 w.heap.size 1 _ _ hcell
      have B1 := Lib.hid (((Below.refl _ w).alloc (Nat.le_refl _) (.cells #[str [], .int .u32 0] 34)).trans (hb.mono (by simp)))
      clear hb hcell
      go_wp2_with fail
      obtain ⟨r0, r1⟩ := set_two d0 d1 (.string ⟨#[]⟩) (.int .u32 0)
      refine bodyPost_ret (v := .tuple #[En.free.v, .bool false]) ?_ rfl ⟨⟨En.free, by rw [HO.out], fun h => by rw [HO.out] at h; cases h⟩, (B1.out.setCell (p := ⟨w.heap.size, 0, none⟩) (by simp) _).setCell (p := ⟨w.heap.size, 1, none⟩) (by simp) _⟩
      simp [results, Try.f49, go_sem, r0, r1, En.free]
    · have hG := getE_near hs hk (by omega)
      have hO := okS_near h0
      have hi := leV_lt4 s
      have hx : getE s = ⟨(s.take (5 + k)).drop 5, leV (s.take 4)⟩ := hG
      rw [hG] at hO
      have HV := Lib.hid fun W => refValue_same (s.take 4) W (by simp; omega)
      have hnl : ((s.take (5 + k)).drop 5).length ≤ 27 := by simp; omega
      have HM := Lib.hid fun W => refMay_any ⟨(s.take (5 + k)).drop 5, leV (s.take 4)⟩ W (by simp only [maxLen]; omega)
      have HS := Lib.hid fun W => refSlot_any ⟨(s.take (5 + k)).drop 5, leV (s.take 4)⟩ W hi hnl
      have HX := Lib.hid hx
      have HO := Lib.hid hO
      clear hG hx hO h0 hnl
      go_enter Try.func49, Try.ntmps49
      generalize freeL = F at *
      go_wp2_with fail
      refine (HF.out _).mono ?_
      rintro e w1 ⟨rfl, hb⟩
      have hcell : w1.heap[w.heap.size]? = some (.cells #[str [], .int .u32 0] 34 (0, 0)) := (hb.block _ (by simp)).trans (heap_alloc_new w _)
      have hsz : w.heap.size < w1.heap.size := by have := hb.size; simp at this; omega
      have B1 := Lib.hid (((Below.refl _ w).alloc (Nat.le_refl _) (.cells #[str [], .int .u32 0] 34)).trans (hb.mono (by simp)))
      clear hb HF
      have e4 : List.take 4 s = s.take 4 := rfl
      have e1 : IntKind.u32.wrap (leV (s.take 4) : Int) = (leV (s.take 4) : Int) := IntWalk.u32_in _ ⟨by omega, by omega⟩
      have b5 : (5 : Int) + (k : Int) ≤ (s.length : Int) := by omega
      have e5 : IntKind.i64.wrap ((5 : Int) + (k : Int)) = (5 : Int) + (k : Int) := IntWalk.i64_in _ ⟨by omega, by omega⟩
      have e6 : ((5 : Int) + (k : Int)).toNat = 5 + k := by omega
      go_wp2_with fail
      have b7 : (0 : Int) ≤ (5 : Int) + (k : Int) := by omega
      have b6 : (5 : Int) ≤ (5 : Int) + (k : Int) := by omega
      have b8 : (5 : Nat) ≤ 5 + k := by omega
      have b9 : 5 + k ≤ s.length := by omega
      have b4 : (4 : Int) ≤ (s.length : Int) := by omega
      have Hs := Lib.hid hs
      clear hs hk
      go_cut [5] from 16 to 24 (fun q wx => q = .pointer (some ⟨w1.heap.size, 0, none⟩) ∧ wx.heap[w.heap.size]? = some (.cells #[str [], .int .u32 0] 34 (0, 0)) ∧ wx.heap[w1.heap.size]? = some (.cells #[str ((s.take (5 + k)).drop 5), .int .u32 (leV (s.take 4) : Int)] 34 (0, 0)) ∧ Below w.heap.size w wx)
      case first =>
        go_region_held3 (fun W => True) (exact trivial) (first | (go_at_call 61; ((with_reducible refine (HV.out _).mono ?_); rintro e w4 ⟨rfl, rfl⟩)))
        all_goals (go_wp2_with fail; go_meet)
        all_goals exact ⟨rfl, heap_keep _ _ _ _ hcell, heap_alloc_new w1 _, (B1.out.alloc B1.out.size _).drew⟩
      case rest =>
        obtain ⟨rfl, hres, hbox, hB⟩ := hcut
        clear hcell HV e1 e4 b4 b5 b6 b7 b8 b9 e5 e6
        generalize (s.take (5 + k)).drop 5 = n at *
        generalize leV (s.take 4) = i at *
        obtain ⟨x0, x1⟩ := cells_two2 hbox
        obtain ⟨d0, d1⟩ := cells_two2 hres
        cases hm : mayB ⟨n, i⟩ with
        | true =>
          rw [hm] at HM HO
          clear hm d0 d1
          go_wp2_with fail
          refine wp_region_held_drew (S := (fun W => W.cell? ⟨w1.heap.size, 0, none⟩ = some (str n) ∧ W.cell? ⟨w1.heap.size, 1, none⟩ = some (.int .u32 (i : Int)) ∧ RdT w W)) (by kernel_rfl) (⟨x0, x1, ⟨⟨_, _, hres⟩, hB.drew⟩⟩) (fun hHeld => ?_)
          refine wpAnyH_take (i := 0) (oi := _) (v := ?_) rfl (by kernel_rfl) (by kernel_rfl) (by kernel_rfl) (fun _ _ _ h => h) (Or.inl ⟨by rfl, ?_⟩) (by assumption) ?_
          rotate_left
          · intro w hSw
            try dsimp only at hSw
            go_simp
            try with_reducible rfl
          (try simp only [Act.put, List.setIfInBounds_toArray, List.set_cons_zero, List.set_cons_succ, List.getElem_toArray, List.getElem_cons_zero, List.getElem_cons_succ])
          refine wpAnyH_take (i := 1) (oi := _) (v := ?_) rfl (by kernel_rfl) (by kernel_rfl) (by kernel_rfl) (fun _ _ _ h => h) (Or.inl ⟨by rfl, ?_⟩) (by assumption) ?_
          rotate_left
          · intro w hSw
            try dsimp only at hSw
            go_simp
            try with_reducible rfl
          (try simp only [Act.put, List.setIfInBounds_toArray, List.set_cons_zero, List.set_cons_succ, List.getElem_toArray, List.getElem_cons_zero, List.getElem_cons_succ])
          refine wpAnyH_ready (rs := [2]) (by kernel_rfl) (by simp) ?_
          refine AllReadyH.cons (o := _) rfl (fun K hK => ?_) AllReadyH.nil
          go_simp
          with_reducible refine (HM.out _).mono ?_
          rintro e w4 ⟨rfl, hb4⟩
          refine hK.out _ _ (rd_kept hHeld hb4) (fun hHeld => ?_)
          clear hK K
          (try simp only [Act.put, List.setIfInBounds_toArray, List.set_cons_zero, List.set_cons_succ, List.getElem_toArray, List.getElem_cons_zero, List.getElem_cons_succ])
          refine wpAnyH_take (i := 3) (oi := _) (v := ?_) rfl (by kernel_rfl) (by kernel_rfl) (by kernel_rfl) (fun _ _ _ h => h) (Or.inl ⟨by rfl, ?_⟩) (by assumption) ?_
          rotate_left
          · intro w hSw
            try dsimp only at hSw
            go_simp
            try with_reducible rfl
          (try simp only [Act.put, List.setIfInBounds_toArray, List.set_cons_zero, List.set_cons_succ, List.getElem_toArray, List.getElem_cons_zero, List.getElem_cons_succ])
          refine wpAnyH_take (i := 4) (oi := _) (v := ?_) rfl (by kernel_rfl) (by kernel_rfl) (by kernel_rfl) (fun _ _ _ h => h) (Or.inl ⟨by rfl, ?_⟩) (by assumption) ?_
          rotate_left
          · intro w hSw
            try dsimp only at hSw
            go_simp
            try with_reducible rfl
          (try simp only [Act.put, List.setIfInBounds_toArray, List.set_cons_zero, List.set_cons_succ, List.getElem_toArray, List.getElem_cons_zero, List.getElem_cons_succ])
          refine wpAnyH_take (i := 6) (oi := _) (v := ?_) rfl (by kernel_rfl) (by kernel_rfl) (by kernel_rfl) (fun _ _ _ h => h) (Or.inl ⟨by rfl, ?_⟩) (by assumption) ?_
          rotate_left
          · intro w hSw
            try dsimp only at hSw
            go_simp
            try with_reducible rfl
          (try simp only [Act.put, List.setIfInBounds_toArray, List.set_cons_zero, List.set_cons_succ, List.getElem_toArray, List.getElem_cons_zero, List.getElem_cons_succ])
          refine wpAnyH_ready (rs := [5]) (by kernel_rfl) (by simp) ?_
          refine AllReadyH.cons (o := _) rfl (fun K hK => ?_) AllReadyH.nil
          go_simp
          with_reducible refine (HS.out _).mono ?_
          rintro e w5 ⟨rfl, hb5⟩
          refine hK.out _ _ (rd_kept hHeld hb5) (fun hHeld => ?_)
          clear hK K
          (try simp only [Act.put, List.setIfInBounds_toArray, List.set_cons_zero, List.set_cons_succ, List.getElem_toArray, List.getElem_cons_zero, List.getElem_cons_succ])
          refine wpAnyH_take (i := 7) (oi := _) (v := ?_) rfl (by kernel_rfl) (by kernel_rfl) (by kernel_rfl) (fun _ _ _ h => h) (Or.inl ⟨by rfl, ?_⟩) (by assumption) ?_
          rotate_left
          · intro w hSw
            try dsimp only at hSw
            go_simp
            try with_reducible rfl
          (try simp only [Act.put, List.setIfInBounds_toArray, List.set_cons_zero, List.set_cons_succ, List.getElem_toArray, List.getElem_cons_zero, List.getElem_cons_succ])
          refine wpAnyH_take (i := 8) (oi := _) (v := ?_) rfl (by kernel_rfl) (by kernel_rfl) (by kernel_rfl) (fun _ _ _ h => h) (Or.inl ⟨by rfl, ?_⟩) (by assumption) ?_
          rotate_left
          · intro w hSw
            try dsimp only at hSw
            go_simp
            try with_reducible rfl
          (try simp only [Act.put, List.setIfInBounds_toArray, List.set_cons_zero, List.set_cons_succ, List.getElem_toArray, List.getElem_cons_zero, List.getElem_cons_succ])
          refine wpAnyH_ready (rs := [9]) (by kernel_rfl) (by simp) ?_
          refine AllReadyH.cons (o := _) rfl (fun K hK => ?_) AllReadyH.nil
          obtain ⟨a0, b0, hres⟩ := hHeld.2.2.1
          obtain ⟨d0, d1⟩ := cells_two2 hres
          have f0 := frozen_of_row _ w.heap.size 0 _ _ hres
          have f1 := frozen_of_row _ w.heap.size 1 _ _ hres
          obtain ⟨r0, r1⟩ := set_two d0 d1 (.string ⟨n.toArray⟩) (.int .u32 (i : Int))
          have R0 := Lib.hid r0
          have R1 := Lib.hid r1
          clear r0 r1 hres
          go_simp
          refine hK.out _ _ (rd_set hsz hHeld) (fun hHeld => ?_)
          clear hK K d0 d1 f0 f1
          (try simp only [Act.put, List.setIfInBounds_toArray, List.set_cons_zero, List.set_cons_succ, List.getElem_toArray, List.getElem_cons_zero, List.getElem_cons_succ])
          refine wpAnyH_take (i := 10) (oi := _) (v := ?_) rfl (by kernel_rfl) (by kernel_rfl) (by kernel_rfl) (fun _ _ _ h => h) (Or.inl ⟨by rfl, ?_⟩) (by assumption) ?_
          rotate_left
          · intro w hSw
            try dsimp only at hSw
            go_simp
            try with_reducible rfl
          (try simp only [Act.put, List.setIfInBounds_toArray, List.set_cons_zero, List.set_cons_succ, List.getElem_toArray, List.getElem_cons_zero, List.getElem_cons_succ])
          refine wpAnyH_done (by kernel_rfl) ?_ _
          go_wp2_with fail
          have r0 := R0.out
          have r1 := R1.out
          refine bodyPost_ret (v := .tuple #[(⟨n, i⟩ : En).v, .bool (slotL ⟨n, i⟩ == s)]) (by simp [results, Try.f49, go_sem, r0, r1]) rfl ⟨⟨⟨n, i⟩, ?_, fun _ => HX.out.symm⟩, hHeld.2.2.2⟩
          rw [HO.out]
          rw [Bool.true_and, show (slotL ⟨n, i⟩ == s) = decide (slotL ⟨n, i⟩ = s) by rw [Bool.eq_iff_iff]; simp]
        | false =>
          rw [hm] at HM HO
          clear hm d0 d1
          go_wp2_with fail
          refine wp_region_held_drew (S := (fun W => W.cell? ⟨w1.heap.size, 0, none⟩ = some (str n) ∧ W.cell? ⟨w1.heap.size, 1, none⟩ = some (.int .u32 (i : Int)) ∧ RdT w W)) (by kernel_rfl) (⟨x0, x1, ⟨⟨_, _, hres⟩, hB.drew⟩⟩) (fun hHeld => ?_)
          refine wpAnyH_take (i := 0) (oi := _) (v := ?_) rfl (by kernel_rfl) (by kernel_rfl) (by kernel_rfl) (fun _ _ _ h => h) (Or.inl ⟨by rfl, ?_⟩) (by assumption) ?_
          rotate_left
          · intro w hSw
            try dsimp only at hSw
            go_simp
            try with_reducible rfl
          (try simp only [Act.put, List.setIfInBounds_toArray, List.set_cons_zero, List.set_cons_succ, List.getElem_toArray, List.getElem_cons_zero, List.getElem_cons_succ])
          refine wpAnyH_take (i := 1) (oi := _) (v := ?_) rfl (by kernel_rfl) (by kernel_rfl) (by kernel_rfl) (fun _ _ _ h => h) (Or.inl ⟨by rfl, ?_⟩) (by assumption) ?_
          rotate_left
          · intro w hSw
            try dsimp only at hSw
            go_simp
            try with_reducible rfl
          (try simp only [Act.put, List.setIfInBounds_toArray, List.set_cons_zero, List.set_cons_succ, List.getElem_toArray, List.getElem_cons_zero, List.getElem_cons_succ])
          refine wpAnyH_ready (rs := [2]) (by kernel_rfl) (by simp) ?_
          refine AllReadyH.cons (o := _) rfl (fun K hK => ?_) AllReadyH.nil
          go_simp
          with_reducible refine (HM.out _).mono ?_
          rintro e w4 ⟨rfl, hb4⟩
          refine hK.out _ _ (rd_kept hHeld hb4) (fun hHeld => ?_)
          clear hK K
          (try simp only [Act.put, List.setIfInBounds_toArray, List.set_cons_zero, List.set_cons_succ, List.getElem_toArray, List.getElem_cons_zero, List.getElem_cons_succ])
          refine wpAnyH_take (i := 3) (oi := _) (v := ?_) rfl (by kernel_rfl) (by kernel_rfl) (by kernel_rfl) (fun _ _ _ h => h) (Or.inl ⟨by rfl, ?_⟩) (by assumption) ?_
          rotate_left
          · intro w hSw
            try dsimp only at hSw
            go_simp
            try with_reducible rfl
          (try simp only [Act.put, List.setIfInBounds_toArray, List.set_cons_zero, List.set_cons_succ, List.getElem_toArray, List.getElem_cons_zero, List.getElem_cons_succ])
          refine wpAnyH_take (i := 4) (oi := _) (v := undef) rfl (by kernel_rfl) (by kernel_rfl) (by kernel_rfl) (fun _ _ _ h => h) (Or.inr ⟨by rfl, rfl⟩) (by assumption) ?_
          (try simp only [Act.put, List.setIfInBounds_toArray, List.set_cons_zero, List.set_cons_succ, List.getElem_toArray, List.getElem_cons_zero, List.getElem_cons_succ])
          refine wpAnyH_take (i := 5) (oi := _) (v := undef) rfl (by kernel_rfl) (by kernel_rfl) (by kernel_rfl) (fun _ _ _ h => h) (Or.inr ⟨by rfl, rfl⟩) (by assumption) ?_
          (try simp only [Act.put, List.setIfInBounds_toArray, List.set_cons_zero, List.set_cons_succ, List.getElem_toArray, List.getElem_cons_zero, List.getElem_cons_succ])
          refine wpAnyH_take (i := 6) (oi := _) (v := undef) rfl (by kernel_rfl) (by kernel_rfl) (by kernel_rfl) (fun _ _ _ h => h) (Or.inr ⟨by rfl, rfl⟩) (by assumption) ?_
          (try simp only [Act.put, List.setIfInBounds_toArray, List.set_cons_zero, List.set_cons_succ, List.getElem_toArray, List.getElem_cons_zero, List.getElem_cons_succ])
          refine wpAnyH_take (i := 7) (oi := _) (v := undef) rfl (by kernel_rfl) (by kernel_rfl) (by kernel_rfl) (fun _ _ _ h => h) (Or.inr ⟨by rfl, rfl⟩) (by assumption) ?_
          (try simp only [Act.put, List.setIfInBounds_toArray, List.set_cons_zero, List.set_cons_succ, List.getElem_toArray, List.getElem_cons_zero, List.getElem_cons_succ])
          refine wpAnyH_take (i := 8) (oi := _) (v := ?_) rfl (by kernel_rfl) (by kernel_rfl) (by kernel_rfl) (fun _ _ _ h => h) (Or.inl ⟨by rfl, ?_⟩) (by assumption) ?_
          rotate_left
          · intro w hSw
            try dsimp only at hSw
            go_simp
            try with_reducible rfl
          (try simp only [Act.put, List.setIfInBounds_toArray, List.set_cons_zero, List.set_cons_succ, List.getElem_toArray, List.getElem_cons_zero, List.getElem_cons_succ])
          refine wpAnyH_ready (rs := [9]) (by kernel_rfl) (by simp) ?_
          refine AllReadyH.cons (o := _) rfl (fun K hK => ?_) AllReadyH.nil
          obtain ⟨a0, b0, hres⟩ := hHeld.2.2.1
          obtain ⟨d0, d1⟩ := cells_two2 hres
          have f0 := frozen_of_row _ w.heap.size 0 _ _ hres
          have f1 := frozen_of_row _ w.heap.size 1 _ _ hres
          obtain ⟨r0, r1⟩ := set_two d0 d1 (.string ⟨n.toArray⟩) (.int .u32 (i : Int))
          have R0 := Lib.hid r0
          have R1 := Lib.hid r1
          clear r0 r1 hres
          go_simp
          refine hK.out _ _ (rd_set hsz hHeld) (fun hHeld => ?_)
          clear hK K d0 d1 f0 f1
          (try simp only [Act.put, List.setIfInBounds_toArray, List.set_cons_zero, List.set_cons_succ, List.getElem_toArray, List.getElem_cons_zero, List.getElem_cons_succ])
          refine wpAnyH_take (i := 10) (oi := _) (v := ?_) rfl (by kernel_rfl) (by kernel_rfl) (by kernel_rfl) (fun _ _ _ h => h) (Or.inl ⟨by rfl, ?_⟩) (by assumption) ?_
          rotate_left
          · intro w hSw
            try dsimp only at hSw
            go_simp
            try with_reducible rfl
          (try simp only [Act.put, List.setIfInBounds_toArray, List.set_cons_zero, List.set_cons_succ, List.getElem_toArray, List.getElem_cons_zero, List.getElem_cons_succ])
          refine wpAnyH_done (by kernel_rfl) ?_ _
          go_wp2_with fail
          have r0 := R0.out
          have r1 := R1.out
          refine bodyPost_ret (v := .tuple #[(⟨n, i⟩ : En).v, .bool false]) (by simp [results, Try.f49, go_sem, r0, r1]) rfl ⟨⟨⟨n, i⟩, ?_, fun _ => HX.out.symm⟩, hHeld.2.2.2⟩
          rw [HO.out]
          rfl
end Go.Proofs.Ytmidoghjacmdcaa
