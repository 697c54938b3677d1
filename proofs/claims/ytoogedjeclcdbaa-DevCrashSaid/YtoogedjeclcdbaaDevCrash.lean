/- Layer 3 (dev): DevCrash, walked. -/
import Derived.Test.YtoogedjeclcdbaaDev21
import Derived.Test.YtoogedjeclcdbaaDevArgs
import Derived.Deep.RegionHeld3
import Derived.Deep.CutBlock
import Derived.Deep.DeepCutAuto
namespace Go.Proofs.Ytoogedjeclcdbaa
open Go.RowKit Go.Maps
set_option linter.unusedVariables false
set_option linter.unusedSimpArgs false
/-- Step k of a script that lies at a. -/
structure StepC (W : World) (a : Addr) (k : Nat) (x : St) : Prop where
  c0 : W.cell? (a.add (k * 5)) = some (.int .i64 x.op)
  c1 : W.cell? ⟨(a.add (k * 5)).block, (a.add (k * 5)).off + 1, none⟩ = some (.int .i64 x.at_)
  c2 : W.cell? ⟨(a.add (k * 5)).block, (a.add (k * 5)).off + 2, none⟩ = some (.int .i64 x.num)
  c3 : W.cell? ⟨(a.add (k * 5)).block, (a.add (k * 5)).off + 3, none⟩ = some (str x.s)
  c4 : W.cell? ⟨(a.add (k * 5)).block, (a.add (k * 5)).off + 4, none⟩ = some (.bool x.raw)
theorem Keeps.cellAt {w W : World} (h : Keeps (All w) w W) {p : Addr} {v : Value} (hc : w.cell? p = some v) : W.cell? p = some v := (h.all.cell (World.block_lt_of_cell? w _ hc)).trans hc
theorem StepC.keep {w W : World} {a : Addr} {k : Nat} {x : St} (h : StepC w a k x) (hk : Keeps (All w) w W) : StepC W a k x :=
  ⟨hk.cellAt h.c0, hk.cellAt h.c1, hk.cellAt h.c2, hk.cellAt h.c3, hk.cellAt h.c4⟩
theorem owns_one (W : World) (base : Nat) (e : TypeId) (u : Value) (hb : base ≤ W.heap.size) : (W.alloc (.cells #[u] e)).ownsRow base e 1 (.slice (some ⟨W.heap.size, 0, none⟩) 1 1) 1 [u] :=
  ⟨rfl, .inr ⟨W.heap.size, 1, #[u], rfl, hb, heap_alloc_new W _, Nat.le_refl _, by unfold maxLen; omega, rfl, rfl⟩⟩
theorem dev0_was (n j : Nat) : (dev0 n).was j = [secOf []] := rfl
theorem cr_start {w w1 : World} {b : Nat} (h : Held (All w) w w1 b (dev0 16)) (e : TypeId) : CrI w (w1.alloc (.cells (Array.replicate 16 (.slice none 0 0)) e)) b (dev0 16) w1.heap.size (fun _ => .slice none 0 0) (fun _ => []) := by
  obtain ⟨h1, S, hd, hS⟩ := h
  have hb : Below w1.heap.size w1 (w1.alloc (.cells (Array.replicate 16 (.slice none 0 0)) e)) := (Below.refl _ w1).alloc (Nat.le_refl _) _
  have hg := heap_alloc_new w1 (.cells (Array.replicate 16 (Value.slice none 0 0)) e)
  refine ⟨h1.below hb, ⟨S, hd.below hb, fun k hk => ⟨?_, ?_, fun i hi hh => by cases hh⟩⟩, fun i hi => ⟨?_, frozen_of_row _ _ i _ _ hg⟩, fun i hi => ⟨⟨rfl, .inl ⟨rfl, rfl⟩⟩, fun hh => by cases hh⟩, h1.size, by simp⟩
  · have := hS k hk
    unfold All at this
    omega
  · have := hd.lt k hk; omega
  · rw [cell_of_row _ _ i _ _ _ hg, Array.getElem?_replicate, if_pos hi]
set_option maxRecDepth 100000 in
set_option maxHeartbeats 4000000 in
theorem walk_DevCrash' (keep : List UInt8) (hkeep : keep.length ≤ 140737488351232) (v : Value) (l : List St) (w : World) (hv : Steps w v l) (hs : ∀ x ∈ l, fineStep x) (hl : l.length ≤ maxLen) :
    Calls Try.prog 4 #[v, str keep] w fun e w' => e = .returned (.bool true) ∧ Below w.heap.size w w' := by
  have hL := long_any v l w hv (fun x hx => (hs x hx).1) hl
  obtain ⟨A, c, rfl, hc⟩ := hv
  have HC := Lib.hid hc
  have HS := Lib.hid hs
  have HL := Lib.hid hL
  clear hc hs hL
  go_enter Try.func4, Try.ntmps4
  go_wp2_with fail
  refine HL.out.mono ?_
  rintro e w1 ⟨rfl, rfl⟩
  by_cases hlong : longFlag l = true
  · rw [hlong]
    go_wp2_with fail
    refine (alive_any _).mono ?_
    rintro e w1 ⟨rfl, hb⟩
    go_wp2_with fail
    go_ret
    exact ⟨rfl, hb⟩
  have hshort : l.length ≤ 150 := by
    unfold longFlag at hlong
    simp at hlong
    omega
  rw [Bool.not_eq_true] at hlong
  rw [hlong]
  clear hlong HL
  by_cases hk100 : 100 < keep.length
  · go_wp2_with fail
    refine (alive_any _).mono ?_
    rintro e w1 ⟨rfl, hb⟩
    go_wp2_with fail
    go_ret
    exact ⟨rfl, hb⟩
  go_wp2_with fail
  refine (held_new 16 (by decide) (by decide) (Keeps.start w)).mono ?_
  rintro e w1 ⟨b, rfl, hH, _⟩
  have H1 := Lib.hid hH
  clear hH
  go_wp2_with fail
  have hst := cr_start H1.out 43
  simp only [Array.replicate_succ, Array.replicate_zero, List.push_toArray, List.nil_append, List.cons_append] at hst
  have hw1 : w.heap.size ≤ w1.heap.size := H1.out.keeps.size
  have HST := Lib.hid hst
  clear hst H1
  generalize w1.heap.size = wb at HST hw1 ⊢
  go_loopw [8] (fun i wr => ∃ (k : Nat) (vs : Nat → Value) (F : Nat → List (List UInt8)), k ≤ 16 ∧ i = .int .i64 k ∧ CrI w wr b (dev0 16) wb vs F ∧ ∀ j, j < k → F j = (dev0 16).was j) (fun i _ => 16 - (intOf i).toNat)
  case atStart =>
    exact ⟨0, fun _ => .slice none 0 0, fun _ => [], by omega, rfl, HST.out, fun j hj => by omega⟩
  case round =>
    obtain ⟨k, vs, F, hk, rfl, hI, hF⟩ := hrel
    have HI := Lib.hid hI
    have HF := Lib.hid hF
    clear hI hF
    by_cases hlt : k < 16
    · go_wp2_with fail
      refine (sector_any [] _ (by decide)).mono ?_
      rintro e w4 ⟨rfl, hb⟩
      have H4 := Lib.hid (HI.out.below hb)
      clear hb HI
      have hbel : Below w4.heap.size w4 (w4.alloc (.cells #[str (secOf [])] 9)) := (Below.refl _ w4).alloc (Nat.le_refl _) _
      have ha := ((H4.out.below hbel).arr k hlt).1
      have hf := ((H4.out.below hbel).arr k hlt).2
      have hP := H4.out.put k hlt (.slice (some ⟨w4.heap.size, 0, none⟩) 1 1) [secOf []] hbel (owns_one w4 _ 9 _ H4.out.keep.size) (fun k e => by cases e; exact Nat.le_refl _)
      have HP := Lib.hid hP
      clear hP hbel
      go_wp2
      go_roundw
      case rel =>
        refine ⟨k + 1, _, _, by omega, by simp, HP.out, fun j hj => ?_⟩
        by_cases e : j = k
        · subst e; rw [upd_same, dev0_was]
        · rw [upd_other _ _ e]; exact HF.out j (by omega)
      case measure => simp [intOf]; omega
    · obtain rfl : k = 16 := by omega
      go_wp2_with fail
      simp only [show ((16 : Nat) : Int) = 16 from rfl]
      go_loopw [9] (fun ix wr => ∃ (k : Nat) (M : Dv) (vs : Nat → Value) (F : Nat → List (List UInt8)), k ≤ l.length ∧ ix = .int .i64 k ∧ CrI w wr b M wb vs F ∧ (∀ j, j < 16 → F j = M.was j) ∧ M.n = 16 ∧ M.wr ≤ k) (fun ix _ => l.length - (intOf ix).toNat)
      case atStart => exact ⟨0, _, _, _, Nat.zero_le _, rfl, HI.out, HF.out, rfl, Nat.le_refl _⟩
      case round =>
        clear HI HF vs F
        obtain ⟨k, M, vs, F, hk, rfl, hI, hF, hMn, hMw⟩ := hrel
        have HI := Lib.hid hI
        have HF := Lib.hid hF
        have HN := Lib.hid hMn
        clear hI hF hMn
        by_cases hlt : k < l.length
        · obtain ⟨a, rfl, q0, q1, q2, q3, q4⟩ := HC.out k l[k] (List.getElem?_eq_getElem hlt)
          have HX := Lib.hid (StepC.mk q0 q1 q2 q3 q4)
          have hfs := HS.out l[k] (List.getElem_mem _)
          clear q0 q1 q2 q3 q4
          generalize l[k] = x at HX hfs
          obtain ⟨op, I, KK, s, raw⟩ := x
          obtain ⟨hsl, hk1, hk2⟩ := hfs
          have ht : ∀ W, Calls Try.prog 11 #[.agg #[.int .i64 op, .int .i64 I, .int .i64 KK, str s, .bool raw]] W fun e w' => e = .returned (str (St.text ⟨op, I, KK, s, raw⟩)) ∧ Below W.heap.size W w' := fun W => text_any ⟨op, I, KK, s, raw⟩ W hsl
          generalize St.text ⟨op, I, KK, s, raw⟩ = t at ht
          have HT := Lib.hid ht
          clear ht hsl
          go_upto_block 3 with fail
          go_cut [] (fun wx => ∃ (N : Dv) (vs : Nat → Value) (F : Nat → List (List UInt8)), CrI w wx b N wb vs F ∧ (∀ j, j < 16 → F j = N.was j) ∧ N.n = 16 ∧ N.wr ≤ k + 1)
          case rest =>
            clear HI HF HN HX HT hMw
            obtain ⟨N, vs, F, hI, hF, hMn, hMw⟩ := hcut
            have HI := Lib.hid hI
            have HF := Lib.hid hF
            have HN := Lib.hid hMn
            clear hI hF hMn
            go_wp2_with fail
            go_roundw
            case rel => exact ⟨k + 1, N, vs, F, by omega, by simp, HI.out, HF.out, HN.out, hMw⟩
            case measure => simp [intOf]; omega
          case first =>
            obtain ⟨d0, d1, d2, d3, d4⟩ := HX.out.keep HI.out.keep
            by_cases h0 : op = 0
            · subst h0
              rcases wrote_cases M HN.out I t with ⟨hE, i, hi16, rfl, hW⟩ | ⟨hE, hW⟩
              · have HE := Lib.hid hE
                have HW := Lib.hid hW
                clear hE hW
                go_wp2_with fail
                refine (HT.out _).mono ?_
                rintro e w4 ⟨rfl, hb⟩
                have H4 := Lib.hid (HI.out.below hb)
                clear hb HI
                go_wp2_with fail
                have c := cr_write H4.out (by omega) (i : Int) t
                rw [HE.out, HW.out] at c
                refine c.mono ?_
                clear c
                rintro e w5 ⟨rfl, hH⟩
                have HI5 := Lib.hid hH
                clear hH H4
                have hi0 : (0 : Int) ≤ (i : Int) := by omega
                have hi1 : (i : Int) < 16 := by omega
                obtain ⟨d0, d1, d2, d3, d4⟩ := HX.out.keep HI5.out.keep
                go_wp2_with fail
                have hFi := HF.out i hi16
                have hne : F i ≠ [] := by rw [hFi]; exact List.cons_ne_nil _ _
                have hlen : (F i).length ≤ 1048576 := by
                  rw [hFi]
                  have := (HI5.out.dev.choose_spec.1.fine).rows i
                  have h2 : ((M.write i t).row i).length = (M.row i).length + 1 := by simp [Dv.write]
                  have h3 : (M.write i t).wr = M.wr + 1 := rfl
                  show (M.row i).length + 1 ≤ _
                  omega
                obtain ⟨gi, capi, hvs, hg1, hg2, hg3, hgc⟩ := owns_cells (HI5.out.rows i hi16).1 hne
                have hcells : ∀ Y, Below w5.heap.size w5 Y → ∀ j (hj : j < (F i).length), Y.cell? ⟨gi, 0 + j, none⟩ = some (str (F i)[j]) := fun Y hY j hj => by rw [Nat.zero_add]; exact cell_up (hgc j hj) hY
                have hk0 : ∀ Y, Below w5.heap.size w5 Y → Y.cell? ⟨wb, i, none⟩ = some (.slice (some ⟨gi, 0, none⟩) (F i).length capi) ∧ Y.cell? (a.add (k * 5)) = some (.int .i64 0) ∧ Y.cell? ⟨(a.add (k * 5)).block, (a.add (k * 5)).off + 1, none⟩ = some (.int .i64 (i : Int)) ∧ Y.cell? ⟨(a.add (k * 5)).block, (a.add (k * 5)).off + 2, none⟩ = some (.int .i64 KK) ∧ Y.cell? ⟨(a.add (k * 5)).block, (a.add (k * 5)).off + 3, none⟩ = some (str s) ∧ Y.cell? ⟨(a.add (k * 5)).block, (a.add (k * 5)).off + 4, none⟩ = some (.bool raw) := fun Y hY => by
                  have h1 := HX.out.keep (HI5.out.below hY).keep
                  exact ⟨by rw [← hvs]; exact ((HI5.out.below hY).arr i hi16).1, h1.c0, h1.c1, h1.c2, h1.c3, h1.c4⟩
                have HKeep := Lib.hid hk0
                have HCells := Lib.hid hcells
                have HNe := Lib.hid hne
                have HLen := Lib.hid hlen
                have HW0 := Lib.hid (fun Y (hY : Below w5.heap.size w5 Y) => Nat.le_trans HI5.out.keep.size hY.size)
                clear hk0 hcells hne hlen hgc hFi d0 d1 d2 d3 d4
                refine wp_region_any (by kernel_rfl) ?_
                change wpAny _ _ _ _ _ _ _ w5.drew
                have B0 := Lib.hid ((Below.refl w5.heap.size w5).drew)
                obtain ⟨X0, e0⟩ : ∃ Y, w5.drew = Y := ⟨_, rfl⟩
                rw [e0] at B0 ⊢
                clear e0
                refine wpAny_take (i := 0) (oi := _) (v := ?_) rfl (by kernel_rfl) (by kernel_rfl) (by kernel_rfl) (fun _ _ _ h => h) (Or.inl ⟨by rfl, ?_⟩) ?_
                rotate_left
                · intro w
                  go_simp
                  try with_reducible rfl
                (try simp only [Act.put, List.setIfInBounds_toArray, List.set_cons_zero, List.set_cons_succ, List.getElem_toArray, List.getElem_cons_zero, List.getElem_cons_succ])
                refine wpAny_take (i := 1) (oi := _) (v := ?_) rfl (by kernel_rfl) (by kernel_rfl) (by kernel_rfl) (fun _ _ _ h => h) (Or.inl ⟨by rfl, ?_⟩) ?_
                rotate_left
                · intro w
                  go_simp
                  try with_reducible rfl
                (try simp only [Act.put, List.setIfInBounds_toArray, List.set_cons_zero, List.set_cons_succ, List.getElem_toArray, List.getElem_cons_zero, List.getElem_cons_succ])
                refine wpAny_take (i := 2) (oi := _) (v := ?_) rfl (by kernel_rfl) (by kernel_rfl) (by kernel_rfl) (fun _ _ _ h => h) (Or.inl ⟨by rfl, ?_⟩) ?_
                rotate_left
                · intro w
                  go_simp
                  try with_reducible rfl
                (try simp only [Act.put, List.setIfInBounds_toArray, List.set_cons_zero, List.set_cons_succ, List.getElem_toArray, List.getElem_cons_zero, List.getElem_cons_succ])
                refine wpAny_take (i := 5) (oi := _) (v := ?_) rfl (by kernel_rfl) (by kernel_rfl) (by kernel_rfl) (fun _ _ _ h => h) (Or.inl ⟨by rfl, ?_⟩) ?_
                rotate_left
                · intro w
                  go_simp
                  try with_reducible rfl
                (try simp only [Act.put, List.setIfInBounds_toArray, List.set_cons_zero, List.set_cons_succ, List.getElem_toArray, List.getElem_cons_zero, List.getElem_cons_succ])
                refine wpAny_take (i := 6) (oi := _) (v := ?_) rfl (by kernel_rfl) (by kernel_rfl) (by kernel_rfl) (fun _ _ _ h => h) (Or.inl ⟨by rfl, ?_⟩) ?_
                rotate_left
                · intro w
                  go_simp
                  try with_reducible rfl
                (try simp only [Act.put, List.setIfInBounds_toArray, List.set_cons_zero, List.set_cons_succ, List.getElem_toArray, List.getElem_cons_zero, List.getElem_cons_succ])
                refine wpAny_take (i := 7) (oi := _) (v := ?_) rfl (by kernel_rfl) (by kernel_rfl) (by kernel_rfl) (fun _ _ _ h => h) (Or.inl ⟨by rfl, ?_⟩) ?_
                rotate_left
                · intro w
                  go_simp
                  try with_reducible rfl
                (try simp only [Act.put, List.setIfInBounds_toArray, List.set_cons_zero, List.set_cons_succ, List.getElem_toArray, List.getElem_cons_zero, List.getElem_cons_succ])
                refine wpAny_ready (rs := [3, 8]) (by kernel_rfl) (by simp) ?_
                refine AllReady.cons (o := _) rfl (fun K hK0 => ?_) ?_
                · have hK := Lib.hid hK0
                  clear hK0
                  have q0 := (HKeep.out X0 B0.out).1
                  go_simp
                  refine hK.out _ _ ?_
                  clear hK K q0
                  (try simp only [Act.put, List.setIfInBounds_toArray, List.set_cons_zero, List.set_cons_succ, List.getElem_toArray, List.getElem_cons_zero, List.getElem_cons_succ])
                  refine wpAny_ready (rs := [4, 8]) (by kernel_rfl) (by simp) ?_
                  refine AllReady.cons (o := _) rfl (fun K hK0 => ?_) ?_
                  · have hK := Lib.hid hK0
                    clear hK0
                    obtain ⟨v1, X1, hap, hown, hbl, hob⟩ := append_tail X0 w.heap.size gi 0 capi (F i) (HCells.out X0 B0.out) HNe.out HLen.out (HW0.out X0 B0.out)
                    have B1 := Lib.hid (B0.out.trans (hbl.mono B0.out.size))
                    have O := Lib.hid hown
                    have hob2 : ∀ kk, v1.ownBlock = some kk → w5.heap.size ≤ kk := fun kk e => by rw [hob] at e; cases e; exact B0.out.size
                    have OB := Lib.hid hob2
                    clear hown hob hob2 hbl
                    refine step_text rfl _ _ rfl rfl rfl rfl hap ?_
                    refine hK.out _ _ ?_
                    clear hK K hap
                    (try simp only [Act.put, List.setIfInBounds_toArray, List.set_cons_zero, List.set_cons_succ, List.getElem_toArray, List.getElem_cons_zero, List.getElem_cons_succ])
                    refine wpAny_ready (rs := [8]) (by kernel_rfl) (by simp) ?_
                    refine AllReady.cons (o := _) rfl (fun K hK0 => ?_) AllReady.nil
                    have hK := Lib.hid hK0
                    clear hK0
                    obtain ⟨_, q0, q1, q2, q3, q4⟩ := HKeep.out X1 B1.out
                    go_simp
                    refine hK.out _ _ ?_
                    clear hK K q0 q1 q2 q3 q4
                    (try simp only [Act.put, List.setIfInBounds_toArray, List.set_cons_zero, List.set_cons_succ, List.getElem_toArray, List.getElem_cons_zero, List.getElem_cons_succ])
                    refine wpAny_ready (rs := [9]) (by kernel_rfl) (by simp) ?_
                    refine AllReady.cons (o := _) rfl (fun K hK0 => ?_) AllReady.nil
                    have hK := Lib.hid hK0
                    clear hK0
                    go_simp
                    go_at_call 11
                    with_reducible refine (HT.out _).mono ?_
                    rintro e X2 ⟨rfl, hb⟩
                    have B2 := Lib.hid (B1.out.trans (hb.mono B1.out.size))
                    have O := Lib.hid (own_up O.out hb)
                    clear hb
                    refine hK.out _ _ ?_
                    clear hK K
                    (try simp only [Act.put, List.setIfInBounds_toArray, List.set_cons_zero, List.set_cons_succ, List.getElem_toArray, List.getElem_cons_zero, List.getElem_cons_succ])
                    refine wpAny_ready (rs := [10]) (by kernel_rfl) (by simp) ?_
                    refine AllReady.cons (o := _) rfl (fun K hK0 => ?_) AllReady.nil
                    have hK := Lib.hid hK0
                    clear hK0
                    go_simp
                    refine hK.out _ _ ?_
                    clear hK K
                    (try simp only [Act.put, List.setIfInBounds_toArray, List.set_cons_zero, List.set_cons_succ, List.getElem_toArray, List.getElem_cons_zero, List.getElem_cons_succ])
                    have hC : (X2.alloc (.cells #[str t] 9)).cell? ⟨X2.heap.size, 0, none⟩ = some (str t) := cell_new_l X2 _ _
                    have hbl : Below X2.heap.size X2 (X2.alloc (.cells #[str t] 9)) := (Below.refl _ _).alloc (Nat.le_refl _) _
                    obtain ⟨X3, e3⟩ : ∃ Y, X2.alloc (.cells #[str t] 9) = Y := ⟨_, rfl⟩
                    rw [e3] at hC hbl ⊢
                    clear e3
                    have C := Lib.hid hC
                    have B3 := Lib.hid (B2.out.trans (hbl.mono B2.out.size))
                    have O := Lib.hid (own_up O.out hbl)
                    clear hC hbl
                    refine wpAny_ready (rs := [11]) (by kernel_rfl) (by simp) ?_
                    refine AllReady.cons (o := _) rfl (fun K hK0 => ?_) AllReady.nil
                    have hK := Lib.hid hK0
                    clear hK0
                    obtain ⟨v2, X4, hap, hown, hbl, hob⟩ := append_text X3 w.heap.size w5.heap.size v1 (F i) t O.out X2.heap.size 1 C.out HLen.out (HW0.out X3 B3.out) B3.out.size OB.out
                    have B4 := Lib.hid (B3.out.trans hbl)
                    have O2 := Lib.hid hown
                    have OB2 := Lib.hid hob
                    obtain ⟨g2, cap2, hv2, -⟩ := owns_cells O2.out (List.append_ne_nil_of_right_ne_nil _ (List.cons_ne_nil _ _))
                    subst hv2
                    clear hown hob hbl
                    refine step_text rfl _ _ rfl rfl rfl rfl hap ?_
                    refine hK.out _ _ ?_
                    clear hK K hap
                    (try simp only [Act.put, List.setIfInBounds_toArray, List.set_cons_zero, List.set_cons_succ, List.getElem_toArray, List.getElem_cons_zero, List.getElem_cons_succ])
                    refine wpAny_take (i := 12) (oi := _) (v := ?_) rfl (by kernel_rfl) (by kernel_rfl) (by kernel_rfl) (fun _ _ _ h => h) (Or.inl ⟨by rfl, ?_⟩) ?_
                    rotate_left
                    · intro w
                      go_simp
                      try with_reducible rfl
                    (try simp only [Act.put, List.setIfInBounds_toArray, List.set_cons_zero, List.set_cons_succ, List.getElem_toArray, List.getElem_cons_zero, List.getElem_cons_succ])
                    have hput := HI5.out.put i hi16 _ (F i ++ [t]) B4.out O2.out OB2.out
                    simp only [List.length_append, List.length_cons, List.length_nil, Nat.zero_add] at hput
                    have HP := Lib.hid hput
                    clear hput
                    have hpc := ((HI5.out.below B4.out).arr i hi16).1
                    have hpf := ((HI5.out.below B4.out).arr i hi16).2
                    refine wpAny_ready (rs := [13]) (by kernel_rfl) (by simp) ?_
                    refine AllReady.cons (o := _) rfl (fun K hK0 => ?_) AllReady.nil
                    have hK := Lib.hid hK0
                    clear hK0
                    go_simp
                    refine hK.out _ _ ?_
                    clear hK K hpc hpf
                    (try simp only [Act.put, List.setIfInBounds_toArray, List.set_cons_zero, List.set_cons_succ, List.getElem_toArray, List.getElem_cons_zero, List.getElem_cons_succ])
                    refine wpAny_done (by kernel_rfl) ?_ _
                    clear B0 HKeep HCells HNe HLen HW0 HI5 hvs
                    go_wp2_with fail
                    go_meet
                    case rel => exact ⟨M.write i t, _, _, HP.out, (fun j hj => by rw [was_write]; by_cases e : j = i; (subst e; rw [upd_same, if_pos rfl, HF.out j hj]); (rw [upd_other _ _ e, if_neg e, HF.out j hj])), HN.out, (by show M.wr + 1 ≤ _; omega)⟩
                  refine AllReady.cons (o := _) rfl (fun K hK0 => ?_) ?_
                  · have hK := Lib.hid hK0
                    clear hK0
                    obtain ⟨_, q0, q1, q2, q3, q4⟩ := HKeep.out X0 B0.out
                    go_simp
                    refine hK.out _ _ ?_
                    clear hK K q0 q1 q2 q3 q4
                    (try simp only [Act.put, List.setIfInBounds_toArray, List.set_cons_zero, List.set_cons_succ, List.getElem_toArray, List.getElem_cons_zero, List.getElem_cons_succ])
                    refine wpAny_ready (rs := [4]) (by kernel_rfl) (by simp) ?_
                    refine AllReady.cons (o := _) rfl (fun K hK0 => ?_) AllReady.nil
                    have hK := Lib.hid hK0
                    clear hK0
                    obtain ⟨v1, X1, hap, hown, hbl, hob⟩ := append_tail X0 w.heap.size gi 0 capi (F i) (HCells.out X0 B0.out) HNe.out HLen.out (HW0.out X0 B0.out)
                    have B1 := Lib.hid (B0.out.trans (hbl.mono B0.out.size))
                    have O := Lib.hid hown
                    have hob2 : ∀ kk, v1.ownBlock = some kk → w5.heap.size ≤ kk := fun kk e => by rw [hob] at e; cases e; exact B0.out.size
                    have OB := Lib.hid hob2
                    clear hown hob hob2 hbl
                    refine step_text rfl _ _ rfl rfl rfl rfl hap ?_
                    refine hK.out _ _ ?_
                    clear hK K hap
                    (try simp only [Act.put, List.setIfInBounds_toArray, List.set_cons_zero, List.set_cons_succ, List.getElem_toArray, List.getElem_cons_zero, List.getElem_cons_succ])
                    refine wpAny_ready (rs := [9]) (by kernel_rfl) (by simp) ?_
                    refine AllReady.cons (o := _) rfl (fun K hK0 => ?_) AllReady.nil
                    have hK := Lib.hid hK0
                    clear hK0
                    go_simp
                    go_at_call 11
                    with_reducible refine (HT.out _).mono ?_
                    rintro e X2 ⟨rfl, hb⟩
                    have B2 := Lib.hid (B1.out.trans (hb.mono B1.out.size))
                    have O := Lib.hid (own_up O.out hb)
                    clear hb
                    refine hK.out _ _ ?_
                    clear hK K
                    (try simp only [Act.put, List.setIfInBounds_toArray, List.set_cons_zero, List.set_cons_succ, List.getElem_toArray, List.getElem_cons_zero, List.getElem_cons_succ])
                    refine wpAny_ready (rs := [10]) (by kernel_rfl) (by simp) ?_
                    refine AllReady.cons (o := _) rfl (fun K hK0 => ?_) AllReady.nil
                    have hK := Lib.hid hK0
                    clear hK0
                    go_simp
                    refine hK.out _ _ ?_
                    clear hK K
                    (try simp only [Act.put, List.setIfInBounds_toArray, List.set_cons_zero, List.set_cons_succ, List.getElem_toArray, List.getElem_cons_zero, List.getElem_cons_succ])
                    have hC : (X2.alloc (.cells #[str t] 9)).cell? ⟨X2.heap.size, 0, none⟩ = some (str t) := cell_new_l X2 _ _
                    have hbl : Below X2.heap.size X2 (X2.alloc (.cells #[str t] 9)) := (Below.refl _ _).alloc (Nat.le_refl _) _
                    obtain ⟨X3, e3⟩ : ∃ Y, X2.alloc (.cells #[str t] 9) = Y := ⟨_, rfl⟩
                    rw [e3] at hC hbl ⊢
                    clear e3
                    have C := Lib.hid hC
                    have B3 := Lib.hid (B2.out.trans (hbl.mono B2.out.size))
                    have O := Lib.hid (own_up O.out hbl)
                    clear hC hbl
                    refine wpAny_ready (rs := [11]) (by kernel_rfl) (by simp) ?_
                    refine AllReady.cons (o := _) rfl (fun K hK0 => ?_) AllReady.nil
                    have hK := Lib.hid hK0
                    clear hK0
                    obtain ⟨v2, X4, hap, hown, hbl, hob⟩ := append_text X3 w.heap.size w5.heap.size v1 (F i) t O.out X2.heap.size 1 C.out HLen.out (HW0.out X3 B3.out) B3.out.size OB.out
                    have B4 := Lib.hid (B3.out.trans hbl)
                    have O2 := Lib.hid hown
                    have OB2 := Lib.hid hob
                    obtain ⟨g2, cap2, hv2, -⟩ := owns_cells O2.out (List.append_ne_nil_of_right_ne_nil _ (List.cons_ne_nil _ _))
                    subst hv2
                    clear hown hob hbl
                    refine step_text rfl _ _ rfl rfl rfl rfl hap ?_
                    refine hK.out _ _ ?_
                    clear hK K hap
                    (try simp only [Act.put, List.setIfInBounds_toArray, List.set_cons_zero, List.set_cons_succ, List.getElem_toArray, List.getElem_cons_zero, List.getElem_cons_succ])
                    refine wpAny_take (i := 12) (oi := _) (v := ?_) rfl (by kernel_rfl) (by kernel_rfl) (by kernel_rfl) (fun _ _ _ h => h) (Or.inl ⟨by rfl, ?_⟩) ?_
                    rotate_left
                    · intro w
                      go_simp
                      try with_reducible rfl
                    (try simp only [Act.put, List.setIfInBounds_toArray, List.set_cons_zero, List.set_cons_succ, List.getElem_toArray, List.getElem_cons_zero, List.getElem_cons_succ])
                    have hput := HI5.out.put i hi16 _ (F i ++ [t]) B4.out O2.out OB2.out
                    simp only [List.length_append, List.length_cons, List.length_nil, Nat.zero_add] at hput
                    have HP := Lib.hid hput
                    clear hput
                    have hpc := ((HI5.out.below B4.out).arr i hi16).1
                    have hpf := ((HI5.out.below B4.out).arr i hi16).2
                    refine wpAny_ready (rs := [13]) (by kernel_rfl) (by simp) ?_
                    refine AllReady.cons (o := _) rfl (fun K hK0 => ?_) AllReady.nil
                    have hK := Lib.hid hK0
                    clear hK0
                    go_simp
                    refine hK.out _ _ ?_
                    clear hK K hpc hpf
                    (try simp only [Act.put, List.setIfInBounds_toArray, List.set_cons_zero, List.set_cons_succ, List.getElem_toArray, List.getElem_cons_zero, List.getElem_cons_succ])
                    refine wpAny_done (by kernel_rfl) ?_ _
                    clear B0 HKeep HCells HNe HLen HW0 HI5 hvs
                    go_wp2_with fail
                    go_meet
                    case rel => exact ⟨M.write i t, _, _, HP.out, (fun j hj => by rw [was_write]; by_cases e : j = i; (subst e; rw [upd_same, if_pos rfl, HF.out j hj]); (rw [upd_other _ _ e, if_neg e, HF.out j hj])), HN.out, (by show M.wr + 1 ≤ _; omega)⟩
                  exact AllReady.nil
                refine AllReady.cons (o := _) rfl (fun K hK0 => ?_) ?_
                · have hK := Lib.hid hK0
                  clear hK0
                  obtain ⟨_, q0, q1, q2, q3, q4⟩ := HKeep.out X0 B0.out
                  go_simp
                  refine hK.out _ _ ?_
                  clear hK K q0 q1 q2 q3 q4
                  (try simp only [Act.put, List.setIfInBounds_toArray, List.set_cons_zero, List.set_cons_succ, List.getElem_toArray, List.getElem_cons_zero, List.getElem_cons_succ])
                  refine wpAny_ready (rs := [3]) (by kernel_rfl) (by simp) ?_
                  refine AllReady.cons (o := _) rfl (fun K hK0 => ?_) AllReady.nil
                  have hK := Lib.hid hK0
                  clear hK0
                  have q0 := (HKeep.out X0 B0.out).1
                  go_simp
                  refine hK.out _ _ ?_
                  clear hK K q0
                  (try simp only [Act.put, List.setIfInBounds_toArray, List.set_cons_zero, List.set_cons_succ, List.getElem_toArray, List.getElem_cons_zero, List.getElem_cons_succ])
                  refine wpAny_ready (rs := [4]) (by kernel_rfl) (by simp) ?_
                  refine AllReady.cons (o := _) rfl (fun K hK0 => ?_) AllReady.nil
                  have hK := Lib.hid hK0
                  clear hK0
                  obtain ⟨v1, X1, hap, hown, hbl, hob⟩ := append_tail X0 w.heap.size gi 0 capi (F i) (HCells.out X0 B0.out) HNe.out HLen.out (HW0.out X0 B0.out)
                  have B1 := Lib.hid (B0.out.trans (hbl.mono B0.out.size))
                  have O := Lib.hid hown
                  have hob2 : ∀ kk, v1.ownBlock = some kk → w5.heap.size ≤ kk := fun kk e => by rw [hob] at e; cases e; exact B0.out.size
                  have OB := Lib.hid hob2
                  clear hown hob hob2 hbl
                  refine step_text rfl _ _ rfl rfl rfl rfl hap ?_
                  refine hK.out _ _ ?_
                  clear hK K hap
                  (try simp only [Act.put, List.setIfInBounds_toArray, List.set_cons_zero, List.set_cons_succ, List.getElem_toArray, List.getElem_cons_zero, List.getElem_cons_succ])
                  refine wpAny_ready (rs := [9]) (by kernel_rfl) (by simp) ?_
                  refine AllReady.cons (o := _) rfl (fun K hK0 => ?_) AllReady.nil
                  have hK := Lib.hid hK0
                  clear hK0
                  go_simp
                  go_at_call 11
                  with_reducible refine (HT.out _).mono ?_
                  rintro e X2 ⟨rfl, hb⟩
                  have B2 := Lib.hid (B1.out.trans (hb.mono B1.out.size))
                  have O := Lib.hid (own_up O.out hb)
                  clear hb
                  refine hK.out _ _ ?_
                  clear hK K
                  (try simp only [Act.put, List.setIfInBounds_toArray, List.set_cons_zero, List.set_cons_succ, List.getElem_toArray, List.getElem_cons_zero, List.getElem_cons_succ])
                  refine wpAny_ready (rs := [10]) (by kernel_rfl) (by simp) ?_
                  refine AllReady.cons (o := _) rfl (fun K hK0 => ?_) AllReady.nil
                  have hK := Lib.hid hK0
                  clear hK0
                  go_simp
                  refine hK.out _ _ ?_
                  clear hK K
                  (try simp only [Act.put, List.setIfInBounds_toArray, List.set_cons_zero, List.set_cons_succ, List.getElem_toArray, List.getElem_cons_zero, List.getElem_cons_succ])
                  have hC : (X2.alloc (.cells #[str t] 9)).cell? ⟨X2.heap.size, 0, none⟩ = some (str t) := cell_new_l X2 _ _
                  have hbl : Below X2.heap.size X2 (X2.alloc (.cells #[str t] 9)) := (Below.refl _ _).alloc (Nat.le_refl _) _
                  obtain ⟨X3, e3⟩ : ∃ Y, X2.alloc (.cells #[str t] 9) = Y := ⟨_, rfl⟩
                  rw [e3] at hC hbl ⊢
                  clear e3
                  have C := Lib.hid hC
                  have B3 := Lib.hid (B2.out.trans (hbl.mono B2.out.size))
                  have O := Lib.hid (own_up O.out hbl)
                  clear hC hbl
                  refine wpAny_ready (rs := [11]) (by kernel_rfl) (by simp) ?_
                  refine AllReady.cons (o := _) rfl (fun K hK0 => ?_) AllReady.nil
                  have hK := Lib.hid hK0
                  clear hK0
                  obtain ⟨v2, X4, hap, hown, hbl, hob⟩ := append_text X3 w.heap.size w5.heap.size v1 (F i) t O.out X2.heap.size 1 C.out HLen.out (HW0.out X3 B3.out) B3.out.size OB.out
                  have B4 := Lib.hid (B3.out.trans hbl)
                  have O2 := Lib.hid hown
                  have OB2 := Lib.hid hob
                  obtain ⟨g2, cap2, hv2, -⟩ := owns_cells O2.out (List.append_ne_nil_of_right_ne_nil _ (List.cons_ne_nil _ _))
                  subst hv2
                  clear hown hob hbl
                  refine step_text rfl _ _ rfl rfl rfl rfl hap ?_
                  refine hK.out _ _ ?_
                  clear hK K hap
                  (try simp only [Act.put, List.setIfInBounds_toArray, List.set_cons_zero, List.set_cons_succ, List.getElem_toArray, List.getElem_cons_zero, List.getElem_cons_succ])
                  refine wpAny_take (i := 12) (oi := _) (v := ?_) rfl (by kernel_rfl) (by kernel_rfl) (by kernel_rfl) (fun _ _ _ h => h) (Or.inl ⟨by rfl, ?_⟩) ?_
                  rotate_left
                  · intro w
                    go_simp
                    try with_reducible rfl
                  (try simp only [Act.put, List.setIfInBounds_toArray, List.set_cons_zero, List.set_cons_succ, List.getElem_toArray, List.getElem_cons_zero, List.getElem_cons_succ])
                  have hput := HI5.out.put i hi16 _ (F i ++ [t]) B4.out O2.out OB2.out
                  simp only [List.length_append, List.length_cons, List.length_nil, Nat.zero_add] at hput
                  have HP := Lib.hid hput
                  clear hput
                  have hpc := ((HI5.out.below B4.out).arr i hi16).1
                  have hpf := ((HI5.out.below B4.out).arr i hi16).2
                  refine wpAny_ready (rs := [13]) (by kernel_rfl) (by simp) ?_
                  refine AllReady.cons (o := _) rfl (fun K hK0 => ?_) AllReady.nil
                  have hK := Lib.hid hK0
                  clear hK0
                  go_simp
                  refine hK.out _ _ ?_
                  clear hK K hpc hpf
                  (try simp only [Act.put, List.setIfInBounds_toArray, List.set_cons_zero, List.set_cons_succ, List.getElem_toArray, List.getElem_cons_zero, List.getElem_cons_succ])
                  refine wpAny_done (by kernel_rfl) ?_ _
                  clear B0 HKeep HCells HNe HLen HW0 HI5 hvs
                  go_wp2_with fail
                  go_meet
                  case rel => exact ⟨M.write i t, _, _, HP.out, (fun j hj => by rw [was_write]; by_cases e : j = i; (subst e; rw [upd_same, if_pos rfl, HF.out j hj]); (rw [upd_other _ _ e, if_neg e, HF.out j hj])), HN.out, (by show M.wr + 1 ≤ _; omega)⟩
                exact AllReady.nil
              · have HW := Lib.hid hW
                clear hW
                rcases hE with hE | hE
                · have HE := Lib.hid hE
                  clear hE
                  go_wp2_with fail
                  refine (HT.out _).mono ?_
                  rintro e w4 ⟨rfl, hb⟩
                  have H4 := Lib.hid (HI.out.below hb)
                  clear hb HI
                  go_wp2_with fail
                  have c := cr_write H4.out (by omega) I t
                  rw [HE.out, HW.out] at c
                  refine c.mono ?_
                  clear c
                  rintro e w5 ⟨rfl, hH⟩
                  have HI5 := Lib.hid hH
                  clear hH H4
                  go_wp2_with fail
                  go_meet
                  case rel => exact ⟨M, _, _, HI5.out, HF.out, HN.out, by omega⟩
                · have HE := Lib.hid hE
                  clear hE
                  go_wp2_with fail
                  refine (HT.out _).mono ?_
                  rintro e w4 ⟨rfl, hb⟩
                  have H4 := Lib.hid (HI.out.below hb)
                  clear hb HI
                  go_wp2_with fail
                  have c := cr_write H4.out (by omega) I t
                  rw [HE.out, HW.out] at c
                  refine c.mono ?_
                  clear c
                  rintro e w5 ⟨rfl, hH⟩
                  have HI5 := Lib.hid hH
                  clear hH H4
                  go_wp2_with fail
                  go_meet
                  case rel => exact ⟨M, _, _, HI5.out, HF.out, HN.out, by omega⟩
            by_cases h1 : op = 1
            · subst h1
              clear h0
              rcases backed_cases M HN.out I KK with ⟨hE, i, K0, hi16, rfl, rfl, hKl, hW⟩ | ⟨hE, hW⟩
              · have HE := Lib.hid hE
                have HW := Lib.hid hW
                clear hE hW
                have hFi := HF.out i hi16
                have hne : F i ≠ [] := by rw [hFi]; exact List.cons_ne_nil _ _
                have hKF : K0 < (F i).length := by rw [hFi]; show K0 < (M.row i).length + 1; omega
                have hlen : (F i).length ≤ 1048576 := by
                  rw [hFi]
                  have := (HI.out.dev.choose_spec.1.fine).rows i
                  show (M.row i).length + 1 ≤ _
                  omega
                obtain ⟨gi, capi, hvs, hg1, hg2, hg3, hgc⟩ := owns_cells (HI.out.rows i hi16).1 hne
                have HId := Lib.hid (HI.out.below (Below.refl _ wr).drew)
                have e0 := (HId.out.arr i hi16).1
                rw [hvs] at e0
                have HVS := Lib.hid hvs
                have HNF := Lib.hid hne
                have HLF := Lib.hid hlen
                clear HI hFi hne hvs hgc hlen
                have hi0 : (0 : Int) ≤ (i : Int) := by omega
                have hi1 : (i : Int) < 16 := by omega
                have hc0 : (0 : Int) ≤ (K0 : Int) := by omega
                go_wp2_with fail
                refine wp_region_held_drew (S := (fun W => W.cell? ⟨wb, i, none⟩ = some (.slice (some ⟨gi, 0, none⟩) (F i).length capi) ∧ W.cell? (a.add (k * 5)) = some (.int .i64 1) ∧ W.cell? ⟨(a.add (k * 5)).block, (a.add (k * 5)).off + 1, none⟩ = some (.int .i64 (i : Int)) ∧ W.cell? ⟨(a.add (k * 5)).block, (a.add (k * 5)).off + 2, none⟩ = some (.int .i64 (K0 : Int)) ∧ W.cell? ⟨(a.add (k * 5)).block, (a.add (k * 5)).off + 3, none⟩ = some (str s) ∧ W.cell? ⟨(a.add (k * 5)).block, (a.add (k * 5)).off + 4, none⟩ = some (.bool raw))) (by kernel_rfl) (by exact ⟨e0, d0, d1, d2, d3, d4⟩) (fun hHeld => ?_)
                refine wpAnyH_take (i := 0) (oi := _) (v := ?_) rfl (by kernel_rfl) (by kernel_rfl) (by kernel_rfl) (fun _ _ _ h => h) (Or.inl ⟨by rfl, ?_⟩) (by assumption) ?_
                rotate_left
                · intro w hSw
                  try dsimp only at hSw
                  go_simp
                  try with_reducible rfl
                (try simp only [Act.put, List.setIfInBounds_toArray, List.set_cons_zero, List.set_cons_succ, List.getElem_toArray, List.getElem_cons_zero, List.getElem_cons_succ])
                refine wpAnyH_take (i := 1) (oi := _) (v := ?_) rfl (by kernel_rfl) (by kernel_rfl) (by kernel_rfl) (fun _ _ _ h => h) (Or.inl ⟨by rfl, ?_⟩) (by assumption) ?_
                rotate_left
                · intro w hSw
                  try dsimp only at hSw
                  go_simp
                  try with_reducible rfl
                (try simp only [Act.put, List.setIfInBounds_toArray, List.set_cons_zero, List.set_cons_succ, List.getElem_toArray, List.getElem_cons_zero, List.getElem_cons_succ])
                refine wpAnyH_take (i := 2) (oi := _) (v := ?_) rfl (by kernel_rfl) (by kernel_rfl) (by kernel_rfl) (fun _ _ _ h => h) (Or.inl ⟨by rfl, ?_⟩) (by assumption) ?_
                rotate_left
                · intro w hSw
                  try dsimp only at hSw
                  go_simp
                  try with_reducible rfl
                (try simp only [Act.put, List.setIfInBounds_toArray, List.set_cons_zero, List.set_cons_succ, List.getElem_toArray, List.getElem_cons_zero, List.getElem_cons_succ])
                refine wpAnyH_take (i := 3) (oi := _) (v := ?_) rfl (by kernel_rfl) (by kernel_rfl) (by kernel_rfl) (fun _ _ _ h => h) (Or.inl ⟨by rfl, ?_⟩) (by assumption) ?_
                rotate_left
                · intro w hSw
                  try dsimp only at hSw
                  go_simp
                  try with_reducible rfl
                (try simp only [Act.put, List.setIfInBounds_toArray, List.set_cons_zero, List.set_cons_succ, List.getElem_toArray, List.getElem_cons_zero, List.getElem_cons_succ])
                refine wpAnyH_take (i := 4) (oi := _) (v := ?_) rfl (by kernel_rfl) (by kernel_rfl) (by kernel_rfl) (fun _ _ _ h => h) (Or.inl ⟨by rfl, ?_⟩) (by assumption) ?_
                rotate_left
                · intro w hSw
                  try dsimp only at hSw
                  go_simp
                  try with_reducible rfl
                (try simp only [Act.put, List.setIfInBounds_toArray, List.set_cons_zero, List.set_cons_succ, List.getElem_toArray, List.getElem_cons_zero, List.getElem_cons_succ])
                refine wpAnyH_take (i := 5) (oi := _) (v := ?_) rfl (by kernel_rfl) (by kernel_rfl) (by kernel_rfl) (fun _ _ _ h => h) (Or.inl ⟨by rfl, ?_⟩) (by assumption) ?_
                rotate_left
                · intro w hSw
                  try dsimp only at hSw
                  go_simp
                  try with_reducible rfl
                (try simp only [Act.put, List.setIfInBounds_toArray, List.set_cons_zero, List.set_cons_succ, List.getElem_toArray, List.getElem_cons_zero, List.getElem_cons_succ])
                refine wpAnyH_take (i := 6) (oi := _) (v := ?_) rfl (by kernel_rfl) (by kernel_rfl) (by kernel_rfl) (fun _ _ _ h => h) (Or.inl ⟨by rfl, ?_⟩) (by assumption) ?_
                rotate_left
                · intro w hSw
                  try dsimp only at hSw
                  go_simp
                  try with_reducible rfl
                (try simp only [Act.put, List.setIfInBounds_toArray, List.set_cons_zero, List.set_cons_succ, List.getElem_toArray, List.getElem_cons_zero, List.getElem_cons_succ])
                refine wpAnyH_ready (rs := [7]) (by kernel_rfl) (by simp) ?_
                refine AllReadyH.cons (o := _) rfl (fun K hK => ?_) AllReadyH.nil
                go_simp
                go_at_call 12
                have c := cr_back HId.out (by omega) (i : Int) (K0 : Int)
                rw [HE.out, HW.out] at c
                with_reducible refine c.mono ?_
                clear c
                rintro e w5 ⟨rfl, hH⟩
                have HI5 := Lib.hid hH
                clear hH HId e0 d0 d1 d2 d3 d4
                obtain ⟨p0, p1, p2, p3, p4⟩ := HX.out.keep HI5.out.keep
                have e0 := (HI5.out.arr i hi16).1
                rw [HVS.out] at e0
                refine hK _ _ (by exact ⟨e0, p0, p1, p2, p3, p4⟩) (fun hHeld => ?_)
                clear hK K
                (try simp only [Act.put, List.setIfInBounds_toArray, List.set_cons_zero, List.set_cons_succ, List.getElem_toArray, List.getElem_cons_zero, List.getElem_cons_succ])
                refine wpAnyH_take (i := 8) (oi := _) (v := ?_) rfl (by kernel_rfl) (by kernel_rfl) (by kernel_rfl) (fun _ _ _ h => h) (Or.inl ⟨by rfl, ?_⟩) (by assumption) ?_
                rotate_left
                · intro w hSw
                  try dsimp only at hSw
                  go_simp
                  try with_reducible rfl
                (try simp only [Act.put, List.setIfInBounds_toArray, List.set_cons_zero, List.set_cons_succ, List.getElem_toArray, List.getElem_cons_zero, List.getElem_cons_succ])
                refine wpAnyH_take (i := 9) (oi := _) (v := ?_) rfl (by kernel_rfl) (by kernel_rfl) (by kernel_rfl) (fun _ _ _ h => h) (Or.inl ⟨by rfl, ?_⟩) (by assumption) ?_
                rotate_left
                · intro w hSw
                  try dsimp only at hSw
                  go_simp
                  try with_reducible rfl
                (try simp only [Act.put, List.setIfInBounds_toArray, List.set_cons_zero, List.set_cons_succ, List.getElem_toArray, List.getElem_cons_zero, List.getElem_cons_succ])
                refine wpAnyH_take (i := 10) (oi := _) (v := ?_) rfl (by kernel_rfl) (by kernel_rfl) (by kernel_rfl) (fun _ _ _ h => h) (Or.inl ⟨by rfl, ?_⟩) (by assumption) ?_
                rotate_left
                · intro w hSw
                  try dsimp only at hSw
                  go_simp
                  try with_reducible rfl
                (try simp only [Act.put, List.setIfInBounds_toArray, List.set_cons_zero, List.set_cons_succ, List.getElem_toArray, List.getElem_cons_zero, List.getElem_cons_succ])
                refine wpAnyH_take (i := 11) (oi := _) (v := ?_) rfl (by kernel_rfl) (by kernel_rfl) (by kernel_rfl) (fun _ _ _ h => h) (Or.inl ⟨by rfl, ?_⟩) (by assumption) ?_
                rotate_left
                · intro w hSw
                  try dsimp only at hSw
                  go_simp
                  try with_reducible rfl
                (try simp only [Act.put, List.setIfInBounds_toArray, List.set_cons_zero, List.set_cons_succ, List.getElem_toArray, List.getElem_cons_zero, List.getElem_cons_succ])
                refine wpAnyH_take (i := 12) (oi := _) (v := ?_) rfl (by kernel_rfl) (by kernel_rfl) (by kernel_rfl) (fun _ _ _ h => h) (Or.inl ⟨by rfl, ?_⟩) (by assumption) ?_
                rotate_left
                · intro w hSw
                  try dsimp only at hSw
                  go_simp
                  try with_reducible rfl
                (try simp only [Act.put, List.setIfInBounds_toArray, List.set_cons_zero, List.set_cons_succ, List.getElem_toArray, List.getElem_cons_zero, List.getElem_cons_succ])
                refine wpAnyH_take (i := 13) (oi := _) (v := ?_) rfl (by kernel_rfl) (by kernel_rfl) (by kernel_rfl) (fun _ _ _ h => h) (Or.inl ⟨by rfl, ?_⟩) (by assumption) ?_
                rotate_left
                · intro w hSw
                  try dsimp only at hSw
                  go_simp
                  try with_reducible rfl
                (try simp only [Act.put, List.setIfInBounds_toArray, List.set_cons_zero, List.set_cons_succ, List.getElem_toArray, List.getElem_cons_zero, List.getElem_cons_succ])
                refine wpAnyH_take (i := 14) (oi := _) (v := ?_) rfl (by kernel_rfl) (by kernel_rfl) (by kernel_rfl) (fun _ _ _ h => h) (Or.inl ⟨by rfl, ?_⟩) (by assumption) ?_
                rotate_left
                · intro w hSw
                  try dsimp only at hSw
                  go_simp
                  try with_reducible rfl
                (try simp only [Act.put, List.setIfInBounds_toArray, List.set_cons_zero, List.set_cons_succ, List.getElem_toArray, List.getElem_cons_zero, List.getElem_cons_succ])
                refine wpAnyH_take (i := 15) (oi := _) (v := ?_) rfl (by kernel_rfl) (by kernel_rfl) (by kernel_rfl) (fun _ _ _ h => h) (Or.inl ⟨by rfl, ?_⟩) (by assumption) ?_
                rotate_left
                · intro w hSw
                  try dsimp only at hSw
                  go_simp
                  try with_reducible rfl
                (try simp only [Act.put, List.setIfInBounds_toArray, List.set_cons_zero, List.set_cons_succ, List.getElem_toArray, List.getElem_cons_zero, List.getElem_cons_succ])
                refine wpAnyH_take (i := 16) (oi := _) (v := ?_) rfl (by kernel_rfl) (by kernel_rfl) (by kernel_rfl) (fun _ _ _ h => h) (Or.inl ⟨by rfl, ?_⟩) (by assumption) ?_
                rotate_left
                · intro w hSw
                  try dsimp only at hSw
                  go_simp
                  try with_reducible rfl
                (try simp only [Act.put, List.setIfInBounds_toArray, List.set_cons_zero, List.set_cons_succ, List.getElem_toArray, List.getElem_cons_zero, List.getElem_cons_succ])
                refine wpAnyH_take (i := 17) (oi := _) (v := ?_) rfl (by kernel_rfl) (by kernel_rfl) (by kernel_rfl) (fun _ _ _ h => h) (Or.inl ⟨by rfl, ?_⟩) (by assumption) ?_
                rotate_left
                · intro w hSw
                  try dsimp only at hSw
                  go_simp
                  try with_reducible rfl
                (try simp only [Act.put, List.setIfInBounds_toArray, List.set_cons_zero, List.set_cons_succ, List.getElem_toArray, List.getElem_cons_zero, List.getElem_cons_succ])
                refine wpAnyH_take (i := 18) (oi := _) (v := ?_) rfl (by kernel_rfl) (by kernel_rfl) (by kernel_rfl) (fun _ _ _ h => h) (Or.inl ⟨by rfl, ?_⟩) (by assumption) ?_
                rotate_left
                · intro w hSw
                  try dsimp only at hSw
                  go_simp
                  try with_reducible rfl
                (try simp only [Act.put, List.setIfInBounds_toArray, List.set_cons_zero, List.set_cons_succ, List.getElem_toArray, List.getElem_cons_zero, List.getElem_cons_succ])
                refine wpAnyH_take (i := 19) (oi := _) (v := ?_) rfl (by kernel_rfl) (by kernel_rfl) (by kernel_rfl) (fun _ _ _ h => h) (Or.inl ⟨by rfl, ?_⟩) (by assumption) ?_
                rotate_left
                · intro w hSw
                  try dsimp only at hSw
                  go_simp
                  try with_reducible rfl
                (try simp only [Act.put, List.setIfInBounds_toArray, List.set_cons_zero, List.set_cons_succ, List.getElem_toArray, List.getElem_cons_zero, List.getElem_cons_succ])
                refine wpAnyH_take (i := 20) (oi := _) (v := ?_) rfl (by kernel_rfl) (by kernel_rfl) (by kernel_rfl) (fun _ _ _ h => h) (Or.inl ⟨by rfl, ?_⟩) (by assumption) ?_
                rotate_left
                · intro w hSw
                  try dsimp only at hSw
                  go_simp
                  try with_reducible rfl
                (try simp only [Act.put, List.setIfInBounds_toArray, List.set_cons_zero, List.set_cons_succ, List.getElem_toArray, List.getElem_cons_zero, List.getElem_cons_succ])
                refine wpAnyH_take (i := 21) (oi := _) (v := ?_) rfl (by kernel_rfl) (by kernel_rfl) (by kernel_rfl) (fun _ _ _ h => h) (Or.inl ⟨by rfl, ?_⟩) (by assumption) ?_
                rotate_left
                · intro w hSw
                  try dsimp only at hSw
                  go_simp
                  try with_reducible rfl
                (try simp only [Act.put, List.setIfInBounds_toArray, List.set_cons_zero, List.set_cons_succ, List.getElem_toArray, List.getElem_cons_zero, List.getElem_cons_succ])
                refine wpAnyH_take (i := 22) (oi := _) (v := ?_) rfl (by kernel_rfl) (by kernel_rfl) (by kernel_rfl) (fun _ _ _ h => h) (Or.inl ⟨by rfl, ?_⟩) (by assumption) ?_
                rotate_left
                · intro w hSw
                  try dsimp only at hSw
                  go_simp
                  try with_reducible rfl
                (try simp only [Act.put, List.setIfInBounds_toArray, List.set_cons_zero, List.set_cons_succ, List.getElem_toArray, List.getElem_cons_zero, List.getElem_cons_succ])
                refine wpAnyH_take (i := 23) (oi := _) (v := ?_) rfl (by kernel_rfl) (by kernel_rfl) (by kernel_rfl) (fun _ _ _ h => h) (Or.inl ⟨by rfl, ?_⟩) (by assumption) ?_
                rotate_left
                · intro w hSw
                  try dsimp only at hSw
                  go_simp
                  try with_reducible rfl
                (try simp only [Act.put, List.setIfInBounds_toArray, List.set_cons_zero, List.set_cons_succ, List.getElem_toArray, List.getElem_cons_zero, List.getElem_cons_succ])
                refine wpAnyH_take (i := 24) (oi := _) (v := ?_) rfl (by kernel_rfl) (by kernel_rfl) (by kernel_rfl) (fun _ _ _ h => h) (Or.inl ⟨by rfl, ?_⟩) (by assumption) ?_
                rotate_left
                · intro w hSw
                  try dsimp only at hSw
                  go_simp
                  try with_reducible rfl
                (try simp only [Act.put, List.setIfInBounds_toArray, List.set_cons_zero, List.set_cons_succ, List.getElem_toArray, List.getElem_cons_zero, List.getElem_cons_succ])
                refine wpAnyH_take (i := 25) (oi := _) (v := ?_) rfl (by kernel_rfl) (by kernel_rfl) (by kernel_rfl) (fun _ _ _ h => h) (Or.inl ⟨by rfl, ?_⟩) (by assumption) ?_
                rotate_left
                · intro w hSw
                  try dsimp only at hSw
                  go_simp
                  try with_reducible rfl
                (try simp only [Act.put, List.setIfInBounds_toArray, List.set_cons_zero, List.set_cons_succ, List.getElem_toArray, List.getElem_cons_zero, List.getElem_cons_succ])
                refine wpAnyH_take (i := 26) (oi := _) (v := ?_) rfl (by kernel_rfl) (by kernel_rfl) (by kernel_rfl) (fun _ _ _ h => h) (Or.inl ⟨by rfl, ?_⟩) (by assumption) ?_
                rotate_left
                · intro w hSw
                  try dsimp only at hSw
                  go_simp
                  try with_reducible rfl
                (try simp only [Act.put, List.setIfInBounds_toArray, List.set_cons_zero, List.set_cons_succ, List.getElem_toArray, List.getElem_cons_zero, List.getElem_cons_succ])
                refine wpAnyH_take (i := 27) (oi := _) (v := ?_) rfl (by kernel_rfl) (by kernel_rfl) (by kernel_rfl) (fun _ _ _ h => h) (Or.inl ⟨by rfl, ?_⟩) (by assumption) ?_
                rotate_left
                · intro w hSw
                  try dsimp only at hSw
                  go_simp
                  try with_reducible rfl
                (try simp only [Act.put, List.setIfInBounds_toArray, List.set_cons_zero, List.set_cons_succ, List.getElem_toArray, List.getElem_cons_zero, List.getElem_cons_succ])
                refine wpAnyH_take (i := 28) (oi := _) (v := ?_) rfl (by kernel_rfl) (by kernel_rfl) (by kernel_rfl) (fun _ _ _ h => h) (Or.inl ⟨by rfl, ?_⟩) (by assumption) ?_
                rotate_left
                · intro w hSw
                  try dsimp only at hSw
                  go_simp
                  try with_reducible rfl
                (try simp only [Act.put, List.setIfInBounds_toArray, List.set_cons_zero, List.set_cons_succ, List.getElem_toArray, List.getElem_cons_zero, List.getElem_cons_succ])
                refine wpAnyH_take (i := 29) (oi := _) (v := ?_) rfl (by kernel_rfl) (by kernel_rfl) (by kernel_rfl) (fun _ _ _ h => h) (Or.inl ⟨by rfl, ?_⟩) (by assumption) ?_
                rotate_left
                · intro w hSw
                  try dsimp only at hSw
                  go_simp
                  try with_reducible rfl
                (try simp only [Act.put, List.setIfInBounds_toArray, List.set_cons_zero, List.set_cons_succ, List.getElem_toArray, List.getElem_cons_zero, List.getElem_cons_succ])
                refine wpAnyH_take (i := 30) (oi := _) (v := ?_) rfl (by kernel_rfl) (by kernel_rfl) (by kernel_rfl) (fun _ _ _ h => h) (Or.inl ⟨by rfl, ?_⟩) (by assumption) ?_
                rotate_left
                · intro w hSw
                  try dsimp only at hSw
                  go_simp
                  try with_reducible rfl
                (try simp only [Act.put, List.setIfInBounds_toArray, List.set_cons_zero, List.set_cons_succ, List.getElem_toArray, List.getElem_cons_zero, List.getElem_cons_succ])
                refine wpAnyH_take (i := 31) (oi := _) (v := ?_) rfl (by kernel_rfl) (by kernel_rfl) (by kernel_rfl) (fun _ _ _ h => h) (Or.inl ⟨by rfl, ?_⟩) (by assumption) ?_
                rotate_left
                · intro w hSw
                  try dsimp only at hSw
                  go_simp
                  try with_reducible rfl
                (try simp only [Act.put, List.setIfInBounds_toArray, List.set_cons_zero, List.set_cons_succ, List.getElem_toArray, List.getElem_cons_zero, List.getElem_cons_succ])
                refine wpAnyH_take (i := 32) (oi := _) (v := ?_) rfl (by kernel_rfl) (by kernel_rfl) (by kernel_rfl) (fun _ _ _ h => h) (Or.inl ⟨by rfl, ?_⟩) (by assumption) ?_
                rotate_left
                · intro w hSw
                  try dsimp only at hSw
                  go_simp
                  try with_reducible rfl
                (try simp only [Act.put, List.setIfInBounds_toArray, List.set_cons_zero, List.set_cons_succ, List.getElem_toArray, List.getElem_cons_zero, List.getElem_cons_succ])
                refine wpAnyH_take (i := 33) (oi := _) (v := ?_) rfl (by kernel_rfl) (by kernel_rfl) (by kernel_rfl) (fun _ _ _ h => h) (Or.inl ⟨by rfl, ?_⟩) (by assumption) ?_
                rotate_left
                · intro w hSw
                  try dsimp only at hSw
                  go_simp
                  try with_reducible rfl
                (try simp only [Act.put, List.setIfInBounds_toArray, List.set_cons_zero, List.set_cons_succ, List.getElem_toArray, List.getElem_cons_zero, List.getElem_cons_succ])
                refine wpAnyH_take (i := 34) (oi := _) (v := ?_) rfl (by kernel_rfl) (by kernel_rfl) (by kernel_rfl) (fun _ _ _ h => h) (Or.inl ⟨by rfl, ?_⟩) (by assumption) ?_
                rotate_left
                · intro w hSw
                  try dsimp only at hSw
                  go_simp
                  try with_reducible rfl
                (try simp only [Act.put, List.setIfInBounds_toArray, List.set_cons_zero, List.set_cons_succ, List.getElem_toArray, List.getElem_cons_zero, List.getElem_cons_succ])
                refine wpAnyH_take (i := 35) (oi := _) (v := ?_) rfl (by kernel_rfl) (by kernel_rfl) (by kernel_rfl) (fun _ _ _ h => h) (Or.inl ⟨by rfl, ?_⟩) (by assumption) ?_
                rotate_left
                · intro w hSw
                  try dsimp only at hSw
                  go_simp
                  try with_reducible rfl
                (try simp only [Act.put, List.setIfInBounds_toArray, List.set_cons_zero, List.set_cons_succ, List.getElem_toArray, List.getElem_cons_zero, List.getElem_cons_succ])
                refine wpAnyH_take (i := 36) (oi := _) (v := ?_) rfl (by kernel_rfl) (by kernel_rfl) (by kernel_rfl) (fun _ _ _ h => h) (Or.inl ⟨by rfl, ?_⟩) (by assumption) ?_
                rotate_left
                · intro w hSw
                  try dsimp only at hSw
                  go_simp
                  try with_reducible rfl
                (try simp only [Act.put, List.setIfInBounds_toArray, List.set_cons_zero, List.set_cons_succ, List.getElem_toArray, List.getElem_cons_zero, List.getElem_cons_succ])
                refine wpAnyH_done (by kernel_rfl) ?_ _
                clear p0 p1 p2 p3 p4 e0
                go_wp2_with fail
                have hcells : ∀ Y, Below w5.heap.size w5 Y → ∀ j (hj : j < ((F i).drop K0).length), Y.cell? ⟨gi, K0 + j, none⟩ = some (str ((F i).drop K0)[j]) := fun Y hY j hj => by
                  rw [List.getElem_drop]
                  obtain ⟨g5, cap5, hv5, -, -, -, hgc⟩ := owns_cells (HI5.out.rows i hi16).1 HNF.out
                  rw [HVS.out] at hv5
                  cases hv5
                  exact cell_up (hgc _ (by rw [List.length_drop] at hj; omega)) hY
                have hk0 : ∀ Y, Below w5.heap.size w5 Y → Y.cell? ⟨wb, i, none⟩ = some (.slice (some ⟨gi, 0, none⟩) (F i).length capi) ∧ Y.cell? (a.add (k * 5)) = some (.int .i64 1) ∧ Y.cell? ⟨(a.add (k * 5)).block, (a.add (k * 5)).off + 1, none⟩ = some (.int .i64 (i : Int)) ∧ Y.cell? ⟨(a.add (k * 5)).block, (a.add (k * 5)).off + 2, none⟩ = some (.int .i64 (K0 : Int)) ∧ Y.cell? ⟨(a.add (k * 5)).block, (a.add (k * 5)).off + 3, none⟩ = some (str s) ∧ Y.cell? ⟨(a.add (k * 5)).block, (a.add (k * 5)).off + 4, none⟩ = some (.bool raw) := fun Y hY => by
                  have h1 := HX.out.keep (HI5.out.below hY).keep
                  exact ⟨by rw [← HVS.out]; exact ((HI5.out.below hY).arr i hi16).1, h1.c0, h1.c1, h1.c2, h1.c3, h1.c4⟩
                have HKeep := Lib.hid hk0
                have HCells := Lib.hid hcells
                have hne : (F i).drop K0 ≠ [] := fun h => by have := congrArg List.length h; rw [List.length_drop] at this; simp at this; omega
                have HNe := Lib.hid hne
                have hlen : ((F i).drop K0).length ≤ 1048576 := by rw [List.length_drop]; have := HLF.out; omega
                have HLen := Lib.hid hlen
                have HDl := Lib.hid (List.length_drop (l := F i) (i := K0))
                have HW0 := Lib.hid (fun Y (hY : Below w5.heap.size w5 Y) => Nat.le_trans HI5.out.keep.size hY.size)
                clear hk0 hcells hne hlen
                refine wp_region_any (by kernel_rfl) ?_
                change wpAny _ _ _ _ _ _ _ w5.drew
                have B0 := Lib.hid ((Below.refl w5.heap.size w5).drew)
                obtain ⟨X0, ex0⟩ : ∃ Y, w5.drew = Y := ⟨_, rfl⟩
                rw [ex0] at B0 ⊢
                clear ex0
                refine wpAny_take (i := 0) (oi := _) (v := ?_) rfl (by kernel_rfl) (by kernel_rfl) (by kernel_rfl) (fun _ _ _ h => h) (Or.inl ⟨by rfl, ?_⟩) ?_
                rotate_left
                · intro w
                  go_simp
                  try with_reducible rfl
                (try simp only [Act.put, List.setIfInBounds_toArray, List.set_cons_zero, List.set_cons_succ, List.getElem_toArray, List.getElem_cons_zero, List.getElem_cons_succ])
                refine wpAny_take (i := 1) (oi := _) (v := ?_) rfl (by kernel_rfl) (by kernel_rfl) (by kernel_rfl) (fun _ _ _ h => h) (Or.inl ⟨by rfl, ?_⟩) ?_
                rotate_left
                · intro w
                  go_simp
                  try with_reducible rfl
                (try simp only [Act.put, List.setIfInBounds_toArray, List.set_cons_zero, List.set_cons_succ, List.getElem_toArray, List.getElem_cons_zero, List.getElem_cons_succ])
                refine wpAny_take (i := 2) (oi := _) (v := ?_) rfl (by kernel_rfl) (by kernel_rfl) (by kernel_rfl) (fun _ _ _ h => h) (Or.inl ⟨by rfl, ?_⟩) ?_
                rotate_left
                · intro w
                  go_simp
                  try with_reducible rfl
                (try simp only [Act.put, List.setIfInBounds_toArray, List.set_cons_zero, List.set_cons_succ, List.getElem_toArray, List.getElem_cons_zero, List.getElem_cons_succ])
                refine wpAny_take (i := 4) (oi := _) (v := ?_) rfl (by kernel_rfl) (by kernel_rfl) (by kernel_rfl) (fun _ _ _ h => h) (Or.inl ⟨by rfl, ?_⟩) ?_
                rotate_left
                · intro w
                  go_simp
                  try with_reducible rfl
                (try simp only [Act.put, List.setIfInBounds_toArray, List.set_cons_zero, List.set_cons_succ, List.getElem_toArray, List.getElem_cons_zero, List.getElem_cons_succ])
                refine wpAny_take (i := 5) (oi := _) (v := ?_) rfl (by kernel_rfl) (by kernel_rfl) (by kernel_rfl) (fun _ _ _ h => h) (Or.inl ⟨by rfl, ?_⟩) ?_
                rotate_left
                · intro w
                  go_simp
                  try with_reducible rfl
                (try simp only [Act.put, List.setIfInBounds_toArray, List.set_cons_zero, List.set_cons_succ, List.getElem_toArray, List.getElem_cons_zero, List.getElem_cons_succ])
                refine wpAny_take (i := 6) (oi := _) (v := ?_) rfl (by kernel_rfl) (by kernel_rfl) (by kernel_rfl) (fun _ _ _ h => h) (Or.inl ⟨by rfl, ?_⟩) ?_
                rotate_left
                · intro w
                  go_simp
                  try with_reducible rfl
                (try simp only [Act.put, List.setIfInBounds_toArray, List.set_cons_zero, List.set_cons_succ, List.getElem_toArray, List.getElem_cons_zero, List.getElem_cons_succ])
                refine wpAny_take (i := 7) (oi := _) (v := ?_) rfl (by kernel_rfl) (by kernel_rfl) (by kernel_rfl) (fun _ _ _ h => h) (Or.inl ⟨by rfl, ?_⟩) ?_
                rotate_left
                · intro w
                  go_simp
                  try with_reducible rfl
                (try simp only [Act.put, List.setIfInBounds_toArray, List.set_cons_zero, List.set_cons_succ, List.getElem_toArray, List.getElem_cons_zero, List.getElem_cons_succ])
                refine wpAny_ready (rs := [3, 8]) (by kernel_rfl) (by simp) ?_
                refine AllReady.cons (o := _) rfl (fun K hK0 => ?_) ?_
                · have hK := Lib.hid hK0
                  clear hK0
                  have q0 := (HKeep.out X0 B0.out).1
                  go_simp
                  refine hK.out _ _ ?_
                  clear hK K q0
                  (try simp only [Act.put, List.setIfInBounds_toArray, List.set_cons_zero, List.set_cons_succ, List.getElem_toArray, List.getElem_cons_zero, List.getElem_cons_succ])
                  refine wpAny_ready (rs := [8]) (by kernel_rfl) (by simp) ?_
                  refine AllReady.cons (o := _) rfl (fun K hK0 => ?_) AllReady.nil
                  have hK := Lib.hid hK0
                  clear hK0
                  obtain ⟨_, q0, q1, q2, q3, q4⟩ := HKeep.out X0 B0.out
                  go_simp
                  refine hK.out _ _ ?_
                  clear hK K q0 q1 q2 q3 q4
                  (try simp only [Act.put, List.setIfInBounds_toArray, List.set_cons_zero, List.set_cons_succ, List.getElem_toArray, List.getElem_cons_zero, List.getElem_cons_succ])
                  refine wpAny_ready (rs := [9]) (by kernel_rfl) (by simp) ?_
                  refine AllReady.cons (o := _) rfl (fun K hK0 => ?_) AllReady.nil
                  have hK := Lib.hid hK0
                  clear hK0
                  go_simp
                  rw [if_pos (show K0 ≤ (F i).length by omega), if_neg (show ¬ capi = K0 by omega)]
                  go_simp
                  refine hK.out _ _ ?_
                  clear hK K
                  (try simp only [Act.put, List.setIfInBounds_toArray, List.set_cons_zero, List.set_cons_succ, List.getElem_toArray, List.getElem_cons_zero, List.getElem_cons_succ])
                  refine wpAny_ready (rs := [10]) (by kernel_rfl) (by simp) ?_
                  refine AllReady.cons (o := _) rfl (fun K hK0 => ?_) AllReady.nil
                  have hK := Lib.hid hK0
                  clear hK0
                  obtain ⟨v1, X1, hap, hown, hbl, hob⟩ := append_tail X0 w.heap.size gi K0 (capi - K0) ((F i).drop K0) (HCells.out X0 B0.out) HNe.out HLen.out (HW0.out X0 B0.out)
                  have B1 := Lib.hid (B0.out.trans (hbl.mono B0.out.size))
                  have O2 := Lib.hid hown
                  have hob2 : ∀ kk, v1.ownBlock = some kk → w5.heap.size ≤ kk := fun kk e => by rw [hob] at e; cases e; exact B0.out.size
                  have OB2 := Lib.hid hob2
                  obtain ⟨g2, cap2, hv2, -⟩ := owns_cells O2.out HNe.out
                  subst hv2
                  clear hown hob hob2 hbl
                  rw [HDl.out] at hap
                  refine step_text rfl _ _ rfl rfl rfl rfl hap ?_
                  refine hK.out _ _ ?_
                  clear hK K hap
                  (try simp only [Act.put, List.setIfInBounds_toArray, List.set_cons_zero, List.set_cons_succ, List.getElem_toArray, List.getElem_cons_zero, List.getElem_cons_succ])
                  refine wpAny_take (i := 11) (oi := _) (v := ?_) rfl (by kernel_rfl) (by kernel_rfl) (by kernel_rfl) (fun _ _ _ h => h) (Or.inl ⟨by rfl, ?_⟩) ?_
                  rotate_left
                  · intro w
                    go_simp
                    try with_reducible rfl
                  (try simp only [Act.put, List.setIfInBounds_toArray, List.set_cons_zero, List.set_cons_succ, List.getElem_toArray, List.getElem_cons_zero, List.getElem_cons_succ])
                  have hput := HI5.out.put i hi16 _ ((F i).drop K0) B1.out O2.out OB2.out
                  simp only [List.length_drop] at hput
                  have HP := Lib.hid hput
                  clear hput
                  have hpc := ((HI5.out.below B1.out).arr i hi16).1
                  have hpf := ((HI5.out.below B1.out).arr i hi16).2
                  refine wpAny_ready (rs := [12]) (by kernel_rfl) (by simp) ?_
                  refine AllReady.cons (o := _) rfl (fun K hK0 => ?_) AllReady.nil
                  have hK := Lib.hid hK0
                  clear hK0
                  go_simp
                  refine hK.out _ _ ?_
                  clear hK K hpc hpf
                  (try simp only [Act.put, List.setIfInBounds_toArray, List.set_cons_zero, List.set_cons_succ, List.getElem_toArray, List.getElem_cons_zero, List.getElem_cons_succ])
                  refine wpAny_done (by kernel_rfl) ?_ _
                  clear B0 HKeep HCells HNe HLen HW0 HI5
                  go_wp2_with fail
                  go_meet
                  case rel => exact ⟨M.settle i K0, _, _, HP.out, (fun j hj => by rw [was_settle M i K0 hKl]; by_cases e : j = i; (subst e; rw [upd_same, if_pos rfl, HF.out j hj]); (rw [upd_other _ _ e, if_neg e, HF.out j hj])), HN.out, (by show M.wr ≤ _; omega)⟩
                refine AllReady.cons (o := _) rfl (fun K hK0 => ?_) ?_
                · have hK := Lib.hid hK0
                  clear hK0
                  obtain ⟨_, q0, q1, q2, q3, q4⟩ := HKeep.out X0 B0.out
                  go_simp
                  refine hK.out _ _ ?_
                  clear hK K q0 q1 q2 q3 q4
                  (try simp only [Act.put, List.setIfInBounds_toArray, List.set_cons_zero, List.set_cons_succ, List.getElem_toArray, List.getElem_cons_zero, List.getElem_cons_succ])
                  refine wpAny_ready (rs := [3]) (by kernel_rfl) (by simp) ?_
                  refine AllReady.cons (o := _) rfl (fun K hK0 => ?_) AllReady.nil
                  have hK := Lib.hid hK0
                  clear hK0
                  have q0 := (HKeep.out X0 B0.out).1
                  go_simp
                  refine hK.out _ _ ?_
                  clear hK K q0
                  (try simp only [Act.put, List.setIfInBounds_toArray, List.set_cons_zero, List.set_cons_succ, List.getElem_toArray, List.getElem_cons_zero, List.getElem_cons_succ])
                  refine wpAny_ready (rs := [9]) (by kernel_rfl) (by simp) ?_
                  refine AllReady.cons (o := _) rfl (fun K hK0 => ?_) AllReady.nil
                  have hK := Lib.hid hK0
                  clear hK0
                  go_simp
                  rw [if_pos (show K0 ≤ (F i).length by omega), if_neg (show ¬ capi = K0 by omega)]
                  go_simp
                  refine hK.out _ _ ?_
                  clear hK K
                  (try simp only [Act.put, List.setIfInBounds_toArray, List.set_cons_zero, List.set_cons_succ, List.getElem_toArray, List.getElem_cons_zero, List.getElem_cons_succ])
                  refine wpAny_ready (rs := [10]) (by kernel_rfl) (by simp) ?_
                  refine AllReady.cons (o := _) rfl (fun K hK0 => ?_) AllReady.nil
                  have hK := Lib.hid hK0
                  clear hK0
                  obtain ⟨v1, X1, hap, hown, hbl, hob⟩ := append_tail X0 w.heap.size gi K0 (capi - K0) ((F i).drop K0) (HCells.out X0 B0.out) HNe.out HLen.out (HW0.out X0 B0.out)
                  have B1 := Lib.hid (B0.out.trans (hbl.mono B0.out.size))
                  have O2 := Lib.hid hown
                  have hob2 : ∀ kk, v1.ownBlock = some kk → w5.heap.size ≤ kk := fun kk e => by rw [hob] at e; cases e; exact B0.out.size
                  have OB2 := Lib.hid hob2
                  obtain ⟨g2, cap2, hv2, -⟩ := owns_cells O2.out HNe.out
                  subst hv2
                  clear hown hob hob2 hbl
                  rw [HDl.out] at hap
                  refine step_text rfl _ _ rfl rfl rfl rfl hap ?_
                  refine hK.out _ _ ?_
                  clear hK K hap
                  (try simp only [Act.put, List.setIfInBounds_toArray, List.set_cons_zero, List.set_cons_succ, List.getElem_toArray, List.getElem_cons_zero, List.getElem_cons_succ])
                  refine wpAny_take (i := 11) (oi := _) (v := ?_) rfl (by kernel_rfl) (by kernel_rfl) (by kernel_rfl) (fun _ _ _ h => h) (Or.inl ⟨by rfl, ?_⟩) ?_
                  rotate_left
                  · intro w
                    go_simp
                    try with_reducible rfl
                  (try simp only [Act.put, List.setIfInBounds_toArray, List.set_cons_zero, List.set_cons_succ, List.getElem_toArray, List.getElem_cons_zero, List.getElem_cons_succ])
                  have hput := HI5.out.put i hi16 _ ((F i).drop K0) B1.out O2.out OB2.out
                  simp only [List.length_drop] at hput
                  have HP := Lib.hid hput
                  clear hput
                  have hpc := ((HI5.out.below B1.out).arr i hi16).1
                  have hpf := ((HI5.out.below B1.out).arr i hi16).2
                  refine wpAny_ready (rs := [12]) (by kernel_rfl) (by simp) ?_
                  refine AllReady.cons (o := _) rfl (fun K hK0 => ?_) AllReady.nil
                  have hK := Lib.hid hK0
                  clear hK0
                  go_simp
                  refine hK.out _ _ ?_
                  clear hK K hpc hpf
                  (try simp only [Act.put, List.setIfInBounds_toArray, List.set_cons_zero, List.set_cons_succ, List.getElem_toArray, List.getElem_cons_zero, List.getElem_cons_succ])
                  refine wpAny_done (by kernel_rfl) ?_ _
                  clear B0 HKeep HCells HNe HLen HW0 HI5
                  go_wp2_with fail
                  go_meet
                  case rel => exact ⟨M.settle i K0, _, _, HP.out, (fun j hj => by rw [was_settle M i K0 hKl]; by_cases e : j = i; (subst e; rw [upd_same, if_pos rfl, HF.out j hj]); (rw [upd_other _ _ e, if_neg e, HF.out j hj])), HN.out, (by show M.wr ≤ _; omega)⟩
                exact AllReady.nil
              · have HW := Lib.hid hW
                clear hW
                rcases hE with hE | hE
                · have HE := Lib.hid hE
                  clear hE
                  have HId := Lib.hid (HI.out.below (Below.refl _ wr).drew)
                  clear HI
                  go_wp2_with fail
                  refine wp_region_held_drew (S := (fun W => W.cell? (a.add (k * 5)) = some (.int .i64 1) ∧ W.cell? ⟨(a.add (k * 5)).block, (a.add (k * 5)).off + 1, none⟩ = some (.int .i64 I) ∧ W.cell? ⟨(a.add (k * 5)).block, (a.add (k * 5)).off + 2, none⟩ = some (.int .i64 KK) ∧ W.cell? ⟨(a.add (k * 5)).block, (a.add (k * 5)).off + 3, none⟩ = some (str s) ∧ W.cell? ⟨(a.add (k * 5)).block, (a.add (k * 5)).off + 4, none⟩ = some (.bool raw))) (by kernel_rfl) (by exact ⟨d0, d1, d2, d3, d4⟩) (fun hHeld => ?_)
                  refine wpAnyH_take (i := 0) (oi := _) (v := ?_) rfl (by kernel_rfl) (by kernel_rfl) (by kernel_rfl) (fun _ _ _ h => h) (Or.inl ⟨by rfl, ?_⟩) (by assumption) ?_
                  rotate_left
                  · intro w hSw
                    try dsimp only at hSw
                    go_simp
                    try with_reducible rfl
                  (try simp only [Act.put, List.setIfInBounds_toArray, List.set_cons_zero, List.set_cons_succ, List.getElem_toArray, List.getElem_cons_zero, List.getElem_cons_succ])
                  refine wpAnyH_take (i := 1) (oi := _) (v := ?_) rfl (by kernel_rfl) (by kernel_rfl) (by kernel_rfl) (fun _ _ _ h => h) (Or.inl ⟨by rfl, ?_⟩) (by assumption) ?_
                  rotate_left
                  · intro w hSw
                    try dsimp only at hSw
                    go_simp
                    try with_reducible rfl
                  (try simp only [Act.put, List.setIfInBounds_toArray, List.set_cons_zero, List.set_cons_succ, List.getElem_toArray, List.getElem_cons_zero, List.getElem_cons_succ])
                  refine wpAnyH_take (i := 2) (oi := _) (v := ?_) rfl (by kernel_rfl) (by kernel_rfl) (by kernel_rfl) (fun _ _ _ h => h) (Or.inl ⟨by rfl, ?_⟩) (by assumption) ?_
                  rotate_left
                  · intro w hSw
                    try dsimp only at hSw
                    go_simp
                    try with_reducible rfl
                  (try simp only [Act.put, List.setIfInBounds_toArray, List.set_cons_zero, List.set_cons_succ, List.getElem_toArray, List.getElem_cons_zero, List.getElem_cons_succ])
                  refine wpAnyH_take (i := 3) (oi := _) (v := ?_) rfl (by kernel_rfl) (by kernel_rfl) (by kernel_rfl) (fun _ _ _ h => h) (Or.inl ⟨by rfl, ?_⟩) (by assumption) ?_
                  rotate_left
                  · intro w hSw
                    try dsimp only at hSw
                    go_simp
                    try with_reducible rfl
                  (try simp only [Act.put, List.setIfInBounds_toArray, List.set_cons_zero, List.set_cons_succ, List.getElem_toArray, List.getElem_cons_zero, List.getElem_cons_succ])
                  refine wpAnyH_take (i := 4) (oi := _) (v := ?_) rfl (by kernel_rfl) (by kernel_rfl) (by kernel_rfl) (fun _ _ _ h => h) (Or.inl ⟨by rfl, ?_⟩) (by assumption) ?_
                  rotate_left
                  · intro w hSw
                    try dsimp only at hSw
                    go_simp
                    try with_reducible rfl
                  (try simp only [Act.put, List.setIfInBounds_toArray, List.set_cons_zero, List.set_cons_succ, List.getElem_toArray, List.getElem_cons_zero, List.getElem_cons_succ])
                  refine wpAnyH_take (i := 5) (oi := _) (v := ?_) rfl (by kernel_rfl) (by kernel_rfl) (by kernel_rfl) (fun _ _ _ h => h) (Or.inl ⟨by rfl, ?_⟩) (by assumption) ?_
                  rotate_left
                  · intro w hSw
                    try dsimp only at hSw
                    go_simp
                    try with_reducible rfl
                  (try simp only [Act.put, List.setIfInBounds_toArray, List.set_cons_zero, List.set_cons_succ, List.getElem_toArray, List.getElem_cons_zero, List.getElem_cons_succ])
                  refine wpAnyH_take (i := 6) (oi := _) (v := ?_) rfl (by kernel_rfl) (by kernel_rfl) (by kernel_rfl) (fun _ _ _ h => h) (Or.inl ⟨by rfl, ?_⟩) (by assumption) ?_
                  rotate_left
                  · intro w hSw
                    try dsimp only at hSw
                    go_simp
                    try with_reducible rfl
                  (try simp only [Act.put, List.setIfInBounds_toArray, List.set_cons_zero, List.set_cons_succ, List.getElem_toArray, List.getElem_cons_zero, List.getElem_cons_succ])
                  refine wpAnyH_ready (rs := [7]) (by kernel_rfl) (by simp) ?_
                  refine AllReadyH.cons (o := _) rfl (fun K hK => ?_) AllReadyH.nil
                  go_simp
                  go_at_call 12
                  have c := cr_back HId.out (by omega) I KK
                  rw [HE.out, HW.out] at c
                  with_reducible refine c.mono ?_
                  clear c
                  rintro e w5 ⟨rfl, hH⟩
                  have HI5 := Lib.hid hH
                  clear hH HId
                  obtain ⟨p0, p1, p2, p3, p4⟩ := HX.out.keep HI5.out.keep
                  refine hK _ _ (by exact ⟨p0, p1, p2, p3, p4⟩) (fun hHeld => ?_)
                  clear hK K
                  (try simp only [Act.put, List.setIfInBounds_toArray, List.set_cons_zero, List.set_cons_succ, List.getElem_toArray, List.getElem_cons_zero, List.getElem_cons_succ])
                  refine wpAnyH_take (i := 8) (oi := _) (v := ?_) rfl (by kernel_rfl) (by kernel_rfl) (by kernel_rfl) (fun _ _ _ h => h) (Or.inl ⟨by rfl, ?_⟩) (by assumption) ?_
                  rotate_left
                  · intro w hSw
                    try dsimp only at hSw
                    go_simp
                    try with_reducible rfl
                  (try simp only [Act.put, List.setIfInBounds_toArray, List.set_cons_zero, List.set_cons_succ, List.getElem_toArray, List.getElem_cons_zero, List.getElem_cons_succ])
                  refine wpAnyH_take (i := 9) (oi := _) (v := ?_) rfl (by kernel_rfl) (by kernel_rfl) (by kernel_rfl) (fun _ _ _ h => h) (Or.inl ⟨by rfl, ?_⟩) (by assumption) ?_
                  rotate_left
                  · intro w hSw
                    try dsimp only at hSw
                    go_simp
                    try with_reducible rfl
                  (try simp only [Act.put, List.setIfInBounds_toArray, List.set_cons_zero, List.set_cons_succ, List.getElem_toArray, List.getElem_cons_zero, List.getElem_cons_succ])
                  refine wpAnyH_take (i := 10) (oi := _) (v := undef) rfl (by kernel_rfl) (by kernel_rfl) (by kernel_rfl) (fun _ _ _ h => h) (Or.inr ⟨by rfl, rfl⟩) (by assumption) ?_
                  (try simp only [Act.put, List.setIfInBounds_toArray, List.set_cons_zero, List.set_cons_succ, List.getElem_toArray, List.getElem_cons_zero, List.getElem_cons_succ])
                  refine wpAnyH_take (i := 11) (oi := _) (v := undef) rfl (by kernel_rfl) (by kernel_rfl) (by kernel_rfl) (fun _ _ _ h => h) (Or.inr ⟨by rfl, rfl⟩) (by assumption) ?_
                  (try simp only [Act.put, List.setIfInBounds_toArray, List.set_cons_zero, List.set_cons_succ, List.getElem_toArray, List.getElem_cons_zero, List.getElem_cons_succ])
                  refine wpAnyH_take (i := 12) (oi := _) (v := ?_) rfl (by kernel_rfl) (by kernel_rfl) (by kernel_rfl) (fun _ _ _ h => h) (Or.inl ⟨by rfl, ?_⟩) (by assumption) ?_
                  rotate_left
                  · intro w hSw
                    try dsimp only at hSw
                    go_simp
                    try with_reducible rfl
                  (try simp only [Act.put, List.setIfInBounds_toArray, List.set_cons_zero, List.set_cons_succ, List.getElem_toArray, List.getElem_cons_zero, List.getElem_cons_succ])
                  refine wpAnyH_take (i := 13) (oi := _) (v := ?_) rfl (by kernel_rfl) (by kernel_rfl) (by kernel_rfl) (fun _ _ _ h => h) (Or.inl ⟨by rfl, ?_⟩) (by assumption) ?_
                  rotate_left
                  · intro w hSw
                    try dsimp only at hSw
                    go_simp
                    try with_reducible rfl
                  (try simp only [Act.put, List.setIfInBounds_toArray, List.set_cons_zero, List.set_cons_succ, List.getElem_toArray, List.getElem_cons_zero, List.getElem_cons_succ])
                  refine wpAnyH_take (i := 14) (oi := _) (v := undef) rfl (by kernel_rfl) (by kernel_rfl) (by kernel_rfl) (fun _ _ _ h => h) (Or.inr ⟨by rfl, rfl⟩) (by assumption) ?_
                  (try simp only [Act.put, List.setIfInBounds_toArray, List.set_cons_zero, List.set_cons_succ, List.getElem_toArray, List.getElem_cons_zero, List.getElem_cons_succ])
                  refine wpAnyH_take (i := 15) (oi := _) (v := undef) rfl (by kernel_rfl) (by kernel_rfl) (by kernel_rfl) (fun _ _ _ h => h) (Or.inr ⟨by rfl, rfl⟩) (by assumption) ?_
                  (try simp only [Act.put, List.setIfInBounds_toArray, List.set_cons_zero, List.set_cons_succ, List.getElem_toArray, List.getElem_cons_zero, List.getElem_cons_succ])
                  refine wpAnyH_take (i := 16) (oi := _) (v := ?_) rfl (by kernel_rfl) (by kernel_rfl) (by kernel_rfl) (fun _ _ _ h => h) (Or.inl ⟨by rfl, ?_⟩) (by assumption) ?_
                  rotate_left
                  · intro w hSw
                    try dsimp only at hSw
                    go_simp
                    try with_reducible rfl
                  (try simp only [Act.put, List.setIfInBounds_toArray, List.set_cons_zero, List.set_cons_succ, List.getElem_toArray, List.getElem_cons_zero, List.getElem_cons_succ])
                  refine wpAnyH_take (i := 17) (oi := _) (v := ?_) rfl (by kernel_rfl) (by kernel_rfl) (by kernel_rfl) (fun _ _ _ h => h) (Or.inl ⟨by rfl, ?_⟩) (by assumption) ?_
                  rotate_left
                  · intro w hSw
                    try dsimp only at hSw
                    go_simp
                    try with_reducible rfl
                  (try simp only [Act.put, List.setIfInBounds_toArray, List.set_cons_zero, List.set_cons_succ, List.getElem_toArray, List.getElem_cons_zero, List.getElem_cons_succ])
                  refine wpAnyH_take (i := 18) (oi := _) (v := undef) rfl (by kernel_rfl) (by kernel_rfl) (by kernel_rfl) (fun _ _ _ h => h) (Or.inr ⟨by rfl, rfl⟩) (by assumption) ?_
                  (try simp only [Act.put, List.setIfInBounds_toArray, List.set_cons_zero, List.set_cons_succ, List.getElem_toArray, List.getElem_cons_zero, List.getElem_cons_succ])
                  refine wpAnyH_take (i := 19) (oi := _) (v := undef) rfl (by kernel_rfl) (by kernel_rfl) (by kernel_rfl) (fun _ _ _ h => h) (Or.inr ⟨by rfl, rfl⟩) (by assumption) ?_
                  (try simp only [Act.put, List.setIfInBounds_toArray, List.set_cons_zero, List.set_cons_succ, List.getElem_toArray, List.getElem_cons_zero, List.getElem_cons_succ])
                  refine wpAnyH_take (i := 20) (oi := _) (v := undef) rfl (by kernel_rfl) (by kernel_rfl) (by kernel_rfl) (fun _ _ _ h => h) (Or.inr ⟨by rfl, rfl⟩) (by assumption) ?_
                  (try simp only [Act.put, List.setIfInBounds_toArray, List.set_cons_zero, List.set_cons_succ, List.getElem_toArray, List.getElem_cons_zero, List.getElem_cons_succ])
                  refine wpAnyH_take (i := 21) (oi := _) (v := undef) rfl (by kernel_rfl) (by kernel_rfl) (by kernel_rfl) (fun _ _ _ h => h) (Or.inr ⟨by rfl, rfl⟩) (by assumption) ?_
                  (try simp only [Act.put, List.setIfInBounds_toArray, List.set_cons_zero, List.set_cons_succ, List.getElem_toArray, List.getElem_cons_zero, List.getElem_cons_succ])
                  refine wpAnyH_take (i := 22) (oi := _) (v := undef) rfl (by kernel_rfl) (by kernel_rfl) (by kernel_rfl) (fun _ _ _ h => h) (Or.inr ⟨by rfl, rfl⟩) (by assumption) ?_
                  (try simp only [Act.put, List.setIfInBounds_toArray, List.set_cons_zero, List.set_cons_succ, List.getElem_toArray, List.getElem_cons_zero, List.getElem_cons_succ])
                  refine wpAnyH_take (i := 23) (oi := _) (v := undef) rfl (by kernel_rfl) (by kernel_rfl) (by kernel_rfl) (fun _ _ _ h => h) (Or.inr ⟨by rfl, rfl⟩) (by assumption) ?_
                  (try simp only [Act.put, List.setIfInBounds_toArray, List.set_cons_zero, List.set_cons_succ, List.getElem_toArray, List.getElem_cons_zero, List.getElem_cons_succ])
                  refine wpAnyH_take (i := 24) (oi := _) (v := ?_) rfl (by kernel_rfl) (by kernel_rfl) (by kernel_rfl) (fun _ _ _ h => h) (Or.inl ⟨by rfl, ?_⟩) (by assumption) ?_
                  rotate_left
                  · intro w hSw
                    try dsimp only at hSw
                    go_simp
                    try with_reducible rfl
                  (try simp only [Act.put, List.setIfInBounds_toArray, List.set_cons_zero, List.set_cons_succ, List.getElem_toArray, List.getElem_cons_zero, List.getElem_cons_succ])
                  refine wpAnyH_take (i := 25) (oi := _) (v := ?_) rfl (by kernel_rfl) (by kernel_rfl) (by kernel_rfl) (fun _ _ _ h => h) (Or.inl ⟨by rfl, ?_⟩) (by assumption) ?_
                  rotate_left
                  · intro w hSw
                    try dsimp only at hSw
                    go_simp
                    try with_reducible rfl
                  (try simp only [Act.put, List.setIfInBounds_toArray, List.set_cons_zero, List.set_cons_succ, List.getElem_toArray, List.getElem_cons_zero, List.getElem_cons_succ])
                  refine wpAnyH_take (i := 26) (oi := _) (v := undef) rfl (by kernel_rfl) (by kernel_rfl) (by kernel_rfl) (fun _ _ _ h => h) (Or.inr ⟨by rfl, rfl⟩) (by assumption) ?_
                  (try simp only [Act.put, List.setIfInBounds_toArray, List.set_cons_zero, List.set_cons_succ, List.getElem_toArray, List.getElem_cons_zero, List.getElem_cons_succ])
                  refine wpAnyH_take (i := 27) (oi := _) (v := undef) rfl (by kernel_rfl) (by kernel_rfl) (by kernel_rfl) (fun _ _ _ h => h) (Or.inr ⟨by rfl, rfl⟩) (by assumption) ?_
                  (try simp only [Act.put, List.setIfInBounds_toArray, List.set_cons_zero, List.set_cons_succ, List.getElem_toArray, List.getElem_cons_zero, List.getElem_cons_succ])
                  refine wpAnyH_take (i := 28) (oi := _) (v := undef) rfl (by kernel_rfl) (by kernel_rfl) (by kernel_rfl) (fun _ _ _ h => h) (Or.inr ⟨by rfl, rfl⟩) (by assumption) ?_
                  (try simp only [Act.put, List.setIfInBounds_toArray, List.set_cons_zero, List.set_cons_succ, List.getElem_toArray, List.getElem_cons_zero, List.getElem_cons_succ])
                  refine wpAnyH_take (i := 29) (oi := _) (v := undef) rfl (by kernel_rfl) (by kernel_rfl) (by kernel_rfl) (fun _ _ _ h => h) (Or.inr ⟨by rfl, rfl⟩) (by assumption) ?_
                  (try simp only [Act.put, List.setIfInBounds_toArray, List.set_cons_zero, List.set_cons_succ, List.getElem_toArray, List.getElem_cons_zero, List.getElem_cons_succ])
                  refine wpAnyH_take (i := 30) (oi := _) (v := undef) rfl (by kernel_rfl) (by kernel_rfl) (by kernel_rfl) (fun _ _ _ h => h) (Or.inr ⟨by rfl, rfl⟩) (by assumption) ?_
                  (try simp only [Act.put, List.setIfInBounds_toArray, List.set_cons_zero, List.set_cons_succ, List.getElem_toArray, List.getElem_cons_zero, List.getElem_cons_succ])
                  refine wpAnyH_take (i := 31) (oi := _) (v := undef) rfl (by kernel_rfl) (by kernel_rfl) (by kernel_rfl) (fun _ _ _ h => h) (Or.inr ⟨by rfl, rfl⟩) (by assumption) ?_
                  (try simp only [Act.put, List.setIfInBounds_toArray, List.set_cons_zero, List.set_cons_succ, List.getElem_toArray, List.getElem_cons_zero, List.getElem_cons_succ])
                  refine wpAnyH_take (i := 32) (oi := _) (v := undef) rfl (by kernel_rfl) (by kernel_rfl) (by kernel_rfl) (fun _ _ _ h => h) (Or.inr ⟨by rfl, rfl⟩) (by assumption) ?_
                  (try simp only [Act.put, List.setIfInBounds_toArray, List.set_cons_zero, List.set_cons_succ, List.getElem_toArray, List.getElem_cons_zero, List.getElem_cons_succ])
                  refine wpAnyH_take (i := 33) (oi := _) (v := undef) rfl (by kernel_rfl) (by kernel_rfl) (by kernel_rfl) (fun _ _ _ h => h) (Or.inr ⟨by rfl, rfl⟩) (by assumption) ?_
                  (try simp only [Act.put, List.setIfInBounds_toArray, List.set_cons_zero, List.set_cons_succ, List.getElem_toArray, List.getElem_cons_zero, List.getElem_cons_succ])
                  refine wpAnyH_take (i := 34) (oi := _) (v := undef) rfl (by kernel_rfl) (by kernel_rfl) (by kernel_rfl) (fun _ _ _ h => h) (Or.inr ⟨by rfl, rfl⟩) (by assumption) ?_
                  (try simp only [Act.put, List.setIfInBounds_toArray, List.set_cons_zero, List.set_cons_succ, List.getElem_toArray, List.getElem_cons_zero, List.getElem_cons_succ])
                  refine wpAnyH_take (i := 35) (oi := _) (v := undef) rfl (by kernel_rfl) (by kernel_rfl) (by kernel_rfl) (fun _ _ _ h => h) (Or.inr ⟨by rfl, rfl⟩) (by assumption) ?_
                  (try simp only [Act.put, List.setIfInBounds_toArray, List.set_cons_zero, List.set_cons_succ, List.getElem_toArray, List.getElem_cons_zero, List.getElem_cons_succ])
                  refine wpAnyH_take (i := 36) (oi := _) (v := ?_) rfl (by kernel_rfl) (by kernel_rfl) (by kernel_rfl) (fun _ _ _ h => h) (Or.inl ⟨by rfl, ?_⟩) (by assumption) ?_
                  rotate_left
                  · intro w hSw
                    try dsimp only at hSw
                    go_simp
                    try with_reducible rfl
                  (try simp only [Act.put, List.setIfInBounds_toArray, List.set_cons_zero, List.set_cons_succ, List.getElem_toArray, List.getElem_cons_zero, List.getElem_cons_succ])
                  refine wpAnyH_done (by kernel_rfl) ?_ _
                  go_wp2_with fail
                  go_meet
                  case rel => exact ⟨M, _, _, HI5.out, HF.out, HN.out, by omega⟩
                · have HE := Lib.hid hE
                  clear hE
                  have HId := Lib.hid (HI.out.below (Below.refl _ wr).drew)
                  clear HI
                  go_wp2_with fail
                  refine wp_region_held_drew (S := (fun W => W.cell? (a.add (k * 5)) = some (.int .i64 1) ∧ W.cell? ⟨(a.add (k * 5)).block, (a.add (k * 5)).off + 1, none⟩ = some (.int .i64 I) ∧ W.cell? ⟨(a.add (k * 5)).block, (a.add (k * 5)).off + 2, none⟩ = some (.int .i64 KK) ∧ W.cell? ⟨(a.add (k * 5)).block, (a.add (k * 5)).off + 3, none⟩ = some (str s) ∧ W.cell? ⟨(a.add (k * 5)).block, (a.add (k * 5)).off + 4, none⟩ = some (.bool raw))) (by kernel_rfl) (by exact ⟨d0, d1, d2, d3, d4⟩) (fun hHeld => ?_)
                  refine wpAnyH_take (i := 0) (oi := _) (v := ?_) rfl (by kernel_rfl) (by kernel_rfl) (by kernel_rfl) (fun _ _ _ h => h) (Or.inl ⟨by rfl, ?_⟩) (by assumption) ?_
                  rotate_left
                  · intro w hSw
                    try dsimp only at hSw
                    go_simp
                    try with_reducible rfl
                  (try simp only [Act.put, List.setIfInBounds_toArray, List.set_cons_zero, List.set_cons_succ, List.getElem_toArray, List.getElem_cons_zero, List.getElem_cons_succ])
                  refine wpAnyH_take (i := 1) (oi := _) (v := ?_) rfl (by kernel_rfl) (by kernel_rfl) (by kernel_rfl) (fun _ _ _ h => h) (Or.inl ⟨by rfl, ?_⟩) (by assumption) ?_
                  rotate_left
                  · intro w hSw
                    try dsimp only at hSw
                    go_simp
                    try with_reducible rfl
                  (try simp only [Act.put, List.setIfInBounds_toArray, List.set_cons_zero, List.set_cons_succ, List.getElem_toArray, List.getElem_cons_zero, List.getElem_cons_succ])
                  refine wpAnyH_take (i := 2) (oi := _) (v := ?_) rfl (by kernel_rfl) (by kernel_rfl) (by kernel_rfl) (fun _ _ _ h => h) (Or.inl ⟨by rfl, ?_⟩) (by assumption) ?_
                  rotate_left
                  · intro w hSw
                    try dsimp only at hSw
                    go_simp
                    try with_reducible rfl
                  (try simp only [Act.put, List.setIfInBounds_toArray, List.set_cons_zero, List.set_cons_succ, List.getElem_toArray, List.getElem_cons_zero, List.getElem_cons_succ])
                  refine wpAnyH_take (i := 3) (oi := _) (v := ?_) rfl (by kernel_rfl) (by kernel_rfl) (by kernel_rfl) (fun _ _ _ h => h) (Or.inl ⟨by rfl, ?_⟩) (by assumption) ?_
                  rotate_left
                  · intro w hSw
                    try dsimp only at hSw
                    go_simp
                    try with_reducible rfl
                  (try simp only [Act.put, List.setIfInBounds_toArray, List.set_cons_zero, List.set_cons_succ, List.getElem_toArray, List.getElem_cons_zero, List.getElem_cons_succ])
                  refine wpAnyH_take (i := 4) (oi := _) (v := ?_) rfl (by kernel_rfl) (by kernel_rfl) (by kernel_rfl) (fun _ _ _ h => h) (Or.inl ⟨by rfl, ?_⟩) (by assumption) ?_
                  rotate_left
                  · intro w hSw
                    try dsimp only at hSw
                    go_simp
                    try with_reducible rfl
                  (try simp only [Act.put, List.setIfInBounds_toArray, List.set_cons_zero, List.set_cons_succ, List.getElem_toArray, List.getElem_cons_zero, List.getElem_cons_succ])
                  refine wpAnyH_take (i := 5) (oi := _) (v := ?_) rfl (by kernel_rfl) (by kernel_rfl) (by kernel_rfl) (fun _ _ _ h => h) (Or.inl ⟨by rfl, ?_⟩) (by assumption) ?_
                  rotate_left
                  · intro w hSw
                    try dsimp only at hSw
                    go_simp
                    try with_reducible rfl
                  (try simp only [Act.put, List.setIfInBounds_toArray, List.set_cons_zero, List.set_cons_succ, List.getElem_toArray, List.getElem_cons_zero, List.getElem_cons_succ])
                  refine wpAnyH_take (i := 6) (oi := _) (v := ?_) rfl (by kernel_rfl) (by kernel_rfl) (by kernel_rfl) (fun _ _ _ h => h) (Or.inl ⟨by rfl, ?_⟩) (by assumption) ?_
                  rotate_left
                  · intro w hSw
                    try dsimp only at hSw
                    go_simp
                    try with_reducible rfl
                  (try simp only [Act.put, List.setIfInBounds_toArray, List.set_cons_zero, List.set_cons_succ, List.getElem_toArray, List.getElem_cons_zero, List.getElem_cons_succ])
                  refine wpAnyH_ready (rs := [7]) (by kernel_rfl) (by simp) ?_
                  refine AllReadyH.cons (o := _) rfl (fun K hK => ?_) AllReadyH.nil
                  go_simp
                  go_at_call 12
                  have c := cr_back HId.out (by omega) I KK
                  rw [HE.out, HW.out] at c
                  with_reducible refine c.mono ?_
                  clear c
                  rintro e w5 ⟨rfl, hH⟩
                  have HI5 := Lib.hid hH
                  clear hH HId
                  obtain ⟨p0, p1, p2, p3, p4⟩ := HX.out.keep HI5.out.keep
                  refine hK _ _ (by exact ⟨p0, p1, p2, p3, p4⟩) (fun hHeld => ?_)
                  clear hK K
                  (try simp only [Act.put, List.setIfInBounds_toArray, List.set_cons_zero, List.set_cons_succ, List.getElem_toArray, List.getElem_cons_zero, List.getElem_cons_succ])
                  refine wpAnyH_take (i := 8) (oi := _) (v := ?_) rfl (by kernel_rfl) (by kernel_rfl) (by kernel_rfl) (fun _ _ _ h => h) (Or.inl ⟨by rfl, ?_⟩) (by assumption) ?_
                  rotate_left
                  · intro w hSw
                    try dsimp only at hSw
                    go_simp
                    try with_reducible rfl
                  (try simp only [Act.put, List.setIfInBounds_toArray, List.set_cons_zero, List.set_cons_succ, List.getElem_toArray, List.getElem_cons_zero, List.getElem_cons_succ])
                  refine wpAnyH_take (i := 9) (oi := _) (v := ?_) rfl (by kernel_rfl) (by kernel_rfl) (by kernel_rfl) (fun _ _ _ h => h) (Or.inl ⟨by rfl, ?_⟩) (by assumption) ?_
                  rotate_left
                  · intro w hSw
                    try dsimp only at hSw
                    go_simp
                    try with_reducible rfl
                  (try simp only [Act.put, List.setIfInBounds_toArray, List.set_cons_zero, List.set_cons_succ, List.getElem_toArray, List.getElem_cons_zero, List.getElem_cons_succ])
                  refine wpAnyH_take (i := 10) (oi := _) (v := undef) rfl (by kernel_rfl) (by kernel_rfl) (by kernel_rfl) (fun _ _ _ h => h) (Or.inr ⟨by rfl, rfl⟩) (by assumption) ?_
                  (try simp only [Act.put, List.setIfInBounds_toArray, List.set_cons_zero, List.set_cons_succ, List.getElem_toArray, List.getElem_cons_zero, List.getElem_cons_succ])
                  refine wpAnyH_take (i := 11) (oi := _) (v := undef) rfl (by kernel_rfl) (by kernel_rfl) (by kernel_rfl) (fun _ _ _ h => h) (Or.inr ⟨by rfl, rfl⟩) (by assumption) ?_
                  (try simp only [Act.put, List.setIfInBounds_toArray, List.set_cons_zero, List.set_cons_succ, List.getElem_toArray, List.getElem_cons_zero, List.getElem_cons_succ])
                  refine wpAnyH_take (i := 12) (oi := _) (v := ?_) rfl (by kernel_rfl) (by kernel_rfl) (by kernel_rfl) (fun _ _ _ h => h) (Or.inl ⟨by rfl, ?_⟩) (by assumption) ?_
                  rotate_left
                  · intro w hSw
                    try dsimp only at hSw
                    go_simp
                    try with_reducible rfl
                  (try simp only [Act.put, List.setIfInBounds_toArray, List.set_cons_zero, List.set_cons_succ, List.getElem_toArray, List.getElem_cons_zero, List.getElem_cons_succ])
                  refine wpAnyH_take (i := 13) (oi := _) (v := ?_) rfl (by kernel_rfl) (by kernel_rfl) (by kernel_rfl) (fun _ _ _ h => h) (Or.inl ⟨by rfl, ?_⟩) (by assumption) ?_
                  rotate_left
                  · intro w hSw
                    try dsimp only at hSw
                    go_simp
                    try with_reducible rfl
                  (try simp only [Act.put, List.setIfInBounds_toArray, List.set_cons_zero, List.set_cons_succ, List.getElem_toArray, List.getElem_cons_zero, List.getElem_cons_succ])
                  refine wpAnyH_take (i := 14) (oi := _) (v := undef) rfl (by kernel_rfl) (by kernel_rfl) (by kernel_rfl) (fun _ _ _ h => h) (Or.inr ⟨by rfl, rfl⟩) (by assumption) ?_
                  (try simp only [Act.put, List.setIfInBounds_toArray, List.set_cons_zero, List.set_cons_succ, List.getElem_toArray, List.getElem_cons_zero, List.getElem_cons_succ])
                  refine wpAnyH_take (i := 15) (oi := _) (v := undef) rfl (by kernel_rfl) (by kernel_rfl) (by kernel_rfl) (fun _ _ _ h => h) (Or.inr ⟨by rfl, rfl⟩) (by assumption) ?_
                  (try simp only [Act.put, List.setIfInBounds_toArray, List.set_cons_zero, List.set_cons_succ, List.getElem_toArray, List.getElem_cons_zero, List.getElem_cons_succ])
                  refine wpAnyH_take (i := 16) (oi := _) (v := ?_) rfl (by kernel_rfl) (by kernel_rfl) (by kernel_rfl) (fun _ _ _ h => h) (Or.inl ⟨by rfl, ?_⟩) (by assumption) ?_
                  rotate_left
                  · intro w hSw
                    try dsimp only at hSw
                    go_simp
                    try with_reducible rfl
                  (try simp only [Act.put, List.setIfInBounds_toArray, List.set_cons_zero, List.set_cons_succ, List.getElem_toArray, List.getElem_cons_zero, List.getElem_cons_succ])
                  refine wpAnyH_take (i := 17) (oi := _) (v := ?_) rfl (by kernel_rfl) (by kernel_rfl) (by kernel_rfl) (fun _ _ _ h => h) (Or.inl ⟨by rfl, ?_⟩) (by assumption) ?_
                  rotate_left
                  · intro w hSw
                    try dsimp only at hSw
                    go_simp
                    try with_reducible rfl
                  (try simp only [Act.put, List.setIfInBounds_toArray, List.set_cons_zero, List.set_cons_succ, List.getElem_toArray, List.getElem_cons_zero, List.getElem_cons_succ])
                  refine wpAnyH_take (i := 18) (oi := _) (v := undef) rfl (by kernel_rfl) (by kernel_rfl) (by kernel_rfl) (fun _ _ _ h => h) (Or.inr ⟨by rfl, rfl⟩) (by assumption) ?_
                  (try simp only [Act.put, List.setIfInBounds_toArray, List.set_cons_zero, List.set_cons_succ, List.getElem_toArray, List.getElem_cons_zero, List.getElem_cons_succ])
                  refine wpAnyH_take (i := 19) (oi := _) (v := undef) rfl (by kernel_rfl) (by kernel_rfl) (by kernel_rfl) (fun _ _ _ h => h) (Or.inr ⟨by rfl, rfl⟩) (by assumption) ?_
                  (try simp only [Act.put, List.setIfInBounds_toArray, List.set_cons_zero, List.set_cons_succ, List.getElem_toArray, List.getElem_cons_zero, List.getElem_cons_succ])
                  refine wpAnyH_take (i := 20) (oi := _) (v := undef) rfl (by kernel_rfl) (by kernel_rfl) (by kernel_rfl) (fun _ _ _ h => h) (Or.inr ⟨by rfl, rfl⟩) (by assumption) ?_
                  (try simp only [Act.put, List.setIfInBounds_toArray, List.set_cons_zero, List.set_cons_succ, List.getElem_toArray, List.getElem_cons_zero, List.getElem_cons_succ])
                  refine wpAnyH_take (i := 21) (oi := _) (v := undef) rfl (by kernel_rfl) (by kernel_rfl) (by kernel_rfl) (fun _ _ _ h => h) (Or.inr ⟨by rfl, rfl⟩) (by assumption) ?_
                  (try simp only [Act.put, List.setIfInBounds_toArray, List.set_cons_zero, List.set_cons_succ, List.getElem_toArray, List.getElem_cons_zero, List.getElem_cons_succ])
                  refine wpAnyH_take (i := 22) (oi := _) (v := undef) rfl (by kernel_rfl) (by kernel_rfl) (by kernel_rfl) (fun _ _ _ h => h) (Or.inr ⟨by rfl, rfl⟩) (by assumption) ?_
                  (try simp only [Act.put, List.setIfInBounds_toArray, List.set_cons_zero, List.set_cons_succ, List.getElem_toArray, List.getElem_cons_zero, List.getElem_cons_succ])
                  refine wpAnyH_take (i := 23) (oi := _) (v := undef) rfl (by kernel_rfl) (by kernel_rfl) (by kernel_rfl) (fun _ _ _ h => h) (Or.inr ⟨by rfl, rfl⟩) (by assumption) ?_
                  (try simp only [Act.put, List.setIfInBounds_toArray, List.set_cons_zero, List.set_cons_succ, List.getElem_toArray, List.getElem_cons_zero, List.getElem_cons_succ])
                  refine wpAnyH_take (i := 24) (oi := _) (v := ?_) rfl (by kernel_rfl) (by kernel_rfl) (by kernel_rfl) (fun _ _ _ h => h) (Or.inl ⟨by rfl, ?_⟩) (by assumption) ?_
                  rotate_left
                  · intro w hSw
                    try dsimp only at hSw
                    go_simp
                    try with_reducible rfl
                  (try simp only [Act.put, List.setIfInBounds_toArray, List.set_cons_zero, List.set_cons_succ, List.getElem_toArray, List.getElem_cons_zero, List.getElem_cons_succ])
                  refine wpAnyH_take (i := 25) (oi := _) (v := ?_) rfl (by kernel_rfl) (by kernel_rfl) (by kernel_rfl) (fun _ _ _ h => h) (Or.inl ⟨by rfl, ?_⟩) (by assumption) ?_
                  rotate_left
                  · intro w hSw
                    try dsimp only at hSw
                    go_simp
                    try with_reducible rfl
                  (try simp only [Act.put, List.setIfInBounds_toArray, List.set_cons_zero, List.set_cons_succ, List.getElem_toArray, List.getElem_cons_zero, List.getElem_cons_succ])
                  refine wpAnyH_take (i := 26) (oi := _) (v := undef) rfl (by kernel_rfl) (by kernel_rfl) (by kernel_rfl) (fun _ _ _ h => h) (Or.inr ⟨by rfl, rfl⟩) (by assumption) ?_
                  (try simp only [Act.put, List.setIfInBounds_toArray, List.set_cons_zero, List.set_cons_succ, List.getElem_toArray, List.getElem_cons_zero, List.getElem_cons_succ])
                  refine wpAnyH_take (i := 27) (oi := _) (v := undef) rfl (by kernel_rfl) (by kernel_rfl) (by kernel_rfl) (fun _ _ _ h => h) (Or.inr ⟨by rfl, rfl⟩) (by assumption) ?_
                  (try simp only [Act.put, List.setIfInBounds_toArray, List.set_cons_zero, List.set_cons_succ, List.getElem_toArray, List.getElem_cons_zero, List.getElem_cons_succ])
                  refine wpAnyH_take (i := 28) (oi := _) (v := undef) rfl (by kernel_rfl) (by kernel_rfl) (by kernel_rfl) (fun _ _ _ h => h) (Or.inr ⟨by rfl, rfl⟩) (by assumption) ?_
                  (try simp only [Act.put, List.setIfInBounds_toArray, List.set_cons_zero, List.set_cons_succ, List.getElem_toArray, List.getElem_cons_zero, List.getElem_cons_succ])
                  refine wpAnyH_take (i := 29) (oi := _) (v := undef) rfl (by kernel_rfl) (by kernel_rfl) (by kernel_rfl) (fun _ _ _ h => h) (Or.inr ⟨by rfl, rfl⟩) (by assumption) ?_
                  (try simp only [Act.put, List.setIfInBounds_toArray, List.set_cons_zero, List.set_cons_succ, List.getElem_toArray, List.getElem_cons_zero, List.getElem_cons_succ])
                  refine wpAnyH_take (i := 30) (oi := _) (v := undef) rfl (by kernel_rfl) (by kernel_rfl) (by kernel_rfl) (fun _ _ _ h => h) (Or.inr ⟨by rfl, rfl⟩) (by assumption) ?_
                  (try simp only [Act.put, List.setIfInBounds_toArray, List.set_cons_zero, List.set_cons_succ, List.getElem_toArray, List.getElem_cons_zero, List.getElem_cons_succ])
                  refine wpAnyH_take (i := 31) (oi := _) (v := undef) rfl (by kernel_rfl) (by kernel_rfl) (by kernel_rfl) (fun _ _ _ h => h) (Or.inr ⟨by rfl, rfl⟩) (by assumption) ?_
                  (try simp only [Act.put, List.setIfInBounds_toArray, List.set_cons_zero, List.set_cons_succ, List.getElem_toArray, List.getElem_cons_zero, List.getElem_cons_succ])
                  refine wpAnyH_take (i := 32) (oi := _) (v := undef) rfl (by kernel_rfl) (by kernel_rfl) (by kernel_rfl) (fun _ _ _ h => h) (Or.inr ⟨by rfl, rfl⟩) (by assumption) ?_
                  (try simp only [Act.put, List.setIfInBounds_toArray, List.set_cons_zero, List.set_cons_succ, List.getElem_toArray, List.getElem_cons_zero, List.getElem_cons_succ])
                  refine wpAnyH_take (i := 33) (oi := _) (v := undef) rfl (by kernel_rfl) (by kernel_rfl) (by kernel_rfl) (fun _ _ _ h => h) (Or.inr ⟨by rfl, rfl⟩) (by assumption) ?_
                  (try simp only [Act.put, List.setIfInBounds_toArray, List.set_cons_zero, List.set_cons_succ, List.getElem_toArray, List.getElem_cons_zero, List.getElem_cons_succ])
                  refine wpAnyH_take (i := 34) (oi := _) (v := undef) rfl (by kernel_rfl) (by kernel_rfl) (by kernel_rfl) (fun _ _ _ h => h) (Or.inr ⟨by rfl, rfl⟩) (by assumption) ?_
                  (try simp only [Act.put, List.setIfInBounds_toArray, List.set_cons_zero, List.set_cons_succ, List.getElem_toArray, List.getElem_cons_zero, List.getElem_cons_succ])
                  refine wpAnyH_take (i := 35) (oi := _) (v := undef) rfl (by kernel_rfl) (by kernel_rfl) (by kernel_rfl) (fun _ _ _ h => h) (Or.inr ⟨by rfl, rfl⟩) (by assumption) ?_
                  (try simp only [Act.put, List.setIfInBounds_toArray, List.set_cons_zero, List.set_cons_succ, List.getElem_toArray, List.getElem_cons_zero, List.getElem_cons_succ])
                  refine wpAnyH_take (i := 36) (oi := _) (v := ?_) rfl (by kernel_rfl) (by kernel_rfl) (by kernel_rfl) (fun _ _ _ h => h) (Or.inl ⟨by rfl, ?_⟩) (by assumption) ?_
                  rotate_left
                  · intro w hSw
                    try dsimp only at hSw
                    go_simp
                    try with_reducible rfl
                  (try simp only [Act.put, List.setIfInBounds_toArray, List.set_cons_zero, List.set_cons_succ, List.getElem_toArray, List.getElem_cons_zero, List.getElem_cons_succ])
                  refine wpAnyH_done (by kernel_rfl) ?_ _
                  go_wp2_with fail
                  go_meet
                  case rel => exact ⟨M, _, _, HI5.out, HF.out, HN.out, by omega⟩
            by_cases h3 : op = 3
            · subst h3
              clear h0 h1
              by_cases hneg : KK < 0
              · go_wp2_with fail
                refine (fuse_neg _ KK hneg _ b rfl).mono ?_
                rintro e w5 ⟨rfl, rfl⟩
                go_wp2_with fail
                go_meet
                case rel => exact ⟨M, _, _, HI.out, HF.out, HN.out, by omega⟩
              · obtain ⟨K0, rfl⟩ : ∃ K0 : Nat, KK = (K0 : Int) := ⟨KK.toNat, by omega⟩
                go_wp2_with fail
                refine (cr_fuse HI.out K0 (by omega)).mono ?_
                rintro e w5 ⟨rfl, hH⟩
                have HI5 := Lib.hid hH
                clear hH HI
                go_wp2_with fail
                go_meet
                case rel => exact ⟨M.fuse K0, _, _, HI5.out, (fun j hj => by rw [was_fuse]; exact HF.out j hj), HN.out, by show M.wr ≤ _; omega⟩
            go_wp2_with fail
            go_meet
            case rel => exact ⟨M, _, _, HI.out, HF.out, HN.out, by omega⟩
        · obtain rfl : k = l.length := by omega
          have hne : ∀ i, i < 16 → F i ≠ [] := fun i hi => by rw [HF.out i hi]; exact List.cons_ne_nil _ _
          have HWas := Lib.hid (HI.out.was hne)
          have HD := Lib.hid HI.out.devs
          have HB0 := Lib.hid HI.out.keep.all
          have HFi := Lib.hid (HI.out.dev.elim fun S h => h.1.fine)
          clear HI hne
          go_wp2_with fail
          refine (devs_copy HD.out 0 (ds' := fun b' => [(b, M), (b', M)]) rfl (fun _ => rfl) (by rw [HN.out]; decide) (by omega)).mono ?_
          rintro e x1 ⟨b1, rfl, hD, hb⟩
          clear HD hb
          have HD := Lib.hid hD
          clear hD
          go_wp2_with fail
          refine (devs_copy HD.out 0 (ds' := fun b' => [(b, M), (b1, M), (b', M)]) rfl (fun _ => rfl) (by rw [HN.out]; decide) (by omega)).mono ?_
          rintro e x2 ⟨b2, rfl, hD, hb⟩
          clear HD hb
          have HD := Lib.hid hD
          clear hD
          go_wp2_with fail
          refine (devs_copy HD.out 0 (ds' := fun b' => [(b, M), (b1, M), (b2, M), (b', M)]) rfl (fun _ => rfl) (by rw [HN.out]; decide) (by omega)).mono ?_
          rintro e x3 ⟨b3, rfl, hD, hb⟩
          clear HD hb
          have HD := Lib.hid hD
          clear hD
          go_wp2_with fail
          refine (devs_loose HD.out 0 rfl).mono ?_
          rintro e x4 ⟨v, rfl, ⟨A2, c2, rfl, hrow⟩, hk4, hD, -, hb⟩
          have HRow := Lib.hid hrow
          have HWas4 := Lib.hid (HWas.out.keep hk4 (fun k hk => hk))
          have HB4 := Lib.hid (HB0.out.trans (hk4.belowK (fun k hk => .inl hk)))
          clear hrow hk4 HD HWas HB0 hb
          have hll : M.loose.length ≤ 16 := Nat.le_trans M.loose_len (Nat.le_of_eq HN.out)
          have hal : ∀ k, (M.all k).length ≤ 16 := fun k => Nat.le_trans (M.all_len k) (Nat.le_of_eq HN.out)
          have HAL := Lib.hid hal
          clear hal
          have HD := Lib.hid hD
          clear hD
          rw [List.length_map]
          go_wp2_with fail
          go_loopw [14, 16] (fun s ix wr => ∃ k : Nat, k ≤ M.loose.length ∧ s = str (M.all k) ∧ ix = .int .i64 k ∧ Devs (fun k => WasK w wb vs k ∨ (Value.slice A2 (M.loose.map encI).length c2).ownBlock = some k) x4 wr [(b, M), (b1, M), (b2, M), (b3, M)]) (fun _ ix _ => M.loose.length - (intOf ix).toNat)
          case atStart => exact ⟨0, Nat.zero_le _, rfl, rfl, HD.out⟩
          case round =>
            clear HD
            obtain ⟨k, hk, rfl, rfl, hD⟩ := hrel
            have HD := Lib.hid hD
            clear hD
            by_cases hlt : k < M.loose.length
            · obtain ⟨g2, rfl, hcell⟩ := HRow.out k (encI M.loose[k]) (by rw [List.getElem?_map, List.getElem?_eq_getElem hlt]; rfl)
              have hcw := (cell_same k (HD.out.keeps.same g2 (.inr rfl))).trans hcell
              have hs := Dv.all_succ M k hlt
              have hm := (Dv.mem_loose.1 (List.getElem_mem hlt)).1
              generalize M.loose[k] = i0 at hs hm hcw
              unfold encI at hcw
              have hr := HFi.out.rows i0
              have hcv := fun W n g hg => conv_one (P := Try.prog) 47 9 5 Try.underlying47 Try.underlying5 Try.underlying9 W n g hg
              have HS := Lib.hid hs
              have hal := HAL.out k
              clear hs hcell
              go_wp2_with fail
              refine (devs_cached HD.out 0 rfl i0 hm).mono ?_
              rintro e x5 ⟨rfl, rfl⟩
              generalize (M.row i0).length = n0 at hr HS
              have hw8 : IntKind.u8.wrap (n0 : Int) = (n0 : Int) := u8_wrap _ (by omega) (by omega)
              go_wp2_with fail
              go_roundw
              case rel => exact ⟨k + 1, by omega, by rw [HS.out], by simp, HD.out.below ((Below.refl _ _).alloc (Nat.le_refl _) _)⟩
              case measure => simp [intOf]; omega
            · obtain rfl : k = M.loose.length := by omega
              have hal := HAL.out M.loose.length
              go_wp2_with fail
              refine (devs_crash HD.out 1 (ds' := [(b, M), (b1, M.crash []), (b2, M), (b3, M)]) [] rfl rfl (by omega) (by simp)).mono ?_
              rintro e x5 ⟨rfl, hD⟩
              clear HD
              have HD := Lib.hid hD
              clear hD
              go_wp2_with fail
              refine (devs_crash HD.out 2 (ds' := [(b, M), (b1, M.crash []), (b2, M.crash (M.all M.loose.length)), (b3, M)]) _ rfl rfl (by omega) (by omega)).mono ?_
              rintro e x6 ⟨rfl, hD⟩
              clear HD
              have HD := Lib.hid hD
              clear hD
              go_wp2_with fail
              refine (devs_crash HD.out 3 (ds' := [(b, M), (b1, M.crash []), (b2, M.crash (M.all M.loose.length)), (b3, M.crash keep)]) _ rfl rfl (by omega) (by omega)).mono ?_
              rintro e x7 ⟨rfl, hD⟩
              clear HD
              have HD := Lib.hid hD
              clear hD
              go_wp2_with fail
              have hRr : ∀ i, (M.row i).length < 256 := fun i => by have := HFi.out.rows i; omega
              have HRr := Lib.hid hRr
              clear hRr HRow hal
              go_loopw [17] (fun ix wr => ∃ i : Nat, i ≤ 16 ∧ ix = .int .i64 i ∧ Devs (fun k => WasK w wb vs k ∨ (Value.slice A2 (M.loose.map encI).length c2).ownBlock = some k) x4 wr [(b, M), (b1, M.crash []), (b2, M.crash (M.all M.loose.length)), (b3, M.crash keep)]) (fun ix _ => 16 - (intOf ix).toNat)
              case atStart => exact ⟨0, by omega, rfl, HD.out⟩
              case round =>
                clear HD
                obtain ⟨i, hi, rfl, hD⟩ := hrel
                have HD := Lib.hid hD
                clear hD
                by_cases hlt : i < 16
                · have hin : i < M.n := by rw [HN.out]; exact hlt
                  go_wp2_with fail
                  have c := devs_read HD.out 1 rfl rfl (by show M.wr ≤ _; omega) i hin
                  rw [crash_none] at c
                  refine c.mono ?_
                  clear c
                  rintro e x8 ⟨rfl, hD⟩
                  clear HD
                  have HD := Lib.hid hD
                  clear hD
                  go_wp2_with fail
                  have c := devs_read HD.out 2 rfl rfl (by show M.wr ≤ _; omega) i hin
                  rw [crash_full M HFi.out HRr.out] at c
                  refine c.mono ?_
                  clear c
                  rintro e x9 ⟨rfl, hD⟩
                  clear HD
                  have HD := Lib.hid hD
                  clear hD
                  go_wp2_with fail
                  have hmem := crash_one M keep i
                  have c := devs_read HD.out 3 rfl rfl (by show M.wr ≤ _; omega) i hin
                  generalize (M.crash keep).cur i = c0 at hmem c
                  rw [← HF.out i hlt] at hmem
                  refine c.mono ?_
                  clear c
                  rintro e x10 ⟨rfl, hD⟩
                  clear HD
                  have HD := Lib.hid hD
                  clear hD
                  obtain ⟨g, cap, ha, hp, h0, hl2, hcells⟩ := (HWas4.out.keep HD.out.keeps (fun k hk => .inl hk)).facts i hlt (HF.out i hlt)
                  have HCs := Lib.hid hcells
                  have HMem := Lib.hid hmem
                  have hFl : (F i).length ≤ 1048576 := by rw [HF.out i hlt]; have := HFi.out.rows i; show (M.row i).length + 1 ≤ _; omega
                  clear hcells hmem
                  go_wp2_with fail
                  go_quiet (fail)
                  have HD2 := Lib.hid (HD.out.below (below_drewN (Below.refl _ _) nq))
                  have ha2 : (x10.drewN nq).cell? ⟨wb, i, none⟩ = some (.slice (some ⟨g, 0, none⟩) (F i).length cap) := ha
                  have HC2 := Lib.hid (show ∀ j (hj : j < (F i).length), (x10.drewN nq).cell? ⟨g, j, none⟩ = some (str (F i)[j]) from HCs.out)
                  generalize x10.drewN nq = x11 at HD2 ha2 HC2 ⊢
                  clear HD ha h0 hl2 HCs
                  go_wp2_with fail
                  go_loop [24, 25] (fun s24 s25 => ∃ j : Nat, j ≤ (F i).length ∧ s24 = .bool (((F i).take j).contains c0) ∧ s25 = .int .i64 j) (fun _ s25 => (F i).length - (intOf s25).toNat)
                  case atStart => exact ⟨0, Nat.zero_le _, rfl, rfl⟩
                  case round =>
                    obtain ⟨j, hj, rfl, rfl⟩ := hrel
                    by_cases hlt2 : j < (F i).length
                    · have hcj := HC2.out j hlt2
                      have hst := contains_step (F i) c0 j hlt2
                      generalize ((F i).take j).contains c0 = q at hst ⊢
                      generalize (F i)[j] = y at hcj hst
                      cases q
                      · have HSt := Lib.hid hst
                        clear hst
                        go_wp2_with fail
                        go_round
                        case rel => exact ⟨j + 1, by omega, by rw [HSt.out, Bool.false_or]; exact congrArg Value.bool (Bool.eq_iff_iff.2 (by simp only [beq_iff_eq]; exact eq_comm)), by simp⟩
                        case measure => simp [intOf]; omega
                      · have HSt := Lib.hid hst
                        clear hst
                        go_wp2_with fail
                        go_round
                        case rel => exact ⟨j + 1, by omega, by rw [HSt.out]; simp, by simp⟩
                        case measure => simp [intOf]; omega
                    · obtain rfl : j = (F i).length := by omega
                      rw [contains_end _ _ HMem.out]
                      go_wp2_with fail
                      go_roundw
                      case rel => exact ⟨i + 1, by omega, by simp, HD2.out⟩
                      case measure => simp [intOf]; omega
                · obtain rfl : i = 16 := by omega
                  go_wp2_with fail
                  refine (sector_any [111, 110] _ (by decide)).mono ?_
                  rintro e x8 ⟨rfl, hb⟩
                  have HD2 := Lib.hid (HD.out.below hb)
                  clear hb HD
                  go_wp2_with fail
                  have hE := wrote_on (M.crash keep) (by show 0 < M.n; rw [HN.out]; decide) rfl (secOf [111, 110]) (secOf_len _)
                  have c := devs_write HD2.out 3 0 (secOf [111, 110]) rfl rfl (by show M.wr < _; omega)
                  rw [hE] at c
                  refine c.mono ?_
                  clear c hE
                  rintro e x9 ⟨rfl, hD⟩
                  clear HD2
                  have HD := Lib.hid hD
                  clear hD
                  go_wp2_with fail
                  have c := devs_loose HD.out 1 rfl
                  rw [crash_loose] at c
                  refine c.mono ?_
                  clear c
                  rintro e x11 ⟨v, rfl, ⟨A3, c3, rfl, -⟩, hk, -, hD, -⟩
                  clear HD
                  have HB := Lib.hid (HB4.out.trans (hD.keeps.belowK (fun k hk => .inl (.inl hk))))
                  clear hk hD
                  go_wp2_with fail
                  refine (alive_any _).mono ?_
                  rintro e x12 ⟨rfl, hb⟩
                  go_wp2_with fail
                  go_ret
                  exact ⟨rfl, HB.out.trans (hb.mono HB.out.size)⟩
theorem walk_DevCrash (W : World) (v : Value) (l : List St) (a1 : ByteArray) (hv : Steps W v l) (hs : ∀ x ∈ l, fineStep x) (hl : l.length ≤ maxLen) (z1 : a1.size ≤ 140737488351232) :
    Calls Try.prog 4 #[v, .string a1] W fun e w' => e = .returned (.bool true) ∧ Below W.heap.size W w' := by
  rw [str_of a1]
  exact walk_DevCrash' a1.data.toList (by simpa using z1) v l W hv hs hl
end Go.Proofs.Ytoogedjeclcdbaa
