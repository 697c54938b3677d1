/- Layer 3 (dev): DevLast, walked. -/
import Derived.Test.YtoogedjeclcdbaaDev17
import Derived.Test.YtoogedjeclcdbaaDevArgs
import Derived.Deep.RegionHeld3
namespace Go.Proofs.Ytoogedjeclcdbaa
open Go.RowKit Go.Maps
set_option linter.unusedVariables false
set_option linter.unusedSimpArgs false
/-- Step k of a script that lies at a. -/
structure StepC (W : World) (a : Addr) (k : Nat) (x : St) : Prop where
  c0 : W.cell? (a.add (k * 5)) = some (.int .i64 x.op)
  c1 : W.cell? ⟨(a.add (k * 5)).block, (a.add (k * 5)).off + 1, none⟩ = some (.int .i64 x.at_)
  c2 : W.cell? ⟨(a.add (k * 5)).block, (a.add (k * 5)).off + 2, none⟩ = some (.int .i64 x.num)
  c3 : W.cell? ⟨(a.add (k * 5)).block, (a.add (k * 5)).off + 3, none⟩ = some (str x.s)
  c4 : W.cell? ⟨(a.add (k * 5)).block, (a.add (k * 5)).off + 4, none⟩ = some (.bool x.raw)
theorem Keeps.cellAt {w W : World} (h : Keeps (All w) w W) {p : Addr} {v : Value} (hc : w.cell? p = some v) : W.cell? p = some v := (h.all.cell (World.block_lt_of_cell? w _ hc)).trans hc
theorem StepC.keep {w W : World} {a : Addr} {k : Nat} {x : St} (h : StepC w a k x) (hk : Keeps (All w) w W) : StepC W a k x :=
  ⟨hk.cellAt h.c0, hk.cellAt h.c1, hk.cellAt h.c2, hk.cellAt h.c3, hk.cellAt h.c4⟩
set_option maxRecDepth 100000 in
set_option maxHeartbeats 4000000 in
theorem walk_DevLast' (n : Nat) (hn : n < 256) (v : Value) (l : List St) (w : World) (hv : Steps w v l) (hs : ∀ x ∈ l, x.s.length ≤ 140737488351232) (hl : l.length ≤ maxLen) :
    Calls Try.prog 3 #[v, .int .u8 (n : Int)] w fun e w' => e = .returned (.bool true) ∧ Below w.heap.size w w' := by
  have hL := long_any v l w hv hs hl
  obtain ⟨A, c, rfl, hc⟩ := hv
  have HC := Lib.hid hc
  have HS := Lib.hid hs
  have HL := Lib.hid hL
  clear hc hs hL
  go_enter Try.func3, Try.ntmps3
  go_wp2_with fail
  refine HL.out.mono ?_
  rintro e w1 ⟨rfl, rfl⟩
  by_cases hlong : longFlag l = true
  · rw [hlong]
    go_wp2_with fail
    refine (alive_any _).mono ?_
    rintro e w1 ⟨rfl, hb⟩
    go_wp2_with fail
    go_ret
    exact ⟨rfl, hb⟩
  have hshort : l.length ≤ 150 := by
    unfold longFlag at hlong
    simp at hlong
    omega
  rw [Bool.not_eq_true] at hlong
  rw [hlong]
  clear hlong HL
  go_wp2_with fail
  refine (held_new 16 (by decide) (by decide) (Keeps.start w)).mono ?_
  rintro e w1 ⟨b, rfl, hH, _⟩
  have H1 := Lib.hid hH
  clear hH
  have hmod0 : (n : Int) % 16 = ((n % 16 : Nat) : Int) := by omega
  go_wp2_with fail
  refine (sector_any [] _ (by decide)).mono ?_
  rintro e w2 ⟨rfl, hb⟩
  have H2 := Lib.hid (H1.out.below hb)
  clear hb H1
  have hi16 : n % 16 < 16 := by omega
  try rw [hmod0]
  clear hmod0
  generalize n % 16 = i at hi16
  go_wp2_with fail
  go_loopw [8, 9] (fun last ix wr => ∃ (k : Nat) (M : Dv), k ≤ l.length ∧ last = str (M.cur i) ∧ ix = .int .i64 k ∧ Held (All w) w wr b M ∧ LastI k M) (fun _ i _ => l.length - (intOf i).toNat)
  case atStart => exact ⟨0, _, Nat.zero_le _, rfl, rfl, H2.out, LastI.start⟩
  case round =>
    obtain ⟨k, M, hk, rfl, rfl, hH, hF⟩ := hrel
    have H3 := Lib.hid hH
    have HF := Lib.hid hF
    clear hH hF
    by_cases hlt : k < l.length
    · obtain ⟨a, rfl, q0, q1, q2, q3, q4⟩ := HC.out k l[k] (List.getElem?_eq_getElem hlt)
      have HX := Lib.hid (StepC.mk q0 q1 q2 q3 q4)
      have hsl := HS.out l[k] (List.getElem_mem _)
      clear q0 q1 q2 q3 q4
      generalize l[k] = x at HX hsl
      obtain ⟨op, I, K, s, raw⟩ := x
      have ht : ∀ W, Calls Try.prog 11 #[.agg #[.int .i64 op, .int .i64 I, .int .i64 K, str s, .bool raw]] W fun e w' => e = .returned (str (St.text ⟨op, I, K, s, raw⟩)) ∧ Below W.heap.size W w' := fun W => text_any ⟨op, I, K, s, raw⟩ W hsl
      generalize St.text ⟨op, I, K, s, raw⟩ = t at ht
      have HT := Lib.hid ht
      obtain ⟨d0, d1, d2, d3, d4⟩ := HX.out.keep H3.out.keeps
      clear ht hsl
      have hwr : M.wr < 1099511627776 := by have := HF.out.wr; omega
      by_cases h0 : op = 0
      · subst h0
        have H3d := Lib.hid (H3.out.below (Below.refl _ wr).drew)
        by_cases hE : M.wroteE I t = 0
        · by_cases hI : I = (i : Int)
          · subst hI
            have hc := cur_wrote M (i : Int) t i
            rw [if_pos ⟨hE, rfl⟩] at hc
            have Hcur := Lib.hid hc
            have HE := Lib.hid hE
            have HI2 := Lib.hid (HF.out.wrote (i : Int) t)
            clear hE hc
            go_wp2_with fail
            go_region_held3 (fun W => W.cell? (a.add (k * 5)) = some (.int .i64 0) ∧ W.cell? ⟨(a.add (k * 5)).block, (a.add (k * 5)).off + 1, none⟩ = some (.int .i64 (i : Int)) ∧ W.cell? ⟨(a.add (k * 5)).block, (a.add (k * 5)).off + 2, none⟩ = some (.int .i64 K) ∧ W.cell? ⟨(a.add (k * 5)).block, (a.add (k * 5)).off + 3, none⟩ = some (str s) ∧ W.cell? ⟨(a.add (k * 5)).block, (a.add (k * 5)).off + 4, none⟩ = some (.bool raw))
              (first | exact ⟨d0, d1, d2, d3, d4⟩ | exact ⟨p0, p1, p2, p3, p4⟩ | exact ⟨r0, r1, r2, r3, r4⟩)
              (first
              | (go_at_call 11; ((with_reducible refine (HT.out _).mono ?_); rintro e w4 ⟨rfl, hb⟩; have H4 := Lib.hid (H3d.out.below hb); obtain ⟨p0, p1, p2, p3, p4⟩ := HX.out.keep H4.out.keeps))
              | (go_at_call 10; (have c := held_write H4.out hwr (i : Int) t; rw [HE.out] at c; (with_reducible refine c.mono ?_); rintro e w5 ⟨rfl, hH⟩; have HN := Lib.hid hH; obtain ⟨r0, r1, r2, r3, r4⟩ := HX.out.keep HN.out.keeps)))
            clear hb c hH p0 p1 p2 p3 p4 r0 r1 r2 r3 r4 d0 d1 d2 d3 d4
            go_wp2_with fail
            refine (HT.out _).mono ?_
            rintro e w6 ⟨rfl, hb⟩
            have HN := Lib.hid (HN.out.below hb)
            clear hb
            go_wp2_with fail
            refine (held_read HN.out HI2.out.down (by have := HI2.out.wr; omega) i (by rw [HI2.out.n]; exact hi16)).mono ?_
            rintro e w9 ⟨rfl, hH⟩
            have H9 := Lib.hid hH
            clear hH HN
            rw [Hcur.out]
            go_wp2_with fail
            go_roundw
            case rel => exact ⟨k + 1, M.wrote (i : Int) t, by omega, by rw [Hcur.out], by simp, H9.out, HI2.out⟩
            case measure => simp [intOf]; omega
          · have hc := cur_wrote M I t i
            rw [if_neg (fun h => hI h.2)] at hc
            have Hcur := Lib.hid hc
            have HE := Lib.hid hE
            have HI2 := Lib.hid (HF.out.wrote I t)
            clear hE hc
            go_wp2_with fail
            go_region_held3 (fun W => W.cell? (a.add (k * 5)) = some (.int .i64 0) ∧ W.cell? ⟨(a.add (k * 5)).block, (a.add (k * 5)).off + 1, none⟩ = some (.int .i64 I) ∧ W.cell? ⟨(a.add (k * 5)).block, (a.add (k * 5)).off + 2, none⟩ = some (.int .i64 K) ∧ W.cell? ⟨(a.add (k * 5)).block, (a.add (k * 5)).off + 3, none⟩ = some (str s) ∧ W.cell? ⟨(a.add (k * 5)).block, (a.add (k * 5)).off + 4, none⟩ = some (.bool raw))
              (first | exact ⟨d0, d1, d2, d3, d4⟩ | exact ⟨p0, p1, p2, p3, p4⟩ | exact ⟨r0, r1, r2, r3, r4⟩)
              (first
              | (go_at_call 11; ((with_reducible refine (HT.out _).mono ?_); rintro e w4 ⟨rfl, hb⟩; have H4 := Lib.hid (H3d.out.below hb); obtain ⟨p0, p1, p2, p3, p4⟩ := HX.out.keep H4.out.keeps))
              | (go_at_call 10; (have c := held_write H4.out hwr I t; rw [HE.out] at c; (with_reducible refine c.mono ?_); rintro e w5 ⟨rfl, hH⟩; have HN := Lib.hid hH; obtain ⟨r0, r1, r2, r3, r4⟩ := HX.out.keep HN.out.keeps)))
            clear hb c hH p0 p1 p2 p3 p4 r0 r1 r2 r3 r4 d0 d1 d2 d3 d4
            go_wp2_with fail
            refine (held_read HN.out HI2.out.down (by have := HI2.out.wr; omega) i (by rw [HI2.out.n]; exact hi16)).mono ?_
            rintro e w9 ⟨rfl, hH⟩
            have H9 := Lib.hid hH
            clear hH HN
            rw [Hcur.out]
            go_wp2_with fail
            go_roundw
            case rel => exact ⟨k + 1, M.wrote I t, by omega, by rw [Hcur.out], by simp, H9.out, HI2.out⟩
            case measure => simp [intOf]; omega
        · have hc := cur_wrote M I t i
          rw [if_neg (fun h => hE h.1)] at hc
          have Hcur := Lib.hid hc
          have HI2 := Lib.hid (HF.out.wrote I t)
          have hEE : M.wroteE I t = 2 := by
            unfold Dv.wroteE at hE ⊢
            rw [HF.out.down] at hE ⊢
            cases hcw : M.canWrite I t <;> simp_all
          have HE := Lib.hid hEE
          clear hE hc hEE
          go_wp2_with fail
          refine wp_region_held_drew (S := (fun W => W.cell? (a.add (k * 5)) = some (.int .i64 0) ∧ W.cell? ⟨(a.add (k * 5)).block, (a.add (k * 5)).off + 1, none⟩ = some (.int .i64 I) ∧ W.cell? ⟨(a.add (k * 5)).block, (a.add (k * 5)).off + 2, none⟩ = some (.int .i64 K) ∧ W.cell? ⟨(a.add (k * 5)).block, (a.add (k * 5)).off + 3, none⟩ = some (str s) ∧ W.cell? ⟨(a.add (k * 5)).block, (a.add (k * 5)).off + 4, none⟩ = some (.bool raw))) (by kernel_rfl) (⟨d0, d1, d2, d3, d4⟩) (fun hHeld => ?_)
          refine wpAnyH_take (i := 0) (oi := _) (v := ?_) rfl (by kernel_rfl) (by kernel_rfl) (by kernel_rfl) (fun _ _ _ h => h) (Or.inl ⟨by rfl, ?_⟩) (by assumption) ?_
          rotate_left
          · intro w hSw
            try dsimp only at hSw
            go_simp
            try with_reducible rfl
          (try simp only [Act.put, List.setIfInBounds_toArray, List.set_cons_zero, List.set_cons_succ, List.getElem_toArray, List.getElem_cons_zero, List.getElem_cons_succ])
          refine wpAnyH_take (i := 1) (oi := _) (v := ?_) rfl (by kernel_rfl) (by kernel_rfl) (by kernel_rfl) (fun _ _ _ h => h) (Or.inl ⟨by rfl, ?_⟩) (by assumption) ?_
          rotate_left
          · intro w hSw
            try dsimp only at hSw
            go_simp
            try with_reducible rfl
          (try simp only [Act.put, List.setIfInBounds_toArray, List.set_cons_zero, List.set_cons_succ, List.getElem_toArray, List.getElem_cons_zero, List.getElem_cons_succ])
          refine wpAnyH_take (i := 2) (oi := _) (v := ?_) rfl (by kernel_rfl) (by kernel_rfl) (by kernel_rfl) (fun _ _ _ h => h) (Or.inl ⟨by rfl, ?_⟩) (by assumption) ?_
          rotate_left
          · intro w hSw
            try dsimp only at hSw
            go_simp
            try with_reducible rfl
          (try simp only [Act.put, List.setIfInBounds_toArray, List.set_cons_zero, List.set_cons_succ, List.getElem_toArray, List.getElem_cons_zero, List.getElem_cons_succ])
          refine wpAnyH_take (i := 3) (oi := _) (v := ?_) rfl (by kernel_rfl) (by kernel_rfl) (by kernel_rfl) (fun _ _ _ h => h) (Or.inl ⟨by rfl, ?_⟩) (by assumption) ?_
          rotate_left
          · intro w hSw
            try dsimp only at hSw
            go_simp
            try with_reducible rfl
          (try simp only [Act.put, List.setIfInBounds_toArray, List.set_cons_zero, List.set_cons_succ, List.getElem_toArray, List.getElem_cons_zero, List.getElem_cons_succ])
          refine wpAnyH_take (i := 4) (oi := _) (v := ?_) rfl (by kernel_rfl) (by kernel_rfl) (by kernel_rfl) (fun _ _ _ h => h) (Or.inl ⟨by rfl, ?_⟩) (by assumption) ?_
          rotate_left
          · intro w hSw
            try dsimp only at hSw
            go_simp
            try with_reducible rfl
          (try simp only [Act.put, List.setIfInBounds_toArray, List.set_cons_zero, List.set_cons_succ, List.getElem_toArray, List.getElem_cons_zero, List.getElem_cons_succ])
          refine wpAnyH_take (i := 5) (oi := _) (v := ?_) rfl (by kernel_rfl) (by kernel_rfl) (by kernel_rfl) (fun _ _ _ h => h) (Or.inl ⟨by rfl, ?_⟩) (by assumption) ?_
          rotate_left
          · intro w hSw
            try dsimp only at hSw
            go_simp
            try with_reducible rfl
          (try simp only [Act.put, List.setIfInBounds_toArray, List.set_cons_zero, List.set_cons_succ, List.getElem_toArray, List.getElem_cons_zero, List.getElem_cons_succ])
          refine wpAnyH_take (i := 6) (oi := _) (v := ?_) rfl (by kernel_rfl) (by kernel_rfl) (by kernel_rfl) (fun _ _ _ h => h) (Or.inl ⟨by rfl, ?_⟩) (by assumption) ?_
          rotate_left
          · intro w hSw
            try dsimp only at hSw
            go_simp
            try with_reducible rfl
          (try simp only [Act.put, List.setIfInBounds_toArray, List.set_cons_zero, List.set_cons_succ, List.getElem_toArray, List.getElem_cons_zero, List.getElem_cons_succ])
          refine wpAnyH_take (i := 7) (oi := _) (v := ?_) rfl (by kernel_rfl) (by kernel_rfl) (by kernel_rfl) (fun _ _ _ h => h) (Or.inl ⟨by rfl, ?_⟩) (by assumption) ?_
          rotate_left
          · intro w hSw
            try dsimp only at hSw
            go_simp
            try with_reducible rfl
          (try simp only [Act.put, List.setIfInBounds_toArray, List.set_cons_zero, List.set_cons_succ, List.getElem_toArray, List.getElem_cons_zero, List.getElem_cons_succ])
          refine wpAnyH_take (i := 8) (oi := _) (v := ?_) rfl (by kernel_rfl) (by kernel_rfl) (by kernel_rfl) (fun _ _ _ h => h) (Or.inl ⟨by rfl, ?_⟩) (by assumption) ?_
          rotate_left
          · intro w hSw
            try dsimp only at hSw
            go_simp
            try with_reducible rfl
          (try simp only [Act.put, List.setIfInBounds_toArray, List.set_cons_zero, List.set_cons_succ, List.getElem_toArray, List.getElem_cons_zero, List.getElem_cons_succ])
          refine wpAnyH_take (i := 9) (oi := _) (v := ?_) rfl (by kernel_rfl) (by kernel_rfl) (by kernel_rfl) (fun _ _ _ h => h) (Or.inl ⟨by rfl, ?_⟩) (by assumption) ?_
          rotate_left
          · intro w hSw
            try dsimp only at hSw
            go_simp
            try with_reducible rfl
          (try simp only [Act.put, List.setIfInBounds_toArray, List.set_cons_zero, List.set_cons_succ, List.getElem_toArray, List.getElem_cons_zero, List.getElem_cons_succ])
          refine wpAnyH_ready (rs := [10]) (by kernel_rfl) (by simp) ?_
          refine AllReadyH.cons (o := _) rfl (fun K hK => ?_) AllReadyH.nil
          go_simp
          go_at_call 11; ((with_reducible refine (HT.out _).mono ?_); rintro e w4 ⟨rfl, hb⟩; have H4 := Lib.hid (H3d.out.below hb); obtain ⟨p0, p1, p2, p3, p4⟩ := HX.out.keep H4.out.keeps)
          refine hK.out _ _ (⟨p0, p1, p2, p3, p4⟩) (fun hHeld => ?_)
          clear hK K
          (try simp only [Act.put, List.setIfInBounds_toArray, List.set_cons_zero, List.set_cons_succ, List.getElem_toArray, List.getElem_cons_zero, List.getElem_cons_succ])
          refine wpAnyH_ready (rs := [11]) (by kernel_rfl) (by simp) ?_
          refine AllReadyH.cons (o := _) rfl (fun K hK => ?_) AllReadyH.nil
          go_simp
          go_at_call 10; (have c := held_write H4.out hwr I t; rw [HE.out] at c; (with_reducible refine c.mono ?_); rintro e w5 ⟨rfl, hH⟩; have HN := Lib.hid hH; obtain ⟨r0, r1, r2, r3, r4⟩ := HX.out.keep HN.out.keeps)
          refine hK.out _ _ (⟨r0, r1, r2, r3, r4⟩) (fun hHeld => ?_)
          clear hK K
          (try simp only [Act.put, List.setIfInBounds_toArray, List.set_cons_zero, List.set_cons_succ, List.getElem_toArray, List.getElem_cons_zero, List.getElem_cons_succ])
          refine wpAnyH_take (i := 12) (oi := _) (v := ?_) rfl (by kernel_rfl) (by kernel_rfl) (by kernel_rfl) (fun _ _ _ h => h) (Or.inl ⟨by rfl, ?_⟩) (by assumption) ?_
          rotate_left
          · intro w hSw
            try dsimp only at hSw
            go_simp
            try with_reducible rfl
          (try simp only [Act.put, List.setIfInBounds_toArray, List.set_cons_zero, List.set_cons_succ, List.getElem_toArray, List.getElem_cons_zero, List.getElem_cons_succ])
          refine wpAnyH_take (i := 13) (oi := _) (v := ?_) rfl (by kernel_rfl) (by kernel_rfl) (by kernel_rfl) (fun _ _ _ h => h) (Or.inl ⟨by rfl, ?_⟩) (by assumption) ?_
          rotate_left
          · intro w hSw
            try dsimp only at hSw
            go_simp
            try with_reducible rfl
          (try simp only [Act.put, List.setIfInBounds_toArray, List.set_cons_zero, List.set_cons_succ, List.getElem_toArray, List.getElem_cons_zero, List.getElem_cons_succ])
          refine wpAnyH_take (i := 14) (oi := _) (v := undef) rfl (by kernel_rfl) (by kernel_rfl) (by kernel_rfl) (fun _ _ _ h => h) (Or.inr ⟨by rfl, rfl⟩) (by assumption) ?_
          (try simp only [Act.put, List.setIfInBounds_toArray, List.set_cons_zero, List.set_cons_succ, List.getElem_toArray, List.getElem_cons_zero, List.getElem_cons_succ])
          refine wpAnyH_take (i := 15) (oi := _) (v := undef) rfl (by kernel_rfl) (by kernel_rfl) (by kernel_rfl) (fun _ _ _ h => h) (Or.inr ⟨by rfl, rfl⟩) (by assumption) ?_
          (try simp only [Act.put, List.setIfInBounds_toArray, List.set_cons_zero, List.set_cons_succ, List.getElem_toArray, List.getElem_cons_zero, List.getElem_cons_succ])
          refine wpAnyH_take (i := 16) (oi := _) (v := undef) rfl (by kernel_rfl) (by kernel_rfl) (by kernel_rfl) (fun _ _ _ h => h) (Or.inr ⟨by rfl, rfl⟩) (by assumption) ?_
          (try simp only [Act.put, List.setIfInBounds_toArray, List.set_cons_zero, List.set_cons_succ, List.getElem_toArray, List.getElem_cons_zero, List.getElem_cons_succ])
          refine wpAnyH_take (i := 17) (oi := _) (v := undef) rfl (by kernel_rfl) (by kernel_rfl) (by kernel_rfl) (fun _ _ _ h => h) (Or.inr ⟨by rfl, rfl⟩) (by assumption) ?_
          (try simp only [Act.put, List.setIfInBounds_toArray, List.set_cons_zero, List.set_cons_succ, List.getElem_toArray, List.getElem_cons_zero, List.getElem_cons_succ])
          refine wpAnyH_take (i := 18) (oi := _) (v := undef) rfl (by kernel_rfl) (by kernel_rfl) (by kernel_rfl) (fun _ _ _ h => h) (Or.inr ⟨by rfl, rfl⟩) (by assumption) ?_
          (try simp only [Act.put, List.setIfInBounds_toArray, List.set_cons_zero, List.set_cons_succ, List.getElem_toArray, List.getElem_cons_zero, List.getElem_cons_succ])
          refine wpAnyH_take (i := 19) (oi := _) (v := undef) rfl (by kernel_rfl) (by kernel_rfl) (by kernel_rfl) (fun _ _ _ h => h) (Or.inr ⟨by rfl, rfl⟩) (by assumption) ?_
          (try simp only [Act.put, List.setIfInBounds_toArray, List.set_cons_zero, List.set_cons_succ, List.getElem_toArray, List.getElem_cons_zero, List.getElem_cons_succ])
          refine wpAnyH_take (i := 20) (oi := _) (v := undef) rfl (by kernel_rfl) (by kernel_rfl) (by kernel_rfl) (fun _ _ _ h => h) (Or.inr ⟨by rfl, rfl⟩) (by assumption) ?_
          (try simp only [Act.put, List.setIfInBounds_toArray, List.set_cons_zero, List.set_cons_succ, List.getElem_toArray, List.getElem_cons_zero, List.getElem_cons_succ])
          refine wpAnyH_take (i := 21) (oi := _) (v := ?_) rfl (by kernel_rfl) (by kernel_rfl) (by kernel_rfl) (fun _ _ _ h => h) (Or.inl ⟨by rfl, ?_⟩) (by assumption) ?_
          rotate_left
          · intro w hSw
            try dsimp only at hSw
            go_simp
            try with_reducible rfl
          (try simp only [Act.put, List.setIfInBounds_toArray, List.set_cons_zero, List.set_cons_succ, List.getElem_toArray, List.getElem_cons_zero, List.getElem_cons_succ])
          refine wpAnyH_done (by kernel_rfl) ?_ _
          clear hb c hH p0 p1 p2 p3 p4 r0 r1 r2 r3 r4 d0 d1 d2 d3 d4
          go_wp2_with fail
          refine (held_read HN.out HI2.out.down (by have := HI2.out.wr; omega) i (by rw [HI2.out.n]; exact hi16)).mono ?_
          rintro e w9 ⟨rfl, hH⟩
          have H9 := Lib.hid hH
          clear hH HN
          rw [Hcur.out]
          go_wp2_with fail
          go_roundw
          case rel => exact ⟨k + 1, M.wrote I t, by omega, by rw [Hcur.out], by simp, H9.out, HI2.out⟩
          case measure => simp [intOf]; omega
      by_cases h1 : op = 1
      · subst h1
        have H3d := Lib.hid (H3.out.below (Below.refl _ wr).drew)
        have Hcur := Lib.hid (cur_backed M I K i)
        have HI2 := Lib.hid (HF.out.backed I K)
        go_wp2_with fail
        go_region_held3 (fun W => W.cell? (a.add (k * 5)) = some (.int .i64 1) ∧ W.cell? ⟨(a.add (k * 5)).block, (a.add (k * 5)).off + 1, none⟩ = some (.int .i64 I) ∧ W.cell? ⟨(a.add (k * 5)).block, (a.add (k * 5)).off + 2, none⟩ = some (.int .i64 K) ∧ W.cell? ⟨(a.add (k * 5)).block, (a.add (k * 5)).off + 3, none⟩ = some (str s) ∧ W.cell? ⟨(a.add (k * 5)).block, (a.add (k * 5)).off + 4, none⟩ = some (.bool raw))
          (first | exact ⟨d0, d1, d2, d3, d4⟩ | exact ⟨r0, r1, r2, r3, r4⟩)
          ((go_at_call 12; ((with_reducible refine (held_back H3d.out (by omega) I K).mono ?_); rintro e w5 ⟨rfl, hH⟩; have HN := Lib.hid hH; obtain ⟨r0, r1, r2, r3, r4⟩ := HX.out.keep HN.out.keeps)))
        clear hH r0 r1 r2 r3 r4 d0 d1 d2 d3 d4
        go_wp2_with fail
        refine (held_read HN.out HI2.out.down (by have := HI2.out.wr; omega) i (by rw [HI2.out.n]; exact hi16)).mono ?_
        rintro e w9 ⟨rfl, hH⟩
        have H9 := Lib.hid hH
        clear hH HN
        rw [Hcur.out]
        go_wp2_with fail
        go_roundw
        case rel => exact ⟨k + 1, M.backed I K, by omega, by rw [Hcur.out], by simp, H9.out, HI2.out⟩
        case measure => simp [intOf]; omega
      by_cases h2 : op = 2
      · subst h2
        go_wp2_with fail
        refine (held_flush H3.out HF.out.down (by omega)).mono ?_
        rintro e w4 ⟨rfl, hH⟩
        have HN := Lib.hid hH
        have HI2 := Lib.hid HF.out.flush
        have Hcur := Lib.hid (cur_flush M i)
        clear hH H3
        go_wp2_with fail
        refine (held_read HN.out HI2.out.down (by have := HI2.out.wr; omega) i (by rw [HI2.out.n]; exact hi16)).mono ?_
        rintro e w9 ⟨rfl, hH⟩
        have H9 := Lib.hid hH
        clear hH HN
        rw [Hcur.out]
        go_wp2_with fail
        go_roundw
        case rel => exact ⟨k + 1, M.flush, by omega, by rw [Hcur.out], by simp, H9.out, HI2.out⟩
        case measure => simp [intOf]; omega
      · have HN := H3
        have HI2 := Lib.hid HF.out.next
        go_wp2_with fail
        refine (held_read HN.out HI2.out.down (by have := HI2.out.wr; omega) i (by rw [HI2.out.n]; exact hi16)).mono ?_
        rintro e w9 ⟨rfl, hH⟩
        have H9 := Lib.hid hH
        clear hH HN
        go_wp2_with fail
        go_roundw
        case rel => exact ⟨k + 1, M, by omega, rfl, by simp, H9.out, HI2.out⟩
        case measure => simp [intOf]; omega
    · obtain rfl : k = l.length := by omega
      have hwr : M.wr ≤ 1099511627776 := by have := HF.out.wr; omega
      go_wp2_with fail
      refine (held_flush H3.out HF.out.down hwr).mono ?_
      rintro e w4 ⟨rfl, hH⟩
      have H4 := Lib.hid hH
      clear hH H3
      go_wp2_with fail
      refine (held_loose H4.out).mono ?_
      rintro e w5 ⟨v, rfl, hrow, -, hH, hb⟩
      rw [flush_loose] at hrow
      obtain ⟨A2, c2, rfl, -⟩ := hrow
      have H5 := Lib.hid (H4.out.below hb)
      clear hH hb H4
      go_wp2_with fail
      refine (held_crash H5.out (by show M.wr ≤ _; exact hwr) [5, 6, 7] (by decide)).mono ?_
      rintro e w6 ⟨rfl, hH⟩
      have H6 := Lib.hid hH
      clear hH H5
      go_wp2_with fail
      have c := held_read H6.out (by rfl) (by show M.wr ≤ _; exact hwr) i (by show i < M.n; rw [HF.out.n]; exact hi16)
      rw [flush_crash_cur] at c
      refine c.mono ?_
      clear c
      rintro e w7 ⟨rfl, hH⟩
      have HB := Lib.hid hH.keeps.all
      clear hH H6
      go_wp2_with fail
      refine (alive_any _).mono ?_
      rintro e w8 ⟨rfl, hb⟩
      go_wp2_with fail
      go_ret
      exact ⟨rfl, HB.out.trans (hb.mono HB.out.size)⟩
theorem walk_DevLast (W : World) (v : Value) (l : List St) (a1 : Int) (hv : Steps W v l) (hs : ∀ x ∈ l, fineStep x) (hl : l.length ≤ maxLen) (w1 : (Lit.int .u8 a1).wf = true) :
    Calls Try.prog 3 #[v, .int .u8 a1] W fun e w' => e = .returned (.bool true) ∧ Below W.heap.size W w' := by
  have h : 0 ≤ a1 ∧ a1 < 256 := by
    have := w1
    simp [Lit.wf, IntKind.min, IntKind.max, IntKind.signed, IntKind.bits] at this
    omega
  obtain ⟨n, rfl⟩ : ∃ n : Nat, a1 = (n : Int) := ⟨a1.toNat, by omega⟩
  exact walk_DevLast' n (by omega) v l W hv (fun x hx => (hs x hx).1) hl
end Go.Proofs.Ytoogedjeclcdbaa
