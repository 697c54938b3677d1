/- Layer 8 (tx): the document's answer: a transaction of its own; where a sector stands, what it reads. -/
import Derived.Test.YtdddennhdbmolaaGreatM17
namespace Go.Proofs.YtdddennhdbmolaaGreat
open Go.RowKit Go.Maps
set_option linter.unusedVariables false
set_option linter.unusedSimpArgs false
set_option maxRecDepth 10000
theorem OwnP.kept {W W' : World} {base : Nat} {v : Value} {l : PutI} (h : OwnP W base v l) (hb : ∀ k, v.ownBlock = some k → W'.heap[k]? = W.heap[k]?) : OwnP W' base v l := by
  refine ⟨h.1, ?_⟩
  rcases h.2 with h0 | ⟨g, cap, cur, hv, h1, hg, hr⟩
  · exact .inl h0
  · exact .inr ⟨g, cap, cur, hv, h1, (hb g (by rw [hv]; rfl)).trans hg, hr⟩
theorem OwnP.low {W : World} {base : Nat} {v : Value} {l : PutI} (h : OwnP W base v l) : OwnP W 0 v l := by
  refine ⟨h.1, ?_⟩
  rcases h.2 with h0 | ⟨g, cap, cur, hv, h1, hg, hr⟩
  · exact .inl h0
  · exact .inr ⟨g, cap, cur, hv, Nat.zero_le _, hg, hr⟩
/-- The document's transaction at rb: its sectors are v's; it has written L, which u holds. -/
structure RefIn (W : World) (rb : Nat) (v u : Value) (L : PutL) (most : Nat) : Prop where
  c0 : W.cell? ⟨rb, 0, none⟩ = some v
  c1 : W.cell? ⟨rb, 1, none⟩ = some u
  c2 : W.cell? ⟨rb, 2, none⟩ = some (.int .i64 (most : Int))
  c3 : W.cell? ⟨rb, 3, none⟩ = some (.bool false)
  f1 : W.frozen? ⟨rb, 1, none⟩ = false
  f3 : W.frozen? ⟨rb, 3, none⟩ = false
  own : OwnP W 0 u (castL L)
  far : ∀ k, u.ownBlock = some k → k ≠ rb
  asc : asc L
  small : L.length ≤ 4096
theorem RefIn.kept {W W' : World} {rb : Nat} {v u : Value} {L : PutL} {most : Nat} (h : RefIn W rb v u L most) (h1 : W'.heap[rb]? = W.heap[rb]?) (h2 : ∀ k, u.ownBlock = some k → W'.heap[k]? = W.heap[k]?) : RefIn W' rb v u L most :=
  { h with
    c0 := (cell_same 0 h1).trans h.c0
    c1 := (cell_same 1 h1).trans h.c1
    c2 := (cell_same 2 h1).trans h.c2
    c3 := (cell_same 3 h1).trans h.c3
    f1 := (World.frozen?_of_block (a := ⟨rb, 1, none⟩) h1).trans h.f1
    f3 := (World.frozen?_of_block (a := ⟨rb, 3, none⟩) h1).trans h.f3
    own := h.own.kept h2 }
theorem RefIn.lt {W : World} {rb : Nat} {v u : Value} {L : PutL} {most : Nat} (h : RefIn W rb v u L most) : rb < W.heap.size ∧ ∀ k, u.ownBlock = some k → k < W.heap.size :=
  ⟨World.block_lt_of_cell? W _ h.c0, fun k hk => (h.own.lt k hk).2⟩
theorem RefIn.below {W W' : World} {rb : Nat} {v u : Value} {L : PutL} {most : Nat} (h : RefIn W rb v u L most) (hb : Below W.heap.size W W') : RefIn W' rb v u L most :=
  h.kept (hb.block rb h.lt.1) fun k hk => hb.block k (h.lt.2 k hk)
def refR (rb : Nat) (v : Value) (L : PutL) (most : Nat) : Res where
  at_ S W := ∃ u, RefIn W rb v u L most ∧ ∀ k, S k ↔ k = rb ∨ u.ownBlock = some k
  lt S W h k hk := by
    obtain ⟨u, h1, h2⟩ := h
    rcases (h2 k).1 hk with rfl | h3
    · exact h1.lt.1
    · exact h1.lt.2 k h3
  kept S W W' h hs hb := by
    obtain ⟨u, h1, h2⟩ := h
    exact ⟨u, h1.kept (hb rb ((h2 rb).2 (.inl rfl))) (fun k hk => hb k ((h2 k).2 (.inr hk))), h2⟩
section
variable {W : World} {rb : Nat} {v u : Value} {L : PutL} {most : Nat}
/-- The cells of a row of writes. -/
theorem RefIn.row (h : RefIn W rb v u L most) : ∃ A c, u = .slice A L.length c ∧ (L.length ≤ c) ∧ (A = none → L.length = 0 ∧ c = 0) ∧ ∀ j (hj : j < L.length), ∃ g, A = some ⟨g, 0, none⟩ ∧ W.cell? ⟨g, j * 2, none⟩ = some (.int .i64 (L[j].1 : Int)) ∧ W.cell? ⟨g, j * 2 + 1, none⟩ = some (str L[j].2) := by
  have hcl := castL_length L
  have ho := h.own
  rcases ho.2 with ⟨rfl, h0⟩ | ⟨g, cap, cur, hv, -, -, hcap, -⟩
  · rw [hcl] at h0
    exact ⟨none, 0, by rw [h0], by omega, fun _ => ⟨h0, rfl⟩, fun j hj => by omega⟩
  · rw [hcl] at hv hcap
    subst hv
    refine ⟨some ⟨g, 0, none⟩, cap, rfl, hcap, (fun e => by cases e), fun j hj => ⟨g, rfl, ?_⟩⟩
    obtain ⟨e1, e2⟩ := putC_at (castL L) j (by rw [hcl]; exact hj)
    have ho' : W.ownsRow 0 140 2 (.slice (some ⟨g, 0, none⟩) L.length cap) L.length (putC (castL L)) := by
      have := ho
      unfold OwnP at this
      rwa [hcl] at this
    have r0 := (ho'.cellAt (j * 2) (by omega)).trans e1
    have r1 := (ho'.cellAt (j * 2 + 1) (by omega)).trans e2
    refine ⟨r0.trans (by simp [castL]), r1.trans (by simp [castL])⟩
set_option maxHeartbeats 1000000 in
theorem at_any (h : RefIn W rb v u L most) (i : Nat) : Calls Tryz.prog 65 #[devp rb, .int .i64 (i : Int)] W fun e w' => e = .returned (.tuple #[.int .i64 (place L i : Int), .bool (look L i).isSome]) ∧ Below W.heap.size W w' := by
  have hsm := h.small
  obtain ⟨A, c, rfl, hcap, -, hrow⟩ := h.row
  have HR := Lib.hid hrow
  have c1 := h.c1
  obtain ⟨m, r, hm, hr, hpl, hlt, hcase⟩ : ∃ m r, place L i = m ∧ (look L i).isSome = r ∧ m ≤ L.length ∧ (∀ j (hj : j < L.length), j < m → (L[j]).1 < i) ∧ ((m = L.length ∧ r = false) ∨ ∃ hk : m < L.length, i ≤ (L[m]).1 ∧ (((L[m]).1 : Int) == (i : Int)) = r) := by
    refine ⟨_, _, rfl, rfl, place_le L i, place_lt L i, ?_⟩
    have hlk := look_place h.asc i
    by_cases hkl : place L i < L.length
    · rw [dif_pos hkl] at hlk
      refine .inr ⟨hkl, place_ge L i hkl, ?_⟩
      rw [hlk]
      by_cases e : (L[place L i]).1 = i
      · rw [if_pos e, e]; simp
      · rw [if_neg e]; simp; omega
    · rw [dif_neg hkl] at hlk
      have := place_le L i
      exact .inl ⟨by omega, by rw [hlk]; rfl⟩
  have HL := Lib.hid hlt
  rw [hm, hr]
  clear h hrow hm hr hlt
  go_enter Tryz.func65, Tryz.ntmps65
  go_wp2_with fail
  go_loopw [6] (fun q wr => ∃ k : Nat, k ≤ m ∧ q = .int .i64 k ∧ W = wr) (fun q _ => L.length - (intOf q).toNat)
  case atStart => exact ⟨0, Nat.zero_le _, rfl, rfl⟩
  case round =>
    obtain ⟨k, hk, rfl, rfl⟩ := hrel
    by_cases hkp : k < m
    · obtain ⟨g, rfl, r0, -⟩ := HR.out k (by omega)
      have hd := HL.out k (by omega) hkp
      generalize (L[k]'(by omega)).1 = x at hd r0
      have d1 : (k : Int) < (L.length : Int) := by omega
      have d2 : decide ((x : Int) < (i : Int)) = true := decide_eq_true (by omega)
      clear hcase
      go_wp2_with fail
      go_roundw
      case rel => exact ⟨k + 1, by omega, by simp, by trivial⟩
      case measure => simp [intOf]; omega
    · obtain rfl : k = m := by omega
      rcases hcase with ⟨hkl, rfl⟩ | ⟨hkl, hge, hbe⟩
      · have d1 : decide ((k : Int) < (L.length : Int)) = false := decide_eq_false (by omega)
        have d3 : decide (k < L.length) = false := decide_eq_false (by omega)
        clear hkl
        go_wp2_with fail
        go_quiet (fail)
        go_wp2_with fail
        go_ret2
        exact ⟨rfl, below_drewN (Below.refl _ _) _⟩
      · obtain ⟨g, rfl, r0, -⟩ := HR.out _ hkl
        generalize (L[k]).1 = x at hge r0 hbe
        have d1 : decide ((k : Int) < (L.length : Int)) = true := decide_eq_true (by omega)
        have d1' : (k : Int) < (L.length : Int) := by omega
        have d2 : decide ((x : Int) < (i : Int)) = false := decide_eq_false (by omega)
        have d3 : decide (k < L.length) = true := decide_eq_true (by omega)
        have d4 : decide (x < i) = false := decide_eq_false (by omega)
        go_wp2_with fail
        go_quiet (fail)
        go_wp2_with fail
        go_ret2
        exact ⟨rfl, below_drewN (Below.refl _ _) _⟩
theorem refRead_out (h : RefIn W rb v u L most) {ss : List (List UInt8)} (hv : Txt W v ss) (hs : ss.length ≤ 4096) (i : Int) (hi : i < 0 ∨ (ss.length : Int) ≤ i) :
    Calls Tryz.prog 90 #[devp rb, .int .i64 i] W fun e w' => e = .returned (.tuple #[str [], .int .i64 2]) ∧ Below W.heap.size W w' := by
  obtain ⟨A, c, rfl, -⟩ := hv.at
  have c0 := h.c0
  have c3 := h.c3
  clear h hv
  by_cases h0 : i < 0
  · have hd : decide (i < 0) = true := decide_eq_true h0
    go_enter Tryz.func90, Tryz.ntmps90
    go_wp2_with fail
    go_ret2
    exact ⟨rfl, Below.refl _ _⟩
  · have hd : decide (i < 0) = false := decide_eq_false h0
    have hd2 : decide ((ss.length : Int) ≤ i) = true := decide_eq_true (by omega)
    clear hi
    go_enter Tryz.func90, Tryz.ntmps90
    go_wp2_with fail
    go_ret2
    exact ⟨rfl, Below.refl _ _⟩
theorem refRead_any (h : RefIn W rb v u L most) {N : Nat} {f : Nat → List UInt8} (hv : Txt W v (secs N f)) (hN : N ≤ 4096) (i : Nat) (hi : i < N) :
    Calls Tryz.prog 90 #[devp rb, .int .i64 (i : Int)] W fun e w' => e = .returned (.tuple #[str ((look L i).getD (f i)), .int .i64 0]) ∧ Below W.heap.size W w' := by
  obtain ⟨A, c, rfl, hcell⟩ := hv.at
  obtain ⟨g0, rfl, hc⟩ := hcell i (by rw [secs_length]; exact hi)
  rw [secs_get] at hc
  have c0 := h.c0
  have c1 := h.c1
  have c3 := h.c3
  have hlk := look_place h.asc i
  rw [secs_length] at c0
  obtain ⟨A, c', rfl, hcap, -, hrow⟩ := h.row
  have HA := Lib.hid (at_any h i)
  have hd : decide ((i : Int) < 0) = false := decide_eq_false (by omega)
  have hd2 : decide ((N : Int) ≤ (i : Int)) = false := decide_eq_false (by omega)
  have hI : (i : Int) < (N : Int) := by omega
  have hlt1 := World.block_lt_of_cell? W _ hc
  have hlt2 := h.lt.1
  cases hl : look L i with
  | none =>
    rw [hl] at HA
    simp only [Option.isSome, Option.getD] at HA ⊢
    generalize place L i = k at *
    generalize f i = d at *
    clear h hv hcell hrow hlk hl
    go_enter Tryz.func90, Tryz.ntmps90
    go_wp2_with fail
    refine HA.out.mono ?_
    rintro e w1 ⟨rfl, hb⟩
    have k0 := (hb.cell hlt2).trans c0
    have k1 := (hb.cell hlt1).trans hc
    have HB := Lib.hid hb
    clear hb
    go_wp2_with fail
    go_ret2
    exact ⟨rfl, HB.out⟩
  | some d =>
    obtain ⟨hk, he⟩ := place_some h.asc hl
    obtain ⟨g, rfl, r0, r1⟩ := hrow _ hk
    rw [he] at r0 r1
    rw [hl] at HA
    simp only [Option.isSome, Option.getD] at HA ⊢
    simp only at r0 r1
    have hlt3 := World.block_lt_of_cell? W _ r1
    have hki : (place L i : Int) < (L.length : Int) := by omega
    have hsm := h.small
    generalize place L i = k at *
    clear h hv hcell hrow hlk hl he
    go_enter Tryz.func90, Tryz.ntmps90
    go_wp2_with fail
    refine HA.out.mono ?_
    rintro e w1 ⟨rfl, hb⟩
    have k1 := (hb.cell hlt2).trans c1
    have k2 := (hb.cell hlt3).trans r1
    have HB := Lib.hid hb
    clear hb
    go_wp2_with fail
    go_ret2
    exact ⟨rfl, HB.out⟩
end
end Go.Proofs.YtdddennhdbmolaaGreat
/- Layer 8 (tx): the document's answer: Write. -/
namespace Go.Proofs.YtdddennhdbmolaaGreat
open Go.RowKit Go.Maps
set_option linter.unusedVariables false
set_option linter.unusedSimpArgs false
set_option maxRecDepth 10000
/-- append(l, u...). -/
theorem append_puts (W : World) (base : Nat) (v : Value) (l : PutI) (h : OwnP W base v l) (u : Value) (l2 : PutI) (hu : Puts W u l2) (hp : u = .slice none 0 0 ∨ ∃ a c, u = .slice (some a) l2.length c) (hl : l.length + l2.length ≤ 1048576) (hb : base ≤ W.heap.size) :
    ∃ v' W', (putAppend #[v, u]).run Tryz.prog W = .ok v' W' ∧ OwnP W' base v' (l ++ l2) ∧ W.grownBy W' v.ownBlock ∧ (v'.ownBlock = v.ownBlock ∨ v'.ownBlock = some W.heap.size) := by
  obtain ⟨i, hi, hz, hsz, hby⟩ := info_parts putInfo
  rcases hp with rfl | ⟨a, c, rfl⟩
  · obtain ⟨A, c, e, hc⟩ := hu
    have hl0 : l2 = [] := by injection e with e1 e2 e3; exact List.length_eq_zero_iff.1 e2.symm
    subst hl0
    rw [List.append_nil]
    exact ⟨v, W, run_append_owned_none W base 90 90 140 i 2 Tryz.underlying90 hi v _ _ h, h, ⟨rfl, rfl, rfl, Nat.le_refl _, fun _ _ _ => rfl⟩, .inl rfl⟩
  · obtain ⟨A, c2, e, hc⟩ := hu
    obtain ⟨rfl, rfl⟩ : A = some a ∧ c2 = c := by injection e with e1 e2 e3; exact ⟨e1.symm, e3.symm⟩
    obtain ⟨v', W', hap, hown, hg, _, hor⟩ := run_append_own_at (P := Tryz.prog) (w := W) base 90 90 140 i (.agg #[.int .i64 0, str []]) 2 24 Tryz.underlying90 hi hz hsz hby rfl (by decide) v l.length (putC l) h
      a l2.length c2 (putC l2) (putC_length l2) (fun j u hu => by
        have hj : j < (putC l2).length := (List.getElem?_eq_some_iff.1 hu).1
        rw [putC_length] at hj
        obtain ⟨q, r, rfl, hr⟩ : ∃ q r, j = q * 2 + r ∧ r < 2 := ⟨j / 2, j % 2, by omega, by omega⟩
        have hk : q < l2.length := by omega
        obtain ⟨a', e1, q0, q1⟩ := hc q _ (List.getElem?_eq_getElem hk)
        obtain rfl : a = a' := Option.some.inj e1
        obtain ⟨p0, p1⟩ := putC_at l2 q hk
        match r, hr with
        | 0, _ =>
          rw [Nat.add_zero] at hu ⊢
          rw [p0] at hu
          rw [q0, ← hu]
        | 1, _ =>
          rw [p1] at hu
          rw [behind_add _ _ _ (by decide), q1, ← hu]) (fun u hu => by
        unfold putC at hu
        obtain ⟨p, _, hp⟩ := List.mem_flatMap.1 hu
        simp at hp
        rcases hp with rfl | rfl <;> rfl) (by unfold maxLen; omega) (by omega) hb
    refine ⟨v', W', hap, ?_, hg, hor⟩
    show World.ownsRow _ _ _ _ _ (l ++ l2).length (putC (l ++ l2))
    rw [List.length_append, putC_append]
    exact hown
section
variable {W : World} {rb : Nat} {v u : Value} {L : PutL} {most : Nat}
/-- A part of the row of writes. -/
theorem RefIn.part {g c : Nat} (h : RefIn W rb v (.slice (some ⟨g, 0, none⟩) L.length c) L most) (k n : Nat) (hk : k + n ≤ L.length) (a : Nat) (ha : a = k * 2) (c' : Nat) :
    Puts W (.slice (some ⟨g, a, none⟩) n c') (castL ((L.drop k).take n)) := by
  subst ha
  obtain ⟨A, c1, e, -, -, hrow⟩ := h.row
  have hl : (castL ((L.drop k).take n)).length = n := by rw [castL_length, List.length_take, List.length_drop]; omega
  refine ⟨some ⟨g, k * 2, none⟩, c', by rw [hl], fun j p hj => ⟨_, rfl, ?_⟩⟩
  obtain ⟨hlt, he⟩ := List.getElem?_eq_some_iff.1 hj
  rw [hl] at hlt
  obtain ⟨g', e1, r0, r1⟩ := hrow (k + j) (by omega)
  obtain rfl : g = g' := by injection e with e2; rw [← e2] at e1; injection e1 with e1; injection e1
  have hp : p = ((L[k + j].1 : Int), L[k + j].2) := by
    rw [← he]
    simp [castL]
  subst hp
  rw [show (k + j) * 2 = k * 2 + j * 2 by omega] at r0 r1
  refine ⟨by rw [Addr.add_lit]; exact r0, ?_⟩
  unfold behind
  rw [Addr.add_lit]
  exact r1
theorem refWrite_bad (h : RefIn W rb v u L most) {ss : List (List UInt8)} (hv : Txt W v ss) (hs : ss.length ≤ 4096) (i : Int) (s : List UInt8) (hsl : s.length ≤ 140737488351232) (hi : i < 0 ∨ (ss.length : Int) ≤ i ∨ s.length ≠ 64) :
    Calls Tryz.prog 43 #[devp rb, .int .i64 i, str s] W fun e w' => e = .returned (.int .i64 2) ∧ Below W.heap.size W w' := by
  obtain ⟨A, c, rfl, -⟩ := hv.at
  have c0 := h.c0
  have c3 := h.c3
  clear h hv
  by_cases h0 : i < 0
  · have hd : decide (i < 0) = true := decide_eq_true h0
    go_enter Tryz.func43, Tryz.ntmps43
    go_wp2_with fail
    go_ret
    exact ⟨rfl, Below.refl _ _⟩
  have hd : decide (i < 0) = false := decide_eq_false h0
  by_cases h1 : (ss.length : Int) ≤ i
  · have hd2 : decide ((ss.length : Int) ≤ i) = true := decide_eq_true (by omega)
    clear hi
    go_enter Tryz.func43, Tryz.ntmps43
    go_wp2_with fail
    go_ret
    exact ⟨rfl, Below.refl _ _⟩
  · have hd2 : decide ((ss.length : Int) ≤ i) = false := decide_eq_false (by omega)
    have hd3 : ((s.length : Int) != 64) = true := by simp; omega
    clear hi
    go_enter Tryz.func43, Tryz.ntmps43
    go_wp2_with fail
    go_ret
    exact ⟨rfl, Below.refl _ _⟩
theorem refWrite_full (h : RefIn W rb v u L most) {ss : List (List UInt8)} (hv : Txt W v ss) (hs : ss.length ≤ 4096) (i : Nat) (hi : i < ss.length) (s : List UInt8) (hsl : s.length = 64) (hl : look L i = none) (hm : most ≤ L.length) :
    Calls Tryz.prog 43 #[devp rb, .int .i64 (i : Int), str s] W fun e w' => e = .returned (.int .i64 4) ∧ Below W.heap.size W w' := by
  obtain ⟨A, c, rfl, -⟩ := hv.at
  have c0 := h.c0
  have c3 := h.c3
  have hA := at_any h i
  rw [hl] at hA
  simp only [Option.isSome] at hA
  have HA := Lib.hid hA
  have hd : decide ((i : Int) < 0) = false := decide_eq_false (by omega)
  have hd2 : decide ((ss.length : Int) ≤ (i : Int)) = false := decide_eq_false (by omega)
  have hd3 : ((s.length : Int) != 64) = false := by simp; omega
  have hd4 : decide ((most : Int) ≤ (L.length : Int)) = true := decide_eq_true (by omega)
  have hd5 : decide (most ≤ L.length) = true := decide_eq_true (by omega)
  have c2 := h.c2
  have c1 := h.c1
  have hlt := h.lt.1
  obtain ⟨B, d, rfl, -⟩ := h.row
  clear h hv hA hl hsl
  generalize place L i = k at *
  go_enter Tryz.func43, Tryz.ntmps43
  go_wp2_with fail
  refine HA.out.mono ?_
  rintro e w1 ⟨rfl, hb⟩
  have k1 := (hb.cell hlt).trans c1
  have k2 := (hb.cell hlt).trans c2
  have HB := Lib.hid hb
  clear hb
  go_wp2_with fail
  go_quiet (fail)
  go_wp2_with fail
  go_ret
  exact ⟨rfl, below_drewN HB.out _⟩
/-- A row without some, with one in their place. -/
theorem ins_steps {X : World} (h : RefIn X rb v u L most) (s1 s2 : Value) (a c : PutL) (h1 : Puts X s1 (castL a)) (p1 : s1 = .slice none 0 0 ∨ ∃ q d, s1 = .slice (some q) (castL a).length d)
    (h2 : Puts X s2 (castL c)) (p2 : s2 = .slice none 0 0 ∨ ∃ q d, s2 = .slice (some q) (castL c).length d) (hs2 : ∀ k, s2.ownBlock = some k → k < X.heap.size) (i : Nat) (s : List UInt8) (ha : a.length + c.length ≤ 4096) (hasc : asc (a ++ (i, s) :: c)) (hlen : (a ++ (i, s) :: c).length ≤ 4096) :
    ∃ v1 W1 v2 W2 g3 n3 c3 W3, (putAppend #[.slice none 0 0, s1]).run Tryz.prog X = .ok v1 W1 ∧ (putAppend #[v1, .slice (some ⟨W1.heap.size, 0, none⟩) 1 1]).run Tryz.prog (W1.alloc (.cells #[.int .i64 (i : Int), str s] 140)) = .ok v2 W2 ∧
      W2.cell? ⟨rb, 1, none⟩ = some u ∧ (putAppend #[v2, s2]).run Tryz.prog W2 = .ok (.slice (some ⟨g3, 0, none⟩) n3 c3) W3 ∧ W3.cell? ⟨rb, 1, none⟩ = some u ∧ W3.frozen? ⟨rb, 1, none⟩ = false ∧
      RefIn (W3.setCell ⟨rb, 1, none⟩ (.slice (some ⟨g3, 0, none⟩) n3 c3)) rb v (.slice (some ⟨g3, 0, none⟩) n3 c3) (a ++ (i, s) :: c) most ∧ Only (fun k => k = rb) X (W3.setCell ⟨rb, 1, none⟩ (.slice (some ⟨g3, 0, none⟩) n3 c3)) ∧ X.heap.size ≤ g3 := by
  obtain ⟨base, hbase⟩ : ∃ base, base = X.heap.size := ⟨_, rfl⟩
  have hb : base ≤ X.heap.size := by omega
  have hrb : rb < base := by rw [hbase]; exact h.lt.1
  have hu : ∀ k, u.ownBlock = some k → k < base := by rw [hbase]; exact h.lt.2
  rw [← hbase] at hs2 ⊢
  have hca := castL_length a
  have hcc := castL_length c
  have h0 : OwnP X base (.slice none 0 0) [] := ⟨rfl, .inl ⟨rfl, rfl⟩⟩
  obtain ⟨v1, W1, r1, o1, g1, e1⟩ := append_puts X base _ [] h0 s1 (castL a) h1 p1 (by rw [hca]; simp; omega) hb
  rw [List.nil_append] at o1
  have hs1 := g1.size
  have k1 : ∀ k, k < X.heap.size → W1.heap[k]? = X.heap[k]? := fun k hk => g1.block k hk (by intro e; cases e)
  have b1 : ∀ k, v1.ownBlock = some k → base ≤ k := fun k hk => by
    rcases e1 with e | e
    · rw [e] at hk; cases hk
    · rw [e] at hk; cases hk; exact hb
  obtain ⟨x0, x1⟩ := cells2 W1 (.int .i64 (i : Int)) (str s) 140
  obtain ⟨v2, W2, r2, o2, B2, b2, g2, e2⟩ := append_put (W1.alloc (.cells #[.int .i64 (i : Int), str s] 140)) base base v1 (castL a) ((i : Int), s) (World.ownsRow.alloc o1 _) W1.heap.size 1 x0 x1 (by omega) (by simp; omega) (by simp; omega) b1
  have hs2' : W1.heap.size + 1 ≤ W2.heap.size := by have := g2.size; simpa using this
  have k2 : ∀ k, k < base → W2.heap[k]? = X.heap[k]? := fun k hk => ((B2.block k hk).trans (Below.heap_alloc W1 _ k (by omega))).trans (k1 k (by omega))
  have h2' : Puts W2 s2 (castL c) := h2.kept fun k hk => k2 k (hs2 k hk)
  obtain ⟨v3, W3, r3, o3, g3, e3⟩ := append_puts W2 base v2 _ o2 s2 (castL c) h2' p2 (by rw [List.length_append, hca, hcc]; simp; omega) (by omega)
  have hcast : (castL a ++ [((i : Int), s)]) ++ castL c = castL (a ++ (i, s) :: c) := by simp [castL]
  rw [hcast] at o3
  have hn3 : (castL (a ++ (i, s) :: c)).length = (a.length + c.length) + 1 := by rw [castL_length]; simp; omega
  have o3' := o3
  unfold OwnP at o3'
  rw [hn3] at o3'
  obtain ⟨gg, cap, rfl⟩ := ownsRow_succ o3'
  have hs3 := g3.size
  have k3 : ∀ k, k < base → W3.heap[k]? = X.heap[k]? := fun k hk => (g3.block k (by omega) (fun e => by have := b2 k e.symm; omega)).trans (k2 k hk)
  have hgb : base ≤ gg := by
    rcases e3 with e | e
    · exact b2 gg (by rw [← e]; rfl)
    · have : gg = W2.heap.size := by injection e
      omega
  have hX3 : RefIn W3 rb v u L most := h.kept (k3 rb hrb) fun k hk => k3 k (hu k hk)
  have c21 : W2.cell? ⟨rb, 1, none⟩ = some u := (cell_same 1 (k2 rb hrb)).trans h.c1
  refine ⟨v1, W1, v2, W2, gg, _, cap, W3, r1, r2, c21, r3, hX3.c1, hX3.f1, ?_, ?_, hgb⟩
  · refine ⟨(set_there W3 rb _ (by decide)).trans hX3.c0, set_here _ hX3.c1, (set_there W3 rb _ (by decide)).trans hX3.c2, (set_there W3 rb _ (by decide)).trans hX3.c3, by rw [World.frozen?_setCell]; exact hX3.f1, by rw [World.frozen?_setCell]; exact hX3.f3, ?_, (fun k hk => by cases hk; show gg ≠ rb; omega), hasc, hlen⟩
    have o4 := ownsRow_setCell_below (a := ⟨rb, 1, none⟩) o3 hrb (.slice (some ⟨gg, 0, none⟩) (a.length + c.length + 1) cap)
    exact OwnP.low (base := base) o4
  · refine ⟨?_, ?_, ?_, by rw [set_size]; omega, fun k hk hn => ?_⟩
    · exact g3.os.trans (B2.os.trans g1.os)
    · exact g3.tape.trans (B2.tape.trans g1.tape)
    · exact g3.output.trans (B2.output.trans g1.output)
    · rw [set_other _ _ _ _ _ hn]
      exact k3 k (by omega)
theorem castL_take (L : PutL) (k : Nat) (h : k ≤ L.length) : (castL (L.take k)).length = k := by rw [castL_length, List.length_take]; omega
theorem castL_drop (L : PutL) (k : Nat) : (castL (L.drop k)).length = L.length - k := by rw [castL_length, List.length_drop]
/-- The row of writes, as two slices of it: those below, those from there on. -/
theorem RefIn.cut {g c : Nat} (h : RefIn W rb v (.slice (some ⟨g, 0, none⟩) L.length c) L most) (k : Nat) (hk : k ≤ L.length) (q : Nat) (hq : q = k * 2 ∨ k = L.length) (c1 c2 : Nat) :
    Puts W (.slice (some ⟨g, 0, none⟩) k c1) (castL (L.take k)) ∧ Puts W (.slice (some ⟨g, q, none⟩) (L.length - k) c2) (castL (L.drop k)) := by
  refine ⟨?_, ?_⟩
  · have := h.part 0 k (by omega) 0 rfl c1
    rwa [List.drop_zero] at this
  · rcases hq with rfl | rfl
    · have := h.part k (L.length - k) (by omega) _ rfl c2
      rwa [List.take_of_length_le (by rw [List.length_drop]; exact Nat.le_refl _)] at this
    · rw [List.drop_length, Nat.sub_self]
      exact ⟨_, c2, rfl, fun j p hj => by simp [castL] at hj⟩
set_option maxHeartbeats 1000000 in
theorem refWrite_ok (h : RefIn W rb v u L most) {ss : List (List UInt8)} (hv : Txt W v ss) (hs : ss.length ≤ 4096) (i : Nat) (hi : i < ss.length) (s : List UInt8) (hsl : s.length = 64) (hl : (look L i).isSome = true ∨ L.length < most) (hm : most ≤ 256) (hL : L.length ≤ most) :
    Calls Tryz.prog 43 #[devp rb, .int .i64 (i : Int), str s] W fun e w' => e = .returned (.int .i64 0) ∧ ∃ u', RefIn w' rb v u' (ins L i s) most ∧ Only (fun k => k = rb) W w' ∧ ∀ k, u'.ownBlock = some k → W.heap.size ≤ k := by
  obtain ⟨A0, c0', rfl, -⟩ := hv.at
  have c0 := h.c0
  have c3 := h.c3
  have hA := at_any h i
  have hd : decide ((i : Int) < 0) = false := decide_eq_false (by omega)
  have hd2 : decide ((ss.length : Int) ≤ (i : Int)) = false := decide_eq_false (by omega)
  have hd3 : ((s.length : Int) != 64) = false := by simp; omega
  have c2 := h.c2
  have c1 := h.c1
  have hlt := h.lt.1
  have hpl := place_le L i
  have hasc := asc_ins h.asc i s
  have hll := ins_length h.asc i s
  have hin : ∃ m', m' ≤ L.length ∧ m' = place L i + (if (look L i).isSome then 1 else 0) ∧ ins L i s = L.take (place L i) ++ (i, s) :: L.drop m' := by
    cases hk : look L i with
    | none => exact ⟨_, hpl, rfl, ins_new h.asc s hk⟩
    | some d =>
      obtain ⟨h1, -⟩ := place_some h.asc hk
      exact ⟨place L i + 1, h1, rfl, ins_old h.asc s (by rw [hk]; rfl)⟩
  obtain ⟨m', hm', hme, hins⟩ := hin
  rw [hins] at hasc hll ⊢
  have HI := Lib.hid h
  have hbig : (L.take (place L i) ++ (i, s) :: L.drop m').length ≤ 4096 := by rw [hll]; split <;> omega
  have hfin : ∀ X g3 n3 c3 W3, Below W.heap.size W X → X.heap.size ≤ g3 → RefIn W3 rb (.slice A0 ss.length c0') (.slice (some ⟨g3, 0, none⟩) n3 c3) (L.take (place L i) ++ (i, s) :: L.drop m') most → Only (fun k => k = rb) X W3 →
      ∃ u', RefIn W3 rb (.slice A0 ss.length c0') u' (L.take (place L i) ++ (i, s) :: L.drop m') most ∧ Only (fun k => k = rb) W W3 ∧ ∀ k, u'.ownBlock = some k → W.heap.size ≤ k := fun X g3 n3 c3 W3 hb hg hR hO =>
    ⟨_, hR, (Only.of_below hb).trans hO (fun j hj => .inl hj), fun k hk => by cases hk; have := hb.size; show W.heap.size ≤ g3; omega⟩
  have HF := Lib.hid hfin
  clear hfin
  have hbx : ∀ X : World, Below W.heap.size W X → Below W.heap.size W X := fun X h => h
  cases hk : (look L i).isSome
  · have hlm : L.length < most := by rcases hl with e | e; rw [hk] at e; cases e; exact e
    have hd4 : decide ((most : Int) ≤ (L.length : Int)) = false := decide_eq_false (by omega)
    have hd5 : decide (most ≤ L.length) = false := decide_eq_false (by omega)
    rw [hk] at hA hme
    obtain rfl : m' = place L i := by simpa using hme
    have HA := Lib.hid hA
    have ho := h.own
    rcases ho.2 with ⟨rfl, h0⟩ | ⟨g, d, cur, hu, -, -, hcap, -⟩
    · rw [castL_length] at h0
      obtain rfl : L = [] := List.length_eq_zero_iff.1 h0
      rw [show place [] i = 0 from rfl] at *
      simp only [List.length_nil] at hd4 hd5
      have hS := fun X (hX : Below W.heap.size W X) => ins_steps (HI.out.below hX) (.slice none 0 0) (.slice none 0 0) [] [] ⟨none, 0, rfl, fun j p hj => by simp [castL] at hj⟩ (.inl rfl) ⟨none, 0, rfl, fun j p hj => by simp [castL] at hj⟩ (.inl rfl) (fun k e => by cases e) i s (by simp) (by simpa using hasc) (by simp)
      have HS := Lib.hid hS
      clear h hv hl hsl hS hasc hll hbig ho hA hpl hins hme hm' h0
      go_enter Tryz.func43, Tryz.ntmps43
      go_wp2_with fail
      refine HA.out.mono ?_
      rintro e w1 ⟨rfl, hb⟩
      have k1 := (hb.cell hlt).trans c1
      have k2 := (hb.cell hlt).trans c2
      have HB := Lib.hid hb
      clear hb
      go_wp2_with fail
      go_quiet (fail)
      have HX := Lib.hid (below_drewN HB.out nq)
      obtain ⟨v1, W1, v2, W2, g3, n3, q3, W3, r1, r2, x1, r3, x2, x3, x4, x5, x6⟩ := HS.out _ HX.out
      have HFX := Lib.hid (HF.out _ _ _ _ _ HX.out x6 x4 x5)
      have k3 := (HX.out.cell hlt).trans c1
      clear x4 x5
      generalize w1.drewN nq = X at *
      go_wp2_with fail
      go_ret
      exact ⟨rfl, HFX.out⟩
    · rw [castL_length] at hu hcap
      subst hu
      have hcap2 : (L.length : Int) ≤ (d : Int) := by omega
      have hb1 : (place L i : Int) ≤ (d : Int) := by omega
      have hb2 : (place L i : Int) ≤ (L.length : Int) := by omega
      by_cases hdm : d = place L i
      · have hLm : L.length = place L i := by omega
        have hdrop : L.drop (place L i) = [] := List.drop_eq_nil_of_le (by omega)
        have hS := fun X (hX : Below W.heap.size W X) => ins_steps (HI.out.below hX) (.slice (some ⟨g, 0, none⟩) (place L i) d) (.slice (some ⟨g, 0, none⟩) 0 0) (L.take (place L i)) (L.drop (place L i))
          ((HI.out.below hX).cut _ hpl _ (.inl rfl) d 0).1 (.inr ⟨_, _, by rw [castL_take _ _ hpl]⟩) (by rw [hdrop]; exact ⟨_, 0, rfl, fun j p hj => by simp [castL] at hj⟩) (.inr ⟨_, _, by rw [hdrop]; rfl⟩)
          (fun k e => by cases e; exact (HI.out.below hX).lt.2 g rfl) i s (by rw [List.length_take, List.length_drop]; omega) hasc hbig
        have HS := Lib.hid hS
        subst hdm
        clear hS hdrop
        clear h hv hl hsl hasc hll hbig ho hA hins hme hm'
        generalize place L i = m at *
        go_enter Tryz.func43, Tryz.ntmps43
        go_wp2_with fail
        refine HA.out.mono ?_
        rintro e w1 ⟨rfl, hb⟩
        have k1 := (hb.cell hlt).trans c1
        have k2 := (hb.cell hlt).trans c2
        have HB := Lib.hid hb
        clear hb
        go_wp2_with fail
        go_quiet (fail)
        have HX := Lib.hid (below_drewN HB.out nq)
        obtain ⟨v1, W1, v2, W2, g3, n3, q3, W3, r1, r2, x1, r3, x2, x3, x4, x5, x6⟩ := HS.out _ HX.out
        have HFX := Lib.hid (HF.out _ _ _ _ _ HX.out x6 x4 x5)
        have k3 := (HX.out.cell hlt).trans c1
        clear x4 x5
        generalize w1.drewN nq = X at *
        go_wp2_with fail
        go_ret
        exact ⟨rfl, HFX.out⟩
      · have hdm' : (d = place L i) = False := by simp [hdm]
        have hS := fun X (hX : Below W.heap.size W X) => ins_steps (HI.out.below hX) (.slice (some ⟨g, 0, none⟩) (place L i) d) (.slice (some ⟨g, (place L i) * 2, none⟩) (L.length - (place L i)) (d - (place L i))) (L.take (place L i)) (L.drop (place L i))
          ((HI.out.below hX).cut _ hpl _ (.inl rfl) d (d - place L i)).1 (.inr ⟨_, _, by rw [castL_take _ _ hpl]⟩) ((HI.out.below hX).cut (place L i) hm' _ (.inl rfl) d (d - (place L i))).2 (.inr ⟨_, _, by rw [castL_drop]⟩)
          (fun k e => by cases e; exact (HI.out.below hX).lt.2 g rfl) i s (by rw [List.length_take, List.length_drop]; omega) hasc hbig
        have HS := Lib.hid hS
        clear hS
        clear h hv hl hsl hasc hll hbig ho hA hins hme hm' hdm
        generalize place L i = m at *
        go_enter Tryz.func43, Tryz.ntmps43
        go_wp2_with fail
        refine HA.out.mono ?_
        rintro e w1 ⟨rfl, hb⟩
        have k1 := (hb.cell hlt).trans c1
        have k2 := (hb.cell hlt).trans c2
        have HB := Lib.hid hb
        clear hb
        go_wp2_with fail
        go_quiet (fail)
        have HX := Lib.hid (below_drewN HB.out nq)
        obtain ⟨v1, W1, v2, W2, g3, n3, q3, W3, r1, r2, x1, r3, x2, x3, x4, x5, x6⟩ := HS.out _ HX.out
        have HFX := Lib.hid (HF.out _ _ _ _ _ HX.out x6 x4 x5)
        have k3 := (HX.out.cell hlt).trans c1
        clear x4 x5
        generalize w1.drewN nq = X at *
        go_wp2_with fail
        go_ret
        exact ⟨rfl, HFX.out⟩
  · obtain ⟨e, he⟩ := Option.isSome_iff_exists.1 hk
    obtain ⟨hpl1, -⟩ := place_some h.asc he
    rw [hk] at hA hme
    obtain rfl : m' = place L i + 1 := by simpa using hme
    have HA := Lib.hid hA
    have ho := h.own
    rcases ho.2 with ⟨rfl, h0⟩ | ⟨g, d, cur, hu, -, -, hcap, -⟩
    · rw [castL_length] at h0
      omega
    · rw [castL_length] at hu hcap
      subst hu
      have hcap2 : (L.length : Int) ≤ (d : Int) := by omega
      have hb1 : (place L i : Int) ≤ (d : Int) := by omega
      have hb2 : (place L i : Int) ≤ (L.length : Int) := by omega
      have hb3 : (place L i : Int) + 1 ≤ (d : Int) := by omega
      have hb4 : (place L i : Int) + 1 ≤ (L.length : Int) := by omega
      by_cases hdm : d = place L i + 1
      · have hLm : L.length = place L i + 1 := by omega
        have hdrop : L.drop (place L i + 1) = [] := List.drop_eq_nil_of_le (by omega)
        have hS := fun X (hX : Below W.heap.size W X) => ins_steps (HI.out.below hX) (.slice (some ⟨g, 0, none⟩) (place L i) d) (.slice (some ⟨g, 0, none⟩) 0 0) (L.take (place L i)) (L.drop (place L i + 1))
          ((HI.out.below hX).cut _ hpl _ (.inl rfl) d 0).1 (.inr ⟨_, _, by rw [castL_take _ _ hpl]⟩) (by rw [hdrop]; exact ⟨_, 0, rfl, fun j p hj => by simp [castL] at hj⟩) (.inr ⟨_, _, by rw [hdrop]; rfl⟩)
          (fun k e => by cases e; exact (HI.out.below hX).lt.2 g rfl) i s (by rw [List.length_take, List.length_drop]; omega) hasc hbig
        have HS := Lib.hid hS
        subst hdm
        clear hS hdrop
        clear he h hv hl hsl hasc hll hbig ho hA hins hme hm'
        generalize place L i = m at *
        go_enter Tryz.func43, Tryz.ntmps43
        go_wp2_with fail
        refine HA.out.mono ?_
        rintro e w1 ⟨rfl, hb⟩
        have k1 := (hb.cell hlt).trans c1
        have k2 := (hb.cell hlt).trans c2
        have HB := Lib.hid hb
        clear hb
        go_wp2_with fail
        go_quiet (fail)
        have HX := Lib.hid (below_drewN HB.out nq)
        obtain ⟨v1, W1, v2, W2, g3, n3, q3, W3, r1, r2, x1, r3, x2, x3, x4, x5, x6⟩ := HS.out _ HX.out
        have HFX := Lib.hid (HF.out _ _ _ _ _ HX.out x6 x4 x5)
        have k3 := (HX.out.cell hlt).trans c1
        clear x4 x5
        generalize w1.drewN nq = X at *
        go_wp2_with fail
        go_ret
        exact ⟨rfl, HFX.out⟩
      · have hdm' : (d = place L i + 1) = False := by simp [hdm]
        have hS := fun X (hX : Below W.heap.size W X) => ins_steps (HI.out.below hX) (.slice (some ⟨g, 0, none⟩) (place L i) d) (.slice (some ⟨g, (place L i + 1) * 2, none⟩) (L.length - (place L i + 1)) (d - (place L i + 1))) (L.take (place L i)) (L.drop (place L i + 1))
          ((HI.out.below hX).cut _ hpl _ (.inl rfl) d (d - place L i)).1 (.inr ⟨_, _, by rw [castL_take _ _ hpl]⟩) ((HI.out.below hX).cut (place L i + 1) hm' _ (.inl rfl) d (d - (place L i + 1))).2 (.inr ⟨_, _, by rw [castL_drop]⟩)
          (fun k e => by cases e; exact (HI.out.below hX).lt.2 g rfl) i s (by rw [List.length_take, List.length_drop]; omega) hasc hbig
        have HS := Lib.hid hS
        clear hS
        clear he h hv hl hsl hasc hll hbig ho hA hins hme hm' hdm
        generalize place L i = m at *
        go_enter Tryz.func43, Tryz.ntmps43
        go_wp2_with fail
        refine HA.out.mono ?_
        rintro e w1 ⟨rfl, hb⟩
        have k1 := (hb.cell hlt).trans c1
        have k2 := (hb.cell hlt).trans c2
        have HB := Lib.hid hb
        clear hb
        go_wp2_with fail
        go_quiet (fail)
        have HX := Lib.hid (below_drewN HB.out nq)
        obtain ⟨v1, W1, v2, W2, g3, n3, q3, W3, r1, r2, x1, r3, x2, x3, x4, x5, x6⟩ := HS.out _ HX.out
        have HFX := Lib.hid (HF.out _ _ _ _ _ HX.out x6 x4 x5)
        have k3 := (HX.out.cell hlt).trans c1
        clear x4 x5
        generalize w1.drewN nq = X at *
        go_wp2_with fail
        go_ret
        exact ⟨rfl, HFX.out⟩
end
end Go.Proofs.YtdddennhdbmolaaGreat
/- Layer 8 (tx): the document's answer: Patch, Commit. -/
namespace Go.Proofs.YtdddennhdbmolaaGreat
open Go.RowKit Go.Maps
set_option linter.unusedVariables false
set_option linter.unusedSimpArgs false
set_option maxRecDepth 10000
section
variable {W : World} {rb : Nat} {v u : Value} {L : PutL} {most : Nat}
end
end Go.Proofs.YtdddennhdbmolaaGreat
/- Layer 8 (tx): the statements' helpers. -/
namespace Go.Proofs.YtdddennhdbmolaaGreat
open Go.RowKit Go.Maps
set_option linter.unusedVariables false
set_option linter.unusedSimpArgs false
set_option maxRecDepth 10000
/-- A text of 64 bytes: s, again and again. -/
def fillT (s : List UInt8) (k : Nat) : List UInt8 := (List.range k).map (fun i => s.getD (i % s.length) 0) ++ List.replicate (64 - k) 0
def fullT (s : List UInt8) : List UInt8 := if s = [] then List.replicate 64 0 else fillT s 64
theorem fillT_length (s : List UInt8) (k : Nat) (h : k ≤ 64) : (fillT s k).length = 64 := by unfold fillT; simp; omega
theorem fullT_length (s : List UInt8) : (fullT s).length = 64 := by
  unfold fullT
  split
  · simp
  · exact fillT_length s 64 (Nat.le_refl _)
theorem fillT_set (s : List UInt8) (k : Nat) (h : k < 64) : (fillT s k).set k (s.getD (k % s.length) 0) = fillT s (k + 1) := by
  unfold fillT
  rw [List.range_succ, List.map_append]
  obtain ⟨m, hm⟩ : ∃ m, 64 - k = m + 1 := ⟨63 - k, by omega⟩
  rw [hm, show 64 - (k + 1) = m by omega, List.replicate_succ, List.set_append, if_neg (by simp)]
  simp
/-- A step of a script. -/
structure TSt where
  do_ : Int
  n : Int
  from_ : Int
  s : List UInt8
  raw : Bool
/-- What a step writes. -/
def TSt.text (x : TSt) : List UInt8 := if x.raw then x.s else fullT x.s
abbrev TSt.v (x : TSt) : Value := .agg #[.int .i64 x.do_, .int .i64 x.n, .int .i64 x.from_, str x.s, .bool x.raw]
/-- No sector of the area. -/
def oursB (L : PutL) : Bool := L.all fun p => decide (p.1 < 4) || decide (16 ≤ p.1)
end Go.Proofs.YtdddennhdbmolaaGreat
/- Layer 8 (tx): calls, as things that lie apart turn by them. -/
namespace Go.Proofs.YtdddennhdbmolaaGreat
open Go.RowKit Go.Maps
set_option linter.unusedVariables false
set_option linter.unusedSimpArgs false
set_option maxRecDepth 10000
/-- A row of texts that is read only. -/
def txtR (v : Value) (ss : List (List UInt8)) : Res := memR (fun k => v.ownBlock = some k) (fun W => Txt W v ss) fun W W' h hb => Row.kept h hb
section
variable {w W : World} {rs : List Res}
theorem sys_new (h : Sys w W rs) (n : Nat) (h8 : 8 ≤ n) (hn : n ≤ 4096) : Calls Tryz.prog 32 #[.int .i64 (n : Int)] W fun e w' => ∃ b, e = .returned (.tuple #[devp b, .int .i64 0]) ∧ Sys w w' (rs ++ [devR b (dev0 n)]) := by
  refine (new_any n h8 hn W).mono ?_
  rintro e w' ⟨rfl, rfl⟩
  exact ⟨_, rfl, h.push (newW_below n W) (T := newS W) (new_in n h8 hn W) (newS_from W)⟩
theorem sys_open (h : Sys w W rs) {i b : Nat} {M : Dv} (hi : rs[i]? = some (devR b M)) (F n : Nat) (h4 : 4 ≤ n) (h256 : n ≤ 256) (hF : F + n ≤ M.n) (hdn : M.down = false) (hw : M.wr ≤ 1099511627776) (hp : (hd (M.cur F)).pend = false) :
    Calls Tryz.prog 33 #[devp b, .int .i64 (F : Int), .int .i64 (n : Int)] W fun e w' => ∃ jb, e = .returned (.tuple #[devp jb, .int .i64 0]) ∧ Sys w w' (rs ++ [jourR jb b F n 0]) := by
  obtain ⟨K, hH, -⟩ := h.dev hi
  refine (jopen_clean hH F n h4 h256 hF hdn hw hp).mono ?_
  rintro e w' ⟨jb, rfl, hjb, hj, hb, -⟩
  exact ⟨jb, rfl, h.addMem hb hj fun k hk => by rw [hk]; exact ⟨hjb, hj.lt⟩⟩
theorem sys_begin (h : Sys w W rs) (b jb n : Nat) (hn : n ≤ 4096) : Calls Tryz.prog 34 #[devp b, devp jb] W fun e w' => ∃ tb, e = .returned (.tuple #[devp tb, .int .i64 0]) ∧ Sys w w' (rs ++ [txR tb b jb n []]) := by
  refine (begin_any b jb n hn W).mono ?_
  rintro e w' ⟨rfl, hb, hT⟩
  exact ⟨_, rfl, h.push hb (T := fun k => k = W.heap.size + 1 ∨ k = W.heap.size) ⟨_, hT, fun k => Iff.rfl⟩ fun k hk => by omega⟩
theorem sys_read (h : Sys w W rs) {i b : Nat} {M : Dv} (hi : rs[i]? = some (devR b M)) (hd : M.down = false) (hw : M.wr ≤ 1099511627776) (k : Nat) (hk : k < M.n) :
    Calls Tryz.prog 69 #[devp b, .int .i64 (k : Int)] W fun e w' => e = .returned (.tuple #[str (M.cur k), .int .i64 0]) ∧ Sys w w' rs := by
  obtain ⟨K, ⟨-, S, hS, -⟩, -⟩ := h.dev hi
  exact (read_any hS hd hw k hk).mono fun e w' hx => ⟨hx.1, h.below hx.2⟩
theorem sys_max (h : Sys w W rs) {j b jb F n rec : Nat} (hj : rs[j]? = some (jourR jb b F n rec)) (h4 : 4 ≤ n) (h256 : n ≤ 256) :
    Calls Tryz.prog 79 #[devp jb] W fun e w' => e = .returned (.int .i64 (capL n : Int)) ∧ W = w' := max_any jb b F n rec W (h.mem hj) h4 h256
end
end Go.Proofs.YtdddennhdbmolaaGreat
/- Layer 8 (tx): a transaction, and the document's one, step by step. -/
namespace Go.Proofs.YtdddennhdbmolaaGreat
open Go.RowKit Go.Maps
set_option linter.unusedVariables false
set_option linter.unusedSimpArgs false
set_option maxRecDepth 10000
/-! What is answered, and what is written then. -/
def rdE (N : Nat) (i : Int) : Int := if i < 0 ∨ (N : Int) ≤ i then 2 else 0
def rdS (N : Nat) (f : Nat → List UInt8) (L : PutL) (i : Int) : List UInt8 := if i < 0 ∨ (N : Int) ≤ i then [] else (look L i.toNat).getD (f i.toNat)
def wrE (N cap : Nat) (L : PutL) (i : Int) (s : List UInt8) : Int := if i < 0 ∨ (N : Int) ≤ i ∨ s.length ≠ 64 then 2 else if look L i.toNat = none ∧ cap ≤ L.length then 4 else 0
def wrL (N cap : Nat) (L : PutL) (i : Int) (s : List UInt8) : PutL := if wrE N cap L i s = 0 then ins L i.toNat s else L
def ptBad (N : Nat) (i f : Int) (s : List UInt8) : Prop := i < 0 ∨ (N : Int) ≤ i ∨ f < 0 ∨ 64 - (s.length : Int) < f
instance (N : Nat) (i f : Int) (s : List UInt8) : Decidable (ptBad N i f s) := by unfold ptBad; infer_instance
def ptS (g : Nat → List UInt8) (L : PutL) (i f : Int) (s : List UInt8) : List UInt8 := over ((look L i.toNat).getD (g i.toNat)) f.toNat s
def ptE (N cap : Nat) (g : Nat → List UInt8) (L : PutL) (i f : Int) (s : List UInt8) : Int := if ptBad N i f s then 2 else wrE N cap L i (ptS g L i f s)
def ptL (N cap : Nat) (g : Nat → List UInt8) (L : PutL) (i f : Int) (s : List UInt8) : PutL := if ptBad N i f s then L else wrL N cap L i (ptS g L i f s)
/-- What is true of each row that was written. -/
structure WrOk (N cap : Nat) (L : PutL) : Prop where
  asc : asc L
  ok : PutsOk N L
  cap : L.length ≤ cap
theorem WrOk.nil (N cap : Nat) : WrOk N cap [] := ⟨asc_nil, fun p hp => by simp at hp, Nat.zero_le _⟩
theorem WrOk.wr {N cap : Nat} {L : PutL} (h : WrOk N cap L) (i : Int) (s : List UInt8) : WrOk N cap (wrL N cap L i s) := by
  unfold wrL
  by_cases h0 : wrE N cap L i s = 0
  · rw [if_pos h0]
    unfold wrE at h0
    by_cases h1 : i < 0 ∨ (N : Int) ≤ i ∨ s.length ≠ 64
    · rw [if_pos h1] at h0; cases h0
    · rw [if_neg h1] at h0
      by_cases h2 : look L i.toNat = none ∧ cap ≤ L.length
      · rw [if_pos h2] at h0; cases h0
      · refine ⟨asc_ins h.asc _ _, ok_ins h.ok (by omega) (by omega), ?_⟩
        rw [ins_length h.asc]
        have := h.cap
        split
        · exact this
        · rename_i h3
          have hn : look L i.toNat = none := by cases h4 : look L i.toNat; rfl; rw [h4] at h3; exact absurd rfl h3
          have : ¬ cap ≤ L.length := fun e => h2 ⟨hn, e⟩
          omega
  · rw [if_neg h0]; exact h
theorem WrOk.pt {N cap : Nat} {L : PutL} (h : WrOk N cap L) (g : Nat → List UInt8) (i f : Int) (s : List UInt8) : WrOk N cap (ptL N cap g L i f s) := by
  unfold ptL
  split
  · exact h
  · exact h.wr _ _
theorem val_length {N : Nat} {L : PutL} (h : PutsOk N L) {g : Nat → List UInt8} {i : Nat} (hg : (g i).length = 64) : ((look L i).getD (g i)).length = 64 := by
  cases hl : look L i with
  | none => exact hg
  | some d => exact (h _ (look_mem hl)).2
theorem set_same {rs : List Res} {i : Nat} {r : Res} (h : rs[i]? = some r) : rs.set i r = rs := by
  obtain ⟨hi, he⟩ := List.getElem?_eq_some_iff.1 h
  subst he
  exact List.set_getElem_self hi
section
variable {w W : World} {rs : List Res} {t i j tb b jb F n rec : Nat} {M : Dv} {L : PutL}
/-- A transaction on a device that works. -/
structure TxSys (w W : World) (rs : List Res) (t i j tb b jb F n rec : Nat) (M : Dv) (L : PutL) : Prop where
  sys : Sys w W rs
  ht : rs[t]? = some (txR tb b jb M.n L)
  hi : rs[i]? = some (devR b M)
  hj : rs[j]? = some (jourR jb b F n rec)
  ti : i ≠ t
  tj : j ≠ t
  ij : j ≠ i
  up : M.down = false
  wr : M.wr ≤ 1099511627776
  h4 : 4 ≤ n
  h256 : n ≤ 256
  ok : WrOk M.n (capL n) L
theorem TxSys.on (h : TxSys w W rs t i j tb b jb F n rec M L) : ∃ m, TxOn W tb b jb m M L F n rec ∧ ∀ W' L', TxIn W' tb b jb m M.n L' → Only (fun k => k = m) W W' → Sys w W' (rs.set t (txR tb b jb M.n L')) := by
  obtain ⟨S, ⟨m, hT, hS⟩, -, ho, hset, -⟩ := h.sys.use h.ht
  obtain ⟨T, hD, -⟩ := ho i _ h.ti h.hi
  refine ⟨m, ⟨hT, ⟨T, hD⟩, h.sys.mem h.hj, h.up, h.wr, h.h4, h.h256, h.ok.cap⟩, fun W' L' hT' hO => ?_⟩
  refine hset W' (txR tb b jb M.n L') S ⟨hO.os, hO.tape, hO.output, hO.size, fun k hk hn => hO.block k hk fun e => hn ((hS k).2 (.inr e))⟩ ⟨m, hT', hS⟩ fun k hk => .inl hk
theorem TxSys.turn (h : TxSys w W rs t i j tb b jb F n rec M L) {W' : World} {L' : PutL} (hs : Sys w W' (rs.set t (txR tb b jb M.n L'))) (hok : WrOk M.n (capL n) L') : TxSys w W' (rs.set t (txR tb b jb M.n L')) t i j tb b jb F n rec M L' :=
  ⟨hs, List.getElem?_set_self (idx_lt h.ht), by rw [List.getElem?_set_ne (fun e => h.ti e.symm)]; exact h.hi, by rw [List.getElem?_set_ne (fun e => h.tj e.symm)]; exact h.hj, h.ti, h.tj, h.ij, h.up, h.wr, h.h4, h.h256, hok⟩
theorem TxSys.below (h : TxSys w W rs t i j tb b jb F n rec M L) {W' : World} (hb : Below W.heap.size W W') : TxSys w W' rs t i j tb b jb F n rec M L := { h with sys := h.sys.below hb }
theorem sys_txRead (h : TxSys w W rs t i j tb b jb F n rec M L) (k : Int) :
    Calls Tryz.prog 47 #[devp tb, .int .i64 k] W fun e w' => e = .returned (.tuple #[str (rdS M.n M.cur L k), .int .i64 (rdE M.n k)]) ∧ Below W.heap.size W w' := by
  obtain ⟨m, hT, -⟩ := h.on
  unfold rdS rdE
  by_cases hk : k < 0 ∨ (M.n : Int) ≤ k
  · rw [if_pos hk, if_pos hk]
    exact (txRead_out hT k hk).mono fun e w' hx => ⟨hx.1, by rw [← hx.2]; exact Below.refl _ _⟩
  · rw [if_neg hk, if_neg hk]
    obtain ⟨q, rfl⟩ : ∃ q : Nat, k = (q : Int) := ⟨k.toNat, by omega⟩
    exact txRead_any hT q (by omega)
theorem tx_write (h : TxSys w W rs t i j tb b jb F n rec M L) (k : Int) (s : List UInt8) (hs : s.length ≤ 140737488351232) {m : Nat} (hT : TxOn W tb b jb m M L F n rec) :
    Calls Tryz.prog 41 #[devp tb, .int .i64 k, str s] W fun e w' => e = .returned (.int .i64 (wrE M.n (capL n) L k s)) ∧ TxIn w' tb b jb m M.n (wrL M.n (capL n) L k s) ∧ Only (fun k => k = m) W w' := by
  have hcap := h.ok.cap
  unfold wrL
  by_cases h1 : k < 0 ∨ (M.n : Int) ≤ k ∨ s.length ≠ 64
  · have he : wrE M.n (capL n) L k s = 2 := if_pos h1
    rw [he, if_neg (by decide)]
    refine (txWrite_bad hT k s hs h1).mono fun e w' hx => ⟨hx.1, hT.tx.below hx.2, Only.of_below hx.2⟩
  · obtain ⟨q, rfl⟩ : ∃ q : Nat, k = (q : Int) := ⟨k.toNat, by omega⟩
    rw [Int.toNat_natCast]
    by_cases h2 : look L q = none ∧ capL n ≤ L.length
    · have he : wrE M.n (capL n) L (q : Int) s = 4 := by unfold wrE; rw [if_neg h1, Int.toNat_natCast, if_pos h2]
      rw [he, if_neg (by decide)]
      refine (txWrite_full hT q (by omega) s (by omega) h2.1 (by omega)).mono fun e w' hx => ⟨hx.1, hT.tx.below hx.2, Only.of_below hx.2⟩
    · have he : wrE M.n (capL n) L (q : Int) s = 0 := by unfold wrE; rw [if_neg h1, Int.toNat_natCast, if_neg h2]
      rw [he, if_pos rfl]
      refine txWrite_ok hT q (by omega) s (by omega) ?_
      cases hl : look L q with
      | some d => exact .inl rfl
      | none => exact .inr (Nat.lt_of_not_le fun e => h2 ⟨hl, e⟩)
theorem sys_txWrite (h : TxSys w W rs t i j tb b jb F n rec M L) (k : Int) (s : List UInt8) (hs : s.length ≤ 140737488351232) :
    Calls Tryz.prog 41 #[devp tb, .int .i64 k, str s] W fun e w' => e = .returned (.int .i64 (wrE M.n (capL n) L k s)) ∧ TxSys w w' (rs.set t (txR tb b jb M.n (wrL M.n (capL n) L k s))) t i j tb b jb F n rec M (wrL M.n (capL n) L k s) := by
  obtain ⟨m, hT, hset⟩ := h.on
  exact (tx_write h k s hs hT).mono fun e w' hx => ⟨hx.1, h.turn (hset w' _ hx.2.1 hx.2.2) (h.ok.wr k s)⟩
end
/-! The document's. -/
section
variable {w W : World} {rs : List Res} {r q rb N most : Nat} {f : Nat → List UInt8} {v : Value} {L : PutL}
structure RefSys (w W : World) (rs : List Res) (r q rb : Nat) (v : Value) (N most : Nat) (f : Nat → List UInt8) (L : PutL) : Prop where
  sys : Sys w W rs
  hr : rs[r]? = some (refR rb v L most)
  hq : rs[q]? = some (txtR v (secs N f))
  rq : q ≠ r
  small : N ≤ 4096
  big : most ≤ 256
  ok : WrOk N most L
  each : ∀ i, i < N → (f i).length = 64
theorem RefSys.on (h : RefSys w W rs r q rb v N most f L) : ∃ u, RefIn W rb v u L most ∧ Txt W v (secs N f) ∧ ∀ W' L' u', RefIn W' rb v u' L' most → Only (fun k => k = rb) W W' → (u' = u ∨ ∀ k, u'.ownBlock = some k → W.heap.size ≤ k) → Sys w W' (rs.set r (refR rb v L' most)) := by
  obtain ⟨S, ⟨u, hR, hS⟩, -, ho, hset, -⟩ := h.sys.use h.hr
  refine ⟨u, hR, h.sys.mem h.hq, fun W' L' u' hR' hO hu => ?_⟩
  refine hset W' (refR rb v L' most) (fun k => k = rb ∨ u'.ownBlock = some k) ⟨hO.os, hO.tape, hO.output, hO.size, fun k hk hn => hO.block k hk fun e => hn ((hS k).2 (.inl e))⟩ ⟨u', hR', fun k => Iff.rfl⟩ fun k hk => ?_
  rcases hk with e | e
  · exact .inl ((hS k).2 (.inl e))
  · rcases hu with hu | hu
    · rw [hu] at e; exact .inl ((hS k).2 (.inr e))
    · exact .inr (hu k e)
theorem RefSys.turn (h : RefSys w W rs r q rb v N most f L) {W' : World} {L' : PutL} (hs : Sys w W' (rs.set r (refR rb v L' most))) (hok : WrOk N most L') : RefSys w W' (rs.set r (refR rb v L' most)) r q rb v N most f L' :=
  ⟨hs, List.getElem?_set_self (idx_lt h.hr), by rw [List.getElem?_set_ne (fun e => h.rq e.symm)]; exact h.hq, h.rq, h.small, h.big, hok, h.each⟩
theorem RefSys.below (h : RefSys w W rs r q rb v N most f L) {W' : World} (hb : Below W.heap.size W W') : RefSys w W' rs r q rb v N most f L := { h with sys := h.sys.below hb }
theorem sys_refRead (h : RefSys w W rs r q rb v N most f L) (k : Int) :
    Calls Tryz.prog 90 #[devp rb, .int .i64 k] W fun e w' => e = .returned (.tuple #[str (rdS N f L k), .int .i64 (rdE N k)]) ∧ Below W.heap.size W w' := by
  obtain ⟨u, hR, hv, -⟩ := h.on
  have hN := h.small
  unfold rdS rdE
  by_cases hk : k < 0 ∨ (N : Int) ≤ k
  · rw [if_pos hk, if_pos hk]
    exact refRead_out hR hv (by rw [secs_length]; exact hN) k (by rw [secs_length]; exact hk)
  · rw [if_neg hk, if_neg hk]
    obtain ⟨q, rfl⟩ : ∃ q : Nat, k = (q : Int) := ⟨k.toNat, by omega⟩
    exact refRead_any hR hv hN q (by omega)
theorem ref_write (h : RefSys w W rs r q rb v N most f L) (k : Int) (s : List UInt8) (hs : s.length ≤ 140737488351232) {u : Value} (hR : RefIn W rb v u L most) (hv : Txt W v (secs N f)) :
    Calls Tryz.prog 43 #[devp rb, .int .i64 k, str s] W fun e w' => e = .returned (.int .i64 (wrE N most L k s)) ∧ ∃ u', RefIn w' rb v u' (wrL N most L k s) most ∧ Only (fun k => k = rb) W w' ∧ (u' = u ∨ ∀ k, u'.ownBlock = some k → W.heap.size ≤ k) := by
  have hN := h.small
  have hl : (secs N f).length = N := secs_length N f
  unfold wrL
  by_cases h1 : k < 0 ∨ (N : Int) ≤ k ∨ s.length ≠ 64
  · have he : wrE N most L k s = 2 := if_pos h1
    rw [he, if_neg (by decide)]
    exact (refWrite_bad hR hv (by omega) k s hs (by rw [hl]; exact h1)).mono fun e w' hx => ⟨hx.1, u, hR.below hx.2, Only.of_below hx.2, .inl rfl⟩
  · obtain ⟨q, rfl⟩ : ∃ q : Nat, k = (q : Int) := ⟨k.toNat, by omega⟩
    rw [Int.toNat_natCast]
    by_cases h2 : look L q = none ∧ most ≤ L.length
    · have he : wrE N most L (q : Int) s = 4 := by unfold wrE; rw [if_neg h1, Int.toNat_natCast, if_pos h2]
      rw [he, if_neg (by decide)]
      exact (refWrite_full hR hv (by omega) q (by omega) s (by omega) h2.1 h2.2).mono fun e w' hx => ⟨hx.1, u, hR.below hx.2, Only.of_below hx.2, .inl rfl⟩
    · have he : wrE N most L (q : Int) s = 0 := by unfold wrE; rw [if_neg h1, Int.toNat_natCast, if_neg h2]
      rw [he, if_pos rfl]
      refine (refWrite_ok hR hv (by omega) q (by omega) s (by omega) ?_ h.big h.ok.cap).mono ?_
      · cases hl : look L q with
        | some d => exact .inl rfl
        | none => exact .inr (Nat.lt_of_not_le fun e => h2 ⟨hl, e⟩)
      · rintro e w' ⟨rfl, u', h1, h2, h3⟩
        exact ⟨rfl, u', h1, h2, .inr h3⟩
theorem sys_refWrite (h : RefSys w W rs r q rb v N most f L) (k : Int) (s : List UInt8) (hs : s.length ≤ 140737488351232) :
    Calls Tryz.prog 43 #[devp rb, .int .i64 k, str s] W fun e w' => e = .returned (.int .i64 (wrE N most L k s)) ∧ RefSys w w' (rs.set r (refR rb v (wrL N most L k s) most)) r q rb v N most f (wrL N most L k s) := by
  obtain ⟨u, hR, hv, hset⟩ := h.on
  refine (ref_write h k s hs hR hv).mono ?_
  rintro e w' ⟨rfl, u', h1, h2, h3⟩
  exact ⟨rfl, h.turn (hset w' _ u' h1 h2 h3) (h.ok.wr k s)⟩
end
end Go.Proofs.YtdddennhdbmolaaGreat
/- Layer 1 (octet), continued: Split, Same. -/
namespace Go.Proofs.YtdddennhdbmolaaGreat
open Go.RowKit
set_option linter.unusedVariables false
set_option linter.unusedSimpArgs false
set_option maxRecDepth 10000
theorem stringInfo : (Tryz.prog.info? 9).map (fun i => (i.zero, i.size, i.bytes)) = some (some (.string ⟨#[]⟩), 1, 16) := by kernel_rfl
set_option maxHeartbeats 400000 in
theorem split_bad (l : List UInt8) (n : Int) (w : World) (hn : n < 1) :
    Calls Tryz.prog 96 #[str l, .int .i64 n] w fun e w' => e = .returned (.tuple #[.slice none 0 0, .int .i64 2]) ∧ Below w.heap.size w w' := by
  go_enter Tryz.func96, Tryz.ntmps96
  go_wp2
  go_step3
  go_wp2
  rw [Exit.noGoto_ret]
  go_ret2
  exact ⟨rfl, Below.refl _ _⟩
set_option maxHeartbeats 800000 in
theorem split_ok (l : List UInt8) (n : Nat) (w : World) (hs : l.length ≤ 8192) (hn : 1 ≤ n) (hn2 : n ≤ 9223372036854775807) :
    Calls Tryz.prog 96 #[str l, .int .i64 n] w fun e w' => ∃ v, e = .returned (.tuple #[v, .int .i64 0]) ∧ w'.ownsRow w.heap.size 9 1 v (partsL n 8192 l).length ((partsL n 8192 l).map str) ∧ Below w.heap.size w w' := by
  go_enter Tryz.func96, Tryz.ntmps96
  go_wp2
  go_step3
  go_wp2
  go_step3
  go_wp2
  go_loopw [0, 6] (fun s v wr => ∃ (q : List UInt8) (acc : List (List UInt8)), s = str q ∧ q.length + acc.length ≤ l.length ∧ acc ++ partsL n 8192 q = partsL n 8192 l ∧ wr.ownsRow w.heap.size 9 1 v acc.length (acc.map str) ∧ Below w.heap.size w wr) (fun s _ _ => lenOf s)
  case atStart => exact ⟨l, [], rfl, by simp, by simp, World.ownsRow_nil _ _ _ _, Below.refl _ _⟩
  case round =>
    obtain ⟨q, acc, rfl, hq, hp, hown, hb⟩ := hrel
    have Hp := Lib.hid hp
    clear hp
    by_cases h0 : q = []
    · subst h0
      have hacc : partsL n 8192 l = acc := by rw [← Hp.out, partsL_nil, List.append_nil]
      have Hacc := Lib.hid hacc
      clear hacc
      go_wp2
      try rw [Exit.noGoto_ret]
      go_ret2
      exact ⟨_, rfl, by rw [Hacc.out]; exact hown, hb⟩
    · have hstep := partsL_step n 8192 q hn (by omega) h0
      have Hstep := Lib.hid hstep
      clear hstep
      have hne : q.isEmpty = false := by simp [h0]
      have hpos : 0 < q.length := List.length_pos_iff.2 h0
      by_cases hle : n ≤ q.length
      · go_wp2_with fail
        refine (cut_ok q n n _ (by simp only [maxLen]; omega) rfl hle).mono ?_
        rintro e w1 ⟨rfl, hb1⟩
        have hown1 := own_below hown hb1
        have hbw1 := chain hb hb1
        go_wp2_with (at_builtin; refine wpList_append_one rfl _ _ _ rfl 9 _ 16 Tryz.underlying88 stringInfo rfl _ _ _ rfl hown1 (str (q.take n)) _ _ rfl rfl rfl (by simp only [maxLen]; omega) (by omega) hbw1 ?_; intro v' w2 hown2 hbw2)
        go_roundw
        case rel =>
          refine ⟨q.drop n, acc ++ [q.take n], rfl, ?_, ?_, ?_, hbw2⟩
          · simp; omega
          · rw [← Hp.out, Hstep.out]; simp
          · simpa using hown2
        case measure => simp [lenOf, ByteArray.size]; omega
      · have hrest : partsL n 8192 q = [q] := by
          rw [Hstep.out, List.take_of_length_le (by omega), List.drop_of_length_le (by omega), partsL_nil]
        have hacc : partsL n 8192 l = acc ++ [q] := by rw [← Hp.out, hrest]
        have Hacc := Lib.hid hacc
        clear hacc hrest
        go_wp2_with fail
        refine (cut_far q n _ (by simp only [maxLen]; omega) (by omega)).mono ?_
        rintro e w1 ⟨rfl, hb1⟩
        have hown1 := own_below hown hb1
        have hbw1 := chain hb hb1
        go_wp2_with (at_builtin; refine wpList_append_one rfl _ _ _ rfl 9 _ 16 Tryz.underlying88 stringInfo rfl _ _ _ rfl hown1 (str q) _ _ rfl rfl rfl (by simp only [maxLen]; omega) (by omega) hbw1 ?_; intro v' w2 hown2 hbw2)
        try rw [Exit.noGoto_ret]
        go_ret2
        exact ⟨v', rfl, by rw [Hacc.out]; simpa using hown2, hbw2⟩
theorem str_inj {a b : List UInt8} (h : a ≠ b) : str a ≠ str b := by
  intro e
  injection e with e
  injection e with e
  exact h (by simpa using e)
end Go.Proofs.YtdddennhdbmolaaGreat
/- Layer 1 (octet): the chapter's examples; each function once more, in one sentence. -/
namespace Go.Proofs.YtdddennhdbmolaaGreat
open Go.RowKit
set_option linter.unusedVariables false
set_option linter.unusedSimpArgs false
set_option maxRecDepth 10000
theorem quot_zero (v n : Nat) (h : v < 256 ^ n) : ((v : Int) / 2 ^ (8 * n) != 0) = false := by
  rw [pow256] at h
  have h1 : v / 2 ^ (8 * n) = 0 := Nat.div_eq_of_lt h
  have h2 : ((v : Int) / 2 ^ (8 * n)) = ((v / 2 ^ (8 * n) : Nat) : Int) := by simp
  rw [h2, h1]; rfl
theorem quot_some (v n : Nat) (h : ¬ v < 256 ^ n) : ((v : Int) / 2 ^ (8 * n) != 0) = true := by
  rw [pow256] at h
  have h1 : 0 < v / 2 ^ (8 * n) := Nat.div_pos (by omega) (Nat.pow_pos (by omega))
  have h2 : ((v : Int) / 2 ^ (8 * n)) = ((v / 2 ^ (8 * n) : Nat) : Int) := by simp
  rw [h2, bne_iff_ne]
  omega
theorem num_yes (u i : Int) (v n : Nat) (w : World) (hu : u = v) (hi : i = n) (hv : v < 18446744073709551616) (hn : n ≤ 8) (h : v < 256 ^ n) :
    Calls Tryz.prog 100 #[.int .u64 u, .int .i64 i] w fun e w' => e = .returned (.tuple #[str (leB n v), .int .i64 0]) ∧ Below w.heap.size w w' := by
  subst hu hi
  exact num_ok v n w hv hn (quot_zero v n h)
theorem num_no (u i : Int) (v n : Nat) (w : World) (hu : u = v) (hi : i = n) (hv : v < 18446744073709551616) (hn : n ≤ 8) (h : ¬ v < 256 ^ n) :
    Calls Tryz.prog 100 #[.int .u64 u, .int .i64 i] w fun e w' => e = .returned (.tuple #[str [], .int .i64 2]) ∧ Below w.heap.size w w' := by
  subst hu hi
  exact num_big v n w hv hn (quot_some v n h)
/-- A row that the text itself makes. -/
theorem row_litO (w : World) (t : TypeId) (xs : List Value) : Row (w.alloc (.cells xs.toArray t)) (.slice (some ⟨w.heap.size, 0, none⟩) xs.length xs.length) xs := by
  refine ⟨some ⟨w.heap.size, 0, none⟩, xs.length, rfl, fun j u hj => ⟨_, rfl, ?_⟩⟩
  rw [cell_of_row _ _ j _ t (0, 0) (heap_alloc_new w _)]
  simpa using hj
theorem row_below {w w' : World} {v : Value} {xs : List Value} (h : Row w v xs) (hb : Below w.heap.size w w') : Row w' v xs := by
  obtain ⟨A, c, hv, hc⟩ := h
  refine ⟨A, c, hv, fun j u hj => ?_⟩
  obtain ⟨g, hA, hcell⟩ := hc j u hj
  exact ⟨g, hA, (hb.cell (World.block_lt_of_cell? w _ hcell)).trans hcell⟩
end Go.Proofs.YtdddennhdbmolaaGreat
/- Layer 7 (inode): numbers put one behind the other; blocks that list others. -/
namespace Go.Proofs.YtdddennhdbmolaaGreat
open Go.RowKit
set_option linter.unusedVariables false
set_option linter.unusedSimpArgs false
set_option maxRecDepth 10000
/-- The slice v is the numbers l, of the kind q. -/
def NumS (q : IntKind) (w : World) (v : Value) (l : List Nat) : Prop :=
  ∃ A c, v = .slice A l.length c ∧ ∀ (j n : Nat), l[j]? = some n → ∃ a : Addr, A = some a ∧ w.cell? (a.add j) = some (.int q (n : Int))
theorem U16s.nums {w : World} {v : Value} {l : List Nat} (h : U16s w v l) : NumS .u16 w v l := h
theorem NumS.below {q : IntKind} {w w' : World} {v : Value} {l : List Nat} (h : NumS q w v l) (hb : Below w.heap.size w w') : NumS q w' v l := by
  obtain ⟨A, c, hv, hc⟩ := h
  refine ⟨A, c, hv, fun j n hj => ?_⟩
  obtain ⟨a, hA, hcell⟩ := hc j n hj
  exact ⟨a, hA, (hb.cell (World.block_lt_of_cell? w _ hcell)).trans hcell⟩
theorem nums_row {q : IntKind} {w : World} {g n c : Nat} {l : List Nat} {t : TypeId} {cs : Array Value} {fr : Nat × Nat} (hg : w.heap[g]? = some (.cells cs t fr)) (hl : l.length = n) (hc : ∀ j m : Nat, l[j]? = some m → cs[j]? = some (.int q (m : Int))) : NumS q w (.slice (some ⟨g, 0, none⟩) n c) l := by
  subst hl
  refine ⟨some ⟨g, 0, none⟩, c, rfl, fun j m hj => ⟨_, rfl, ?_⟩⟩
  have h := cell_of_row w g j cs t fr hg
  have e : (⟨g, 0, none⟩ : Addr).add j = ⟨g, j, none⟩ := by unfold Addr.add; split <;> simp_all
  rw [e, h, hc j m hj]
/-- The numbers as n bytes each. -/
def catN (n : Nat) (l : List Nat) : List UInt8 := (l.map (leB n)).flatten
theorem catN_two (l : List Nat) : catN 2 l = catL l := rfl
theorem catN_length (n : Nat) (l : List Nat) : (catN n l).length = n * l.length := by
  induction l with
  | nil => rfl
  | cons a l ih => simp only [catN, List.map_cons, List.flatten_cons, List.length_append, leB_length, List.length_cons] at ih ⊢; rw [ih, Nat.mul_succ]; omega
theorem catN_take (n : Nat) (l : List Nat) (k : Nat) (h : k < l.length) : catN n (l.take (k + 1)) = catN n (l.take k) ++ leB n l[k] := by
  simp only [catN]
  rw [List.take_succ_eq_append_getElem h, List.map_append, List.flatten_append]
  simp
set_option maxHeartbeats 1000000 in
theorem putu16_any (l : List Nat) (v : Value) (w : World) (hv : NumS .u16 w v l) (hlt : ∀ x ∈ l, x < 256 ^ 2) (hlen : l.length ≤ 1000) :
    Calls Tryz.prog 73 #[.int .i64 2, v] w fun e w' => e = .returned (str (catN 2 l)) ∧ Below w.heap.size w w' := by
  obtain ⟨A, c, rfl, hc⟩ := hv
  have Hc := Lib.hid hc
  clear hc
  go_enter Tryz.func73, Tryz.ntmps73
  go_wp2_with fail
  go_loopw [5, 12] (fun s i wr => ∃ k : Nat, k ≤ l.length ∧ i = .int .i64 k ∧ s = str (catN 2 (l.take k)) ∧ Below w.heap.size w wr) (fun _ i _ => l.length - (nOf i).toNat)
  case atStart => exact ⟨0, Nat.zero_le _, rfl, by simp [catN], Below.refl _ _⟩
  case round =>
    obtain ⟨k, hk, rfl, rfl, hb⟩ := hrel
    by_cases hlt2 : k < l.length
    · obtain ⟨b, hbe⟩ : ∃ b, b = l[k] := ⟨_, rfl⟩
      have hb16 : b < 256 ^ 2 := by rw [hbe]; exact hlt _ (List.getElem_mem _)
      obtain ⟨a, rfl, hcell⟩ := Hc.out k b (by rw [hbe]; simp [hlt2])
      have hcell1 : wr.cell? (a.add k) = some (.int .u16 (b : Int)) := (hb.cell (World.block_lt_of_cell? w _ hcell)).trans hcell
      have htk := catN_take 2 l k hlt2
      rw [← hbe] at htk
      have Htk := Lib.hid htk
      have hl1 : (catN 2 (l.take k)).length ≤ 8000 := by rw [catN_length, List.length_take]; omega
      clear htk hcell hbe
      generalize catN 2 (l.take k) = t at *
      have hl2 : (leB 2 b).length = 2 := leB_length _ _
      have HN := Lib.hid fun W => num_yes (b : Int) 2 b 2 W rfl rfl (by omega) (by omega) hb16
      go_wp2_with fail
      refine (HN.out _).mono ?_
      rintro e w1 ⟨rfl, hb1⟩
      go_wp2
      go_roundw
      case rel => exact ⟨k + 1, by omega, by go_num, by rw [Htk.out], chain hb hb1⟩
      case measure => simp [nOf]; omega
    · have : k = l.length := by omega
      subst this
      rw [List.take_length]
      go_wp2
      go_ret
      exact ⟨rfl, hb⟩
end Go.Proofs.YtdddennhdbmolaaGreat
/- Layer 7 (inode): the block that lists others, and what it lists. -/
namespace Go.Proofs.YtdddennhdbmolaaGreat
open Go.RowKit
set_option linter.unusedVariables false
set_option linter.unusedSimpArgs false
set_option maxRecDepth 10000
set_option maxHeartbeats 400000 in
theorem tell_many (l : List Nat) (v : Value) (w : World) (hv : U16s w v l) (hlen : l.length ≤ maxLen) (h : 32 < l.length) :
    Calls Tryz.prog 49 #[v] w fun e w' => e = .returned (.tuple #[str [], .int .i64 2]) ∧ Below w.heap.size w w' := by
  obtain ⟨A, c, rfl, hc⟩ := hv
  clear hc
  unfold maxLen at hlen
  go_enter Tryz.func49, Tryz.ntmps49
  go_wp2
  go_ret2
  exact ⟨rfl, Below.refl _ _⟩
set_option maxHeartbeats 400000 in
theorem tell_ok (l : List Nat) (v : Value) (w : World) (hv : U16s w v l) (hlt : ∀ x ∈ l, x < 65536) (h : l.length ≤ 32) :
    Calls Tryz.prog 49 #[v] w fun e w' => e = .returned (.tuple #[str (tellL l), .int .i64 0]) ∧ Below w.heap.size w w' := by
  have HP := Lib.hid fun W (h : U16s W v l) => putu16_any l v W h hlt (by omega)
  have HV := Lib.hid hv
  obtain ⟨A, c, rfl, hc⟩ := hv
  clear hc
  have hcl := catL_length l
  have HQ := Lib.hid fun W => pad_ok (catL l) (64 - 2 * l.length) 64 W (by rw [hcl]; omega) (by omega)
  have HT : Hid (catL l ++ List.replicate (64 - 2 * l.length) 0 = tellL l) := Lib.hid rfl
  go_enter Tryz.func49, Tryz.ntmps49
  go_wp2_with fail
  refine (HP.out _ HV.out).mono ?_
  rintro e w1 ⟨rfl, hb1⟩
  rw [catN_two]
  go_wp2_with fail
  refine (HQ.out _).mono ?_
  rintro e w2 ⟨rfl, hb2⟩
  go_wp2
  go_ret2
  exact ⟨by rw [HT.out]; rfl, chain hb1 hb2⟩
set_option maxHeartbeats 400000 in
theorem refTell_many (l : List Nat) (v : Value) (w : World) (hv : U16s w v l) (hlen : l.length ≤ maxLen) (h : 32 < l.length) :
    Calls Tryz.prog 64 #[v] w fun e w' => e = .returned (.tuple #[str [], .int .i64 2]) ∧ Below w.heap.size w w' := by
  obtain ⟨A, c, rfl, hc⟩ := hv
  clear hc
  unfold maxLen at hlen
  go_enter Tryz.func64, Tryz.ntmps64
  go_wp2
  go_ret2
  exact ⟨rfl, Below.refl _ _⟩
theorem conv_noughts (W : World) (k g : Nat) (hg : g = W.heap.size) : (convert 89 9 (.slice (some ⟨g, 0, none⟩) k k)).run Tryz.prog (W.alloc (.cells (byteCells (List.replicate k 0)) 5)) = .ok (str (List.replicate k 0)) (W.alloc (.cells (byteCells (List.replicate k 0)) 5)) := by
  subst hg
  have := conv_blk (P := Tryz.prog) 89 9 5 Tryz.underlying89 Tryz.underlying5 Tryz.underlying9 (W.alloc (.cells (byteCells (List.replicate k 0)) 5)) W.heap.size k (List.replicate k 0) (heap_alloc_new _ _)
  rwa [List.length_replicate] at this
set_option maxHeartbeats 1000000 in
theorem refTell_ok (l : List Nat) (v : Value) (w : World) (hv : U16s w v l) (hlt : ∀ x ∈ l, x < 65536) (h : l.length ≤ 32) :
    Calls Tryz.prog 64 #[v] w fun e w' => e = .returned (.tuple #[str (tellL l), .int .i64 0]) ∧ Below w.heap.size w w' := by
  obtain ⟨A, c, rfl, hc⟩ := hv
  have Hc := Lib.hid hc
  clear hc
  have hmk := make_bytes (64 - 2 * l.length) (by omega)
  have hcv := fun W g => conv_noughts W (64 - 2 * l.length) g
  have hcl := catL_length l
  have HT : Hid (catL l ++ List.replicate (64 - 2 * l.length) 0 = tellL l) := Lib.hid rfl
  obtain ⟨K, hK⟩ : ∃ K, K = 64 - 2 * l.length := ⟨_, rfl⟩
  rw [← hK] at hmk hcv HT
  have hsub : (64 : Int) - ((catL l).length : Int) = (K : Int) := by rw [hcl]; omega
  have HK := Lib.hid hK
  have Hhcl := Lib.hid hcl
  clear hK hcl
  go_enter Tryz.func64, Tryz.ntmps64
  go_wp2_with fail
  go_loopw [4, 5] (fun s i wr => ∃ k : Nat, k ≤ l.length ∧ i = .int .i64 k ∧ s = str (catL (l.take k)) ∧ Below w.heap.size w wr) (fun _ i _ => l.length - (nOf i).toNat)
  case atStart => exact ⟨0, Nat.zero_le _, rfl, by simp [catL], Below.refl _ _⟩
  case round =>
    obtain ⟨k, hk, rfl, rfl, hb⟩ := hrel
    by_cases hlt2 : k < l.length
    · obtain ⟨b, hbe⟩ : ∃ b, b = l[k] := ⟨_, rfl⟩
      have hb16 : b < 65536 := by rw [hbe]; exact hlt _ (List.getElem_mem _)
      obtain ⟨a, rfl, hcell⟩ := Hc.out k b (by rw [hbe]; simp [hlt2])
      have hcell1 : wr.cell? (a.add k) = some (w16 b) := (hb.cell (World.block_lt_of_cell? w _ hcell)).trans hcell
      have htk : catL (l.take (k + 1)) = catL (l.take k) ++ leB 2 b := by have := catN_take 2 l k hlt2; rw [hbe]; exact this
      have Htk := Lib.hid htk
      have hl1 : (catL (l.take k)).length ≤ 64 := by rw [catL_length, List.length_take]; omega
      clear htk hcell hbe
      generalize catL (l.take k) = t at *
      have hl2 : (leB 2 b).length = 2 := leB_length _ _
      have HN := Lib.hid fun W => two_any b W hb16
      clear hsub hmk hcv
      go_wp2_with fail
      refine (HN.out _).mono ?_
      rintro e w1 ⟨rfl, rfl⟩
      go_wp2
      go_roundw
      case rel => exact ⟨k + 1, by omega, by go_num, by rw [Htk.out], hb.alloc hb.size _⟩
      case measure => simp [nOf]; omega
    · have : k = l.length := by omega
      subst this
      rw [List.take_length]
      have hl1 : (catL l).length + K = 64 := by rw [Hhcl.out, HK.out]; omega
      generalize catL l = t at *
      go_wp2
      go_ret2
      exact ⟨congrArg (fun q => Ending.returned (.tuple #[str q, .int .i64 0])) HT.out, hb.alloc hb.size _⟩
/-- The cells of numbers. -/
abbrev numCells (l : List Nat) : Array Value := (l.map fun n => w16 n).toArray
theorem numCells_get (l : List Nat) (j : Nat) (h : j < l.length) : (numCells l)[j]? = some (w16 l[j]) := by
  simp [h]
theorem numCells_at (l : List Nat) (j m : Nat) (h : l[j]? = some m) : (numCells l)[j]? = some (w16 m) := by
  simp [h]
theorem blk_set_num {W : World} {g e j : Nat} {l : List Nat} (h : W.heap[g]? = some (.cells (numCells l) e (0, 0))) (x : Nat) :
    (W.setCell ⟨g, j, none⟩ (w16 x)).heap[g]? = some (.cells (numCells (l.set j x)) e (0, 0)) := by
  rw [heap_setCell_same W g j _ e _ h]
  congr 2
  apply Array.ext'
  simp
theorem uint16Info : (Tryz.prog.info? 24).map (fun i => (i.zero, i.size, i.bytes)) = some (some (.int .u16 0), 1, 2) := by kernel_rfl
/-- 'make([]uint16, n)'. -/
theorem make_nums (n : Nat) (hn : n ≤ 1048576) : ∀ W : World, (Instr.makeSlice 37 (.int .i64 (n : Int)) (.int .i64 (n : Int))).run Tryz.prog W = .ok (.slice (some ⟨W.heap.size, 0, none⟩) n n) (W.alloc (.cells (numCells (List.replicate n 0)) 24)) := fun W => by
  obtain ⟨i0, hi, hz0, hz1, hz2⟩ := info_parts uint16Info
  have h := run_make (P := Tryz.prog) W 37 24 i0 _ Tryz.underlying37 hi hz0 .i64 .i64 n n (by omega) (by omega) (by rw [hz2]; omega) (by omega)
  rw [hz1] at h
  have e : madeCells #[Value.int .u16 0] n = numCells (List.replicate n 0) := by
    apply Array.ext'
    rw [toList_madeCells_one]
    simp
  simpa [Value.cells, e] using h
theorem parts_two (s : List UInt8) (n : Nat) (hs : s.length = 2 * n) (hn : n ≤ 100) : (partsL 2 8192 s).length = n ∧ ∀ k (h : k < (partsL 2 8192 s).length), ((partsL 2 8192 s)[k]).length = 2 := by
  have hm := partsL_map2 8192 s (by omega) n hs
  have hl : (partsL 2 8192 s).length = n := by
    have := congrArg List.length hm
    rw [List.length_map, numsL_length] at this
    omega
  refine ⟨hl, fun k hk => ?_⟩
  have hf := partsL_flat 2 (by omega) 8192 s (by omega)
  have he := partsL_each 2 (by omega) 8192 s (by omega)
  by_cases hk2 : k + 1 < (partsL 2 8192 s).length
  · exact (he k hk).2.2 hk2
  · -- the last one: what is left of the length
    have hsum : ∀ (q : List (List UInt8)) (m : Nat), q.length = m → (∀ j (h : j < q.length), (q[j]).length ≤ 2) → q.flatten.length ≤ 2 * m := by
      intro q
      induction q with
      | nil => intro m h _; simp
      | cons x q ih =>
        intro m h hq
        have h1 := hq 0 (by simp)
        have h2 := ih (m - 1) (by simp at h; omega) (fun j hj => by have := hq (j + 1) (by simp; omega); simpa using this)
        simp only [List.length_cons] at h
        simp only [List.getElem_cons_zero] at h1
        rw [List.flatten_cons, List.length_append]
        omega
    have hlast : (partsL 2 8192 s) = (partsL 2 8192 s).take k ++ [(partsL 2 8192 s)[k]] := by
      rw [← List.take_succ_eq_append_getElem hk, List.take_of_length_le (by omega)]
    have h3 := congrArg (fun q => q.flatten.length) hlast
    simp only [List.flatten_append, List.length_append, List.flatten_cons, List.flatten_nil, List.append_nil] at h3
    rw [hf, hs] at h3
    have h4 := hsum ((partsL 2 8192 s).take k) k (by rw [List.length_take]; omega) (fun j hj => by
      rw [List.getElem_take]
      exact (he j (by rw [List.length_take] at hj; omega)).2.1)
    have h5 := (he k hk).2.1
    omega
set_option maxHeartbeats 2000000 in
theorem numbers_any (s : List UInt8) (n : Nat) (w : World) (hs : s.length = 2 * n) (hn : n ≤ 100) (hn0 : 0 < n) :
    Calls Tryz.prog 71 #[str s] w fun e w' => ∃ g, e = .returned (.slice (some ⟨g, 0, none⟩) n n) ∧ w'.heap[g]? = some (.cells (numCells (numsL s)) 24 (0, 0)) ∧ w.heap.size ≤ g ∧ Below w.heap.size w w' := by
  obtain ⟨hpl, hpe⟩ := parts_two s n hs hn
  have hpm := partsL_map2 8192 s (by omega) n hs
  have HS := Lib.hid fun W => split_ok s 2 W (by omega) (by omega) (by omega)
  have hmk := make_nums n (by omega)
  generalize partsL 2 8192 s = ps at *
  rw [← hpm]
  have HPE := Lib.hid hpe
  clear hpm hpe
  go_enter Tryz.func71, Tryz.ntmps71
  go_wp2_with fail
  refine (HS.out _).mono ?_
  rintro e w1 ⟨v, rfl, hown, hb1⟩
  obtain ⟨A, c, rfl, hc⟩ := row_of_own hown
  rw [List.length_map, hpl]
  have Hc := Lib.hid hc
  clear hc hown
  go_wp2_with fail
  go_loopw [20] (fun i wr => ∃ k : Nat, k ≤ n ∧ i = .int .i64 k ∧ wr.heap[w1.heap.size]? = some (.cells (numCells ((ps.take k).map leV ++ List.replicate (n - k) 0)) 24 (0, 0)) ∧ Below w1.heap.size w1 wr) (fun i _ => n - (nOf i).toNat)
  case atStart => exact ⟨0, Nat.zero_le _, rfl, by simpa using heap_alloc_new w1 _, (Below.refl _ _).alloc (Nat.le_refl _) _⟩
  case round =>
    obtain ⟨k, hk, rfl, hg, hb⟩ := hrel
    by_cases hlt2 : k < n
    · have hkp : k < ps.length := by omega
      obtain ⟨p, hpe⟩ : ∃ p, p = ps[k] := ⟨_, rfl⟩
      have hp2 : p.length = 2 := by rw [hpe]; exact HPE.out k hkp
      obtain ⟨g, rfl, hcell⟩ := Hc.out k (str p) (by rw [hpe]; simp [hkp])
      have hcell1 : wr.cell? ⟨g, k, none⟩ = some (str p) := (hb.cell (p := ⟨g, k, none⟩) (World.block_lt_of_cell? w1 _ hcell)).trans hcell
      have hv16 : leV p < 65536 := by have := leV_lt p; rw [hp2] at this; exact this
      have hfr := frozen_of_row wr w1.heap.size k _ 24 hg
      have hold : wr.cell? ⟨w1.heap.size, k, none⟩ = some (w16 0) := by
        have hl : ((ps.take k).map leV).length = k := by simp; omega
        rw [cell_of_row wr w1.heap.size k _ 24 (0, 0) hg, numCells_at _ k 0]
        rw [List.getElem?_append_right (by omega), hl, Nat.sub_self, List.getElem?_replicate, if_pos (by omega)]
      have hset : ((ps.take k).map leV ++ List.replicate (n - k) 0).set k (leV p) = (ps.take (k + 1)).map leV ++ List.replicate (n - (k + 1)) 0 := by
        have hl : ((ps.take k).map leV).length = k := by simp; omega
        rw [List.set_append_right _ _ (by omega), hl, Nat.sub_self, show n - k = (n - (k + 1)) + 1 by omega, List.replicate_succ, List.set_cons_zero, List.take_succ_eq_append_getElem hkp, List.map_append, ← hpe]
        simp
      have HG := Lib.hid hg
      have HSET := Lib.hid hset
      have HN := Lib.hid fun W => get_ok p W (by omega)
      clear hg hset hcell hpe
      generalize leV p = q at *
      go_wp2_with fail
      refine (HN.out _).mono ?_
      rintro e w2 ⟨rfl, hb2⟩
      have hlt1 : w1.heap.size < wr.heap.size := World.block_lt_of_cell? wr _ hold
      have hold2 : w2.cell? ⟨w1.heap.size, k, none⟩ = some (w16 0) := (hb2.cell (p := ⟨w1.heap.size, k, none⟩) hlt1).trans hold
      have hfr2 : w2.frozen? ⟨w1.heap.size, k, none⟩ = false := (hb2.frozen (p := ⟨w1.heap.size, k, none⟩) hlt1).trans hfr
      have hg2 := (hb2.block w1.heap.size hlt1).trans HG.out
      have HG2 := Lib.hid hg2
      clear hg2
      go_wp2
      go_roundw
      case rel => exact ⟨k + 1, by omega, by go_num, by rw [← HSET.out]; exact blk_set_num HG2.out q, (hb.trans (hb2.mono hb.size)).setCell (Nat.le_refl _) _⟩
      case measure => simp [nOf]; omega
    · have : k = n := by omega
      subst this
      rw [← hpl, List.take_length, Nat.sub_self] at hg
      go_wp2
      go_ret
      exact ⟨_, rfl, by simpa using hg, hb1.size, chain hb1 hb⟩
end Go.Proofs.YtdddennhdbmolaaGreat
/- Layer 7 (inode): what a block lists; the document's answer, and that both are the same. -/
namespace Go.Proofs.YtdddennhdbmolaaGreat
open Go.RowKit
set_option linter.unusedVariables false
set_option linter.unusedSimpArgs false
set_option maxRecDepth 10000
set_option maxHeartbeats 400000 in
theorem told_short (s : List UInt8) (w : World) (h : s.length < 64) :
    Calls Tryz.prog 48 #[str s] w fun e w' => e = .returned (.tuple #[.slice none 0 0, .int .i64 6]) ∧ Below w.heap.size w w' := by
  have HS := Lib.hid fun W => sized_short s 64 W (by unfold maxLen; omega) (by omega) h
  go_enter Tryz.func48, Tryz.ntmps48
  go_wp2_with fail
  refine (HS.out _).mono ?_
  rintro e w1 ⟨rfl, rfl⟩
  go_wp2
  go_ret2
  exact ⟨rfl, Below.refl _ _⟩
set_option maxHeartbeats 400000 in
theorem told_long (s : List UInt8) (w : World) (hs : s.length ≤ 1000000) (h : 64 < s.length) :
    Calls Tryz.prog 48 #[str s] w fun e w' => e = .returned (.tuple #[.slice none 0 0, .int .i64 7]) ∧ Below w.heap.size w w' := by
  have HS := Lib.hid fun W => sized_long s 64 W (by unfold maxLen; omega) (by omega) h
  go_enter Tryz.func48, Tryz.ntmps48
  go_wp2_with fail
  refine (HS.out _).mono ?_
  rintro e w1 ⟨rfl, rfl⟩
  go_wp2
  go_ret2
  exact ⟨rfl, Below.refl _ _⟩
set_option maxHeartbeats 400000 in
theorem told_ok (s : List UInt8) (w : World) (h : s.length = 64) :
    Calls Tryz.prog 48 #[str s] w fun e w' => ∃ v, e = .returned (.tuple #[v, .int .i64 0]) ∧ U16s w' v (numsL s) ∧ Below w.heap.size w w' := by
  have HS := Lib.hid fun W => sized_ok s 64 W (by omega) h
  have HN := Lib.hid fun W => numbers_any s 32 W h (by omega) (by omega)
  have hl : (numsL s).length = 32 := by rw [numsL_length, h]
  have HL := Lib.hid hl
  clear hl
  go_enter Tryz.func48, Tryz.ntmps48
  go_wp2_with fail
  refine (HS.out _).mono ?_
  rintro e w1 ⟨rfl, rfl⟩
  go_wp2_with fail
  refine (HN.out _).mono ?_
  rintro e w2 ⟨g, rfl, hg, hgw, hb2⟩
  have HG := Lib.hid hg
  clear hg
  go_wp2
  go_ret2
  exact ⟨_, rfl, u16s_row HG.out HL.out (fun j m hj => numCells_at _ j m hj), hb2⟩
set_option maxHeartbeats 400000 in
theorem refTold_short (s : List UInt8) (w : World) (h : s.length < 64) :
    Calls Tryz.prog 91 #[str s] w fun e w' => e = .returned (.tuple #[.slice none 0 0, .int .i64 6]) ∧ Below w.heap.size w w' := by
  go_enter Tryz.func91, Tryz.ntmps91
  go_wp2
  go_ret2
  exact ⟨rfl, Below.refl _ _⟩
set_option maxHeartbeats 400000 in
theorem refTold_long (s : List UInt8) (w : World) (hs : s.length ≤ 1000000) (h : 64 < s.length) :
    Calls Tryz.prog 91 #[str s] w fun e w' => e = .returned (.tuple #[.slice none 0 0, .int .i64 7]) ∧ Below w.heap.size w w' := by
  go_enter Tryz.func91, Tryz.ntmps91
  go_wp2
  go_ret2
  exact ⟨rfl, Below.refl _ _⟩
theorem own_drewN {w : World} {base : Nat} {e : TypeId} {v : Value} {n : Nat} {xs : List Value} (h : w.ownsRow base e 1 v n xs) (m : Nat) : (w.drewN m).ownsRow base e 1 v n xs :=
  own_below h ((below_drewN (Below.refl _ w) m))
set_option maxHeartbeats 1000000 in
theorem refTold_ok (s : List UInt8) (w : World) (h : s.length = 64) :
    Calls Tryz.prog 91 #[str s] w fun e w' => ∃ v, e = .returned (.tuple #[v, .int .i64 0]) ∧ U16s w' v (numsL s) ∧ Below w.heap.size w w' := by
  go_enter Tryz.func91, Tryz.ntmps91
  go_wp2_with fail
  go_loopw [4, 5] (fun v i wr => ∃ k : Nat, k ≤ 32 ∧ i = .int .i64 k ∧ wr.ownsRow w.heap.size 24 1 v k ((List.range k).map fun j => w16 (num2 s j)) ∧ Below w.heap.size w wr) (fun _ i _ => 32 - (nOf i).toNat)
  case atStart => exact ⟨0, Nat.zero_le _, rfl, World.ownsRow_nil _ _ _ _, Below.refl _ _⟩
  case round =>
    obtain ⟨k, hk, rfl, hown, hb⟩ := hrel
    by_cases hlt2 : k < 32
    · have HA := Lib.hid fun W => twoAt_any s k (2 * (k : Int)) (by omega) W (by omega) (by omega)
      have hsnoc : ((List.range k).map fun j => w16 (num2 s j)) ++ [w16 (num2 s k)] = (List.range (k + 1)).map fun j => w16 (num2 s j) := by
        rw [List.range_succ, List.map_append]; rfl
      have Hsnoc := Lib.hid hsnoc
      clear hsnoc
      go_wp2_with fail
      refine (HA.out _).mono ?_
      rintro e w1 ⟨rfl, q, rfl⟩
      have hown1 := own_drewN hown q
      have hbw1 := below_drewN hb q
      go_wp2_with (at_builtin; refine wpList_append_one rfl _ _ _ rfl 24 _ 2 Tryz.underlying37 uint16Info rfl _ _ _ rfl hown1 (w16 (num2 s k)) _ _ rfl rfl rfl (by simp only [maxLen]; omega) (by omega) hbw1 ?_; intro v' w2 hown2 hbw2)
      go_roundw
      case rel => exact ⟨k + 1, by omega, by go_num, by rw [← Hsnoc.out]; exact hown2, hbw2⟩
      case measure => simp [nOf]; omega
    · have : k = 32 := by omega
      subst this
      go_wp2
      go_ret2
      refine ⟨_, rfl, ?_, hb⟩
      obtain ⟨A, c, hv, hc⟩ := row_of_own hown
      have e : numsL s = (List.range 32).map (num2 s) := by unfold numsL; rw [h]
      refine ⟨A, c, by rw [hv, e]; simp, fun j n hj => ?_⟩
      rw [e] at hj
      obtain ⟨g, hA, hcell⟩ := hc j (w16 n) (by
        rw [List.getElem?_map, Option.map_eq_some_iff] at hj
        obtain ⟨j', hj', rfl⟩ := hj
        rw [List.getElem?_map, hj']
        rfl)
      refine ⟨⟨g, 0, none⟩, hA, ?_⟩
      have e2 : (⟨g, 0, none⟩ : Addr).add j = ⟨g, j, none⟩ := by unfold Addr.add; split <;> simp_all
      rw [e2]; exact hcell
set_option maxHeartbeats 1000000 in
theorem sameNums_any (l : List Nat) (v1 v2 : Value) (w : World) (h1 : U16s w v1 l) (h2 : U16s w v2 l) (hl : l.length ≤ 100000) :
    Calls Tryz.prog 24 #[v1, v2] w fun e w' => e = .returned (.bool true) ∧ Below w.heap.size w w' := by
  obtain ⟨A1, c1, rfl, hc1⟩ := h1
  obtain ⟨A2, c2, rfl, hc2⟩ := h2
  have H1 := Lib.hid hc1
  have H2 := Lib.hid hc2
  clear hc1 hc2
  go_enter Tryz.func24, Tryz.ntmps24
  go_wp2_with fail
  go_loopw [5] (fun i wr => ∃ k : Nat, k ≤ l.length ∧ i = .int .i64 k ∧ Below w.heap.size w wr) (fun i _ => l.length - (nOf i).toNat)
  case atStart => exact ⟨0, Nat.zero_le _, rfl, Below.refl _ _⟩
  case round =>
    obtain ⟨k, hk, rfl, hb⟩ := hrel
    by_cases hlt2 : k < l.length
    · obtain ⟨b, hbe⟩ : ∃ b, b = l[k] := ⟨_, rfl⟩
      obtain ⟨a1, rfl, hx1⟩ := H1.out k b (by rw [hbe]; simp [hlt2])
      obtain ⟨a2, rfl, hx2⟩ := H2.out k b (by rw [hbe]; simp [hlt2])
      have hy1 : wr.cell? (a1.add k) = some (w16 b) := (hb.cell (World.block_lt_of_cell? w _ hx1)).trans hx1
      have hy2 : wr.cell? (a2.add k) = some (w16 b) := (hb.cell (World.block_lt_of_cell? w _ hx2)).trans hx2
      clear hx1 hx2 hbe
      go_wp2_with fail
      go_quiet (fail)
      go_wp2
      go_roundw
      case rel => exact ⟨k + 1, by omega, by go_num, below_drewN hb _⟩
      case measure => simp [nOf]; omega
    · have : k = l.length := by omega
      subst this
      go_wp2
      go_ret
      exact ⟨rfl, hb⟩
end Go.Proofs.YtdddennhdbmolaaGreat
