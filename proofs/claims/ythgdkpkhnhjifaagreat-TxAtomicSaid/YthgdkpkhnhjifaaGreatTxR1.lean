/- Layer 8 (tx): the document's answer: a transaction of its own; where a sector stands, what it reads. -/
import Derived.Test.YthgdkpkhnhjifaaGreatM17
import Derived.Test.YthgdkpkhnhjifaaGreatTx6
namespace Go.Proofs.YthgdkpkhnhjifaaGreat
open Go.RowKit Go.Maps
set_option linter.unusedVariables false
set_option linter.unusedSimpArgs false
set_option maxRecDepth 10000
theorem OwnP.kept {W W' : World} {base : Nat} {v : Value} {l : PutI} (h : OwnP W base v l) (hb : ∀ k, v.ownBlock = some k → W'.heap[k]? = W.heap[k]?) : OwnP W' base v l := by
  refine ⟨h.1, ?_⟩
  rcases h.2 with h0 | ⟨g, cap, cur, hv, h1, hg, hr⟩
  · exact .inl h0
  · exact .inr ⟨g, cap, cur, hv, h1, (hb g (by rw [hv]; rfl)).trans hg, hr⟩
theorem OwnP.low {W : World} {base : Nat} {v : Value} {l : PutI} (h : OwnP W base v l) : OwnP W 0 v l := by
  refine ⟨h.1, ?_⟩
  rcases h.2 with h0 | ⟨g, cap, cur, hv, h1, hg, hr⟩
  · exact .inl h0
  · exact .inr ⟨g, cap, cur, hv, Nat.zero_le _, hg, hr⟩
/-- The document's transaction at rb: its sectors are v's; it has written L, which u holds. -/
structure RefIn (W : World) (rb : Nat) (v u : Value) (L : PutL) (most : Nat) : Prop where
  c0 : W.cell? ⟨rb, 0, none⟩ = some v
  c1 : W.cell? ⟨rb, 1, none⟩ = some u
  c2 : W.cell? ⟨rb, 2, none⟩ = some (.int .i64 (most : Int))
  c3 : W.cell? ⟨rb, 3, none⟩ = some (.bool false)
  f1 : W.frozen? ⟨rb, 1, none⟩ = false
  f3 : W.frozen? ⟨rb, 3, none⟩ = false
  own : OwnP W 0 u (castL L)
  far : ∀ k, u.ownBlock = some k → k ≠ rb
  asc : asc L
  small : L.length ≤ 4096
theorem RefIn.kept {W W' : World} {rb : Nat} {v u : Value} {L : PutL} {most : Nat} (h : RefIn W rb v u L most) (h1 : W'.heap[rb]? = W.heap[rb]?) (h2 : ∀ k, u.ownBlock = some k → W'.heap[k]? = W.heap[k]?) : RefIn W' rb v u L most :=
  { h with
    c0 := (cell_same 0 h1).trans h.c0
    c1 := (cell_same 1 h1).trans h.c1
    c2 := (cell_same 2 h1).trans h.c2
    c3 := (cell_same 3 h1).trans h.c3
    f1 := (World.frozen?_of_block (a := ⟨rb, 1, none⟩) h1).trans h.f1
    f3 := (World.frozen?_of_block (a := ⟨rb, 3, none⟩) h1).trans h.f3
    own := h.own.kept h2 }
theorem RefIn.lt {W : World} {rb : Nat} {v u : Value} {L : PutL} {most : Nat} (h : RefIn W rb v u L most) : rb < W.heap.size ∧ ∀ k, u.ownBlock = some k → k < W.heap.size :=
  ⟨World.block_lt_of_cell? W _ h.c0, fun k hk => (h.own.lt k hk).2⟩
theorem RefIn.below {W W' : World} {rb : Nat} {v u : Value} {L : PutL} {most : Nat} (h : RefIn W rb v u L most) (hb : Below W.heap.size W W') : RefIn W' rb v u L most :=
  h.kept (hb.block rb h.lt.1) fun k hk => hb.block k (h.lt.2 k hk)
def refR (rb : Nat) (v : Value) (L : PutL) (most : Nat) : Res where
  at_ S W := ∃ u, RefIn W rb v u L most ∧ ∀ k, S k ↔ k = rb ∨ u.ownBlock = some k
  lt S W h k hk := by
    obtain ⟨u, h1, h2⟩ := h
    rcases (h2 k).1 hk with rfl | h3
    · exact h1.lt.1
    · exact h1.lt.2 k h3
  kept S W W' h hs hb := by
    obtain ⟨u, h1, h2⟩ := h
    exact ⟨u, h1.kept (hb rb ((h2 rb).2 (.inl rfl))) (fun k hk => hb k ((h2 k).2 (.inr hk))), h2⟩
section
variable {W : World} {rb : Nat} {v u : Value} {L : PutL} {most : Nat}
/-- The cells of a row of writes. -/
theorem RefIn.row (h : RefIn W rb v u L most) : ∃ A c, u = .slice A L.length c ∧ (L.length ≤ c) ∧ (A = none → L.length = 0 ∧ c = 0) ∧ ∀ j (hj : j < L.length), ∃ g, A = some ⟨g, 0, none⟩ ∧ W.cell? ⟨g, j * 2, none⟩ = some (.int .i64 (L[j].1 : Int)) ∧ W.cell? ⟨g, j * 2 + 1, none⟩ = some (str L[j].2) := by
  have hcl := castL_length L
  have ho := h.own
  rcases ho.2 with ⟨rfl, h0⟩ | ⟨g, cap, cur, hv, -, -, hcap, -⟩
  · rw [hcl] at h0
    exact ⟨none, 0, by rw [h0], by omega, fun _ => ⟨h0, rfl⟩, fun j hj => by omega⟩
  · rw [hcl] at hv hcap
    subst hv
    refine ⟨some ⟨g, 0, none⟩, cap, rfl, hcap, (fun e => by cases e), fun j hj => ⟨g, rfl, ?_⟩⟩
    obtain ⟨e1, e2⟩ := putC_at (castL L) j (by rw [hcl]; exact hj)
    have ho' : W.ownsRow 0 81 2 (.slice (some ⟨g, 0, none⟩) L.length cap) L.length (putC (castL L)) := by
      have := ho
      unfold OwnP at this
      rwa [hcl] at this
    have r0 := (ho'.cellAt (j * 2) (by omega)).trans e1
    have r1 := (ho'.cellAt (j * 2 + 1) (by omega)).trans e2
    refine ⟨r0.trans (by simp [castL]), r1.trans (by simp [castL])⟩
set_option maxHeartbeats 1000000 in
theorem at_any (h : RefIn W rb v u L most) (i : Nat) : Calls Tryz.prog 48 #[devp rb, .int .i64 (i : Int)] W fun e w' => e = .returned (.tuple #[.int .i64 (place L i : Int), .bool (look L i).isSome]) ∧ Below W.heap.size W w' := by
  have hsm := h.small
  obtain ⟨A, c, rfl, hcap, -, hrow⟩ := h.row
  have HR := Lib.hid hrow
  have c1 := h.c1
  obtain ⟨m, r, hm, hr, hpl, hlt, hcase⟩ : ∃ m r, place L i = m ∧ (look L i).isSome = r ∧ m ≤ L.length ∧ (∀ j (hj : j < L.length), j < m → (L[j]).1 < i) ∧ ((m = L.length ∧ r = false) ∨ ∃ hk : m < L.length, i ≤ (L[m]).1 ∧ (((L[m]).1 : Int) == (i : Int)) = r) := by
    refine ⟨_, _, rfl, rfl, place_le L i, place_lt L i, ?_⟩
    have hlk := look_place h.asc i
    by_cases hkl : place L i < L.length
    · rw [dif_pos hkl] at hlk
      refine .inr ⟨hkl, place_ge L i hkl, ?_⟩
      rw [hlk]
      by_cases e : (L[place L i]).1 = i
      · rw [if_pos e, e]; simp
      · rw [if_neg e]; simp; omega
    · rw [dif_neg hkl] at hlk
      have := place_le L i
      exact .inl ⟨by omega, by rw [hlk]; rfl⟩
  have HL := Lib.hid hlt
  rw [hm, hr]
  clear h hrow hm hr hlt
  go_enter Tryz.func48, Tryz.ntmps48
  go_wp2_with fail
  go_loopw [6] (fun q wr => ∃ k : Nat, k ≤ m ∧ q = .int .i64 k ∧ W = wr) (fun q _ => L.length - (intOf q).toNat)
  case atStart => exact ⟨0, Nat.zero_le _, rfl, rfl⟩
  case round =>
    obtain ⟨k, hk, rfl, rfl⟩ := hrel
    by_cases hkp : k < m
    · obtain ⟨g, rfl, r0, -⟩ := HR.out k (by omega)
      have hd := HL.out k (by omega) hkp
      generalize (L[k]'(by omega)).1 = x at hd r0
      have d1 : (k : Int) < (L.length : Int) := by omega
      have d2 : decide ((x : Int) < (i : Int)) = true := decide_eq_true (by omega)
      clear hcase
      go_wp2_with fail
      go_roundw
      case rel => exact ⟨k + 1, by omega, by simp, by trivial⟩
      case measure => simp [intOf]; omega
    · obtain rfl : k = m := by omega
      rcases hcase with ⟨hkl, rfl⟩ | ⟨hkl, hge, hbe⟩
      · have d1 : decide ((k : Int) < (L.length : Int)) = false := decide_eq_false (by omega)
        have d3 : decide (k < L.length) = false := decide_eq_false (by omega)
        clear hkl
        go_wp2_with fail
        go_quiet (fail)
        go_wp2_with fail
        go_ret2
        exact ⟨rfl, below_drewN (Below.refl _ _) _⟩
      · obtain ⟨g, rfl, r0, -⟩ := HR.out _ hkl
        generalize (L[k]).1 = x at hge r0 hbe
        have d1 : decide ((k : Int) < (L.length : Int)) = true := decide_eq_true (by omega)
        have d1' : (k : Int) < (L.length : Int) := by omega
        have d2 : decide ((x : Int) < (i : Int)) = false := decide_eq_false (by omega)
        have d3 : decide (k < L.length) = true := decide_eq_true (by omega)
        have d4 : decide (x < i) = false := decide_eq_false (by omega)
        go_wp2_with fail
        go_quiet (fail)
        go_wp2_with fail
        go_ret2
        exact ⟨rfl, below_drewN (Below.refl _ _) _⟩
theorem refRead_out (h : RefIn W rb v u L most) {ss : List (List UInt8)} (hv : Txt W v ss) (hs : ss.length ≤ 4096) (i : Int) (hi : i < 0 ∨ (ss.length : Int) ≤ i) :
    Calls Tryz.prog 38 #[devp rb, .int .i64 i] W fun e w' => e = .returned (.tuple #[str [], .int .i64 2]) ∧ Below W.heap.size W w' := by
  obtain ⟨A, c, rfl, -⟩ := hv.at
  have c0 := h.c0
  have c3 := h.c3
  clear h hv
  by_cases h0 : i < 0
  · have hd : decide (i < 0) = true := decide_eq_true h0
    go_enter Tryz.func38, Tryz.ntmps38
    go_wp2_with fail
    go_ret2
    exact ⟨rfl, Below.refl _ _⟩
  · have hd : decide (i < 0) = false := decide_eq_false h0
    have hd2 : decide ((ss.length : Int) ≤ i) = true := decide_eq_true (by omega)
    clear hi
    go_enter Tryz.func38, Tryz.ntmps38
    go_wp2_with fail
    go_ret2
    exact ⟨rfl, Below.refl _ _⟩
theorem refRead_any (h : RefIn W rb v u L most) {N : Nat} {f : Nat → List UInt8} (hv : Txt W v (secs N f)) (hN : N ≤ 4096) (i : Nat) (hi : i < N) :
    Calls Tryz.prog 38 #[devp rb, .int .i64 (i : Int)] W fun e w' => e = .returned (.tuple #[str ((look L i).getD (f i)), .int .i64 0]) ∧ Below W.heap.size W w' := by
  obtain ⟨A, c, rfl, hcell⟩ := hv.at
  obtain ⟨g0, rfl, hc⟩ := hcell i (by rw [secs_length]; exact hi)
  rw [secs_get] at hc
  have c0 := h.c0
  have c1 := h.c1
  have c3 := h.c3
  have hlk := look_place h.asc i
  rw [secs_length] at c0
  obtain ⟨A, c', rfl, hcap, -, hrow⟩ := h.row
  have HA := Lib.hid (at_any h i)
  have hd : decide ((i : Int) < 0) = false := decide_eq_false (by omega)
  have hd2 : decide ((N : Int) ≤ (i : Int)) = false := decide_eq_false (by omega)
  have hI : (i : Int) < (N : Int) := by omega
  have hlt1 := World.block_lt_of_cell? W _ hc
  have hlt2 := h.lt.1
  cases hl : look L i with
  | none =>
    rw [hl] at HA
    simp only [Option.isSome, Option.getD] at HA ⊢
    generalize place L i = k at *
    generalize f i = d at *
    clear h hv hcell hrow hlk hl
    go_enter Tryz.func38, Tryz.ntmps38
    go_wp2_with fail
    refine HA.out.mono ?_
    rintro e w1 ⟨rfl, hb⟩
    have k0 := (hb.cell hlt2).trans c0
    have k1 := (hb.cell hlt1).trans hc
    have HB := Lib.hid hb
    clear hb
    go_wp2_with fail
    go_ret2
    exact ⟨rfl, HB.out⟩
  | some d =>
    obtain ⟨hk, he⟩ := place_some h.asc hl
    obtain ⟨g, rfl, r0, r1⟩ := hrow _ hk
    rw [he] at r0 r1
    rw [hl] at HA
    simp only [Option.isSome, Option.getD] at HA ⊢
    simp only at r0 r1
    have hlt3 := World.block_lt_of_cell? W _ r1
    have hki : (place L i : Int) < (L.length : Int) := by omega
    have hsm := h.small
    generalize place L i = k at *
    clear h hv hcell hrow hlk hl he
    go_enter Tryz.func38, Tryz.ntmps38
    go_wp2_with fail
    refine HA.out.mono ?_
    rintro e w1 ⟨rfl, hb⟩
    have k1 := (hb.cell hlt2).trans c1
    have k2 := (hb.cell hlt3).trans r1
    have HB := Lib.hid hb
    clear hb
    go_wp2_with fail
    go_ret2
    exact ⟨rfl, HB.out⟩
end
end Go.Proofs.YthgdkpkhnhjifaaGreat
