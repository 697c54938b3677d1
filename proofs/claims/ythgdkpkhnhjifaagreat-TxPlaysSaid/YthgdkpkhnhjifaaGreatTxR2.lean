/- Layer 8 (tx): the document's answer: Write. -/
import Derived.Test.YthgdkpkhnhjifaaGreatTxR1
namespace Go.Proofs.YthgdkpkhnhjifaaGreat
open Go.RowKit Go.Maps
set_option linter.unusedVariables false
set_option linter.unusedSimpArgs false
set_option maxRecDepth 10000
/-- append(l, u...). -/
theorem append_puts (W : World) (base : Nat) (v : Value) (l : PutI) (h : OwnP W base v l) (u : Value) (l2 : PutI) (hu : Puts W u l2) (hp : u = .slice none 0 0 ∨ ∃ a c, u = .slice (some a) l2.length c) (hl : l.length + l2.length ≤ 1048576) (hb : base ≤ W.heap.size) :
    ∃ v' W', (putAppend #[v, u]).run Tryz.prog W = .ok v' W' ∧ OwnP W' base v' (l ++ l2) ∧ W.grownBy W' v.ownBlock ∧ (v'.ownBlock = v.ownBlock ∨ v'.ownBlock = some W.heap.size) := by
  obtain ⟨i, hi, hz, hsz, hby⟩ := info_parts putInfo
  rcases hp with rfl | ⟨a, c, rfl⟩
  · obtain ⟨A, c, e, hc⟩ := hu
    have hl0 : l2 = [] := by injection e with e1 e2 e3; exact List.length_eq_zero_iff.1 e2.symm
    subst hl0
    rw [List.append_nil]
    exact ⟨v, W, run_append_owned_none W base 37 37 81 i 2 Tryz.underlying37 hi v _ _ h, h, ⟨rfl, rfl, rfl, Nat.le_refl _, fun _ _ _ => rfl⟩, .inl rfl⟩
  · obtain ⟨A, c2, e, hc⟩ := hu
    obtain ⟨rfl, rfl⟩ : A = some a ∧ c2 = c := by injection e with e1 e2 e3; exact ⟨e1.symm, e3.symm⟩
    obtain ⟨v', W', hap, hown, hg, _, hor⟩ := run_append_own_at (P := Tryz.prog) (w := W) base 37 37 81 i (.agg #[.int .i64 0, str []]) 2 24 Tryz.underlying37 hi hz hsz hby rfl (by decide) v l.length (putC l) h
      a l2.length c2 (putC l2) (putC_length l2) (fun j u hu => by
        have hj : j < (putC l2).length := (List.getElem?_eq_some_iff.1 hu).1
        rw [putC_length] at hj
        obtain ⟨q, r, rfl, hr⟩ : ∃ q r, j = q * 2 + r ∧ r < 2 := ⟨j / 2, j % 2, by omega, by omega⟩
        have hk : q < l2.length := by omega
        obtain ⟨a', e1, q0, q1⟩ := hc q _ (List.getElem?_eq_getElem hk)
        obtain rfl : a = a' := Option.some.inj e1
        obtain ⟨p0, p1⟩ := putC_at l2 q hk
        match r, hr with
        | 0, _ =>
          rw [Nat.add_zero] at hu ⊢
          rw [p0] at hu
          rw [q0, ← hu]
        | 1, _ =>
          rw [p1] at hu
          rw [behind_add _ _ _ (by decide), q1, ← hu]) (fun u hu => by
        unfold putC at hu
        obtain ⟨p, _, hp⟩ := List.mem_flatMap.1 hu
        simp at hp
        rcases hp with rfl | rfl <;> rfl) (by unfold maxLen; omega) (by omega) hb
    refine ⟨v', W', hap, ?_, hg, hor⟩
    show World.ownsRow _ _ _ _ _ (l ++ l2).length (putC (l ++ l2))
    rw [List.length_append, putC_append]
    exact hown
section
variable {W : World} {rb : Nat} {v u : Value} {L : PutL} {most : Nat}
/-- A part of the row of writes. -/
theorem RefIn.part {g c : Nat} (h : RefIn W rb v (.slice (some ⟨g, 0, none⟩) L.length c) L most) (k n : Nat) (hk : k + n ≤ L.length) (a : Nat) (ha : a = k * 2) (c' : Nat) :
    Puts W (.slice (some ⟨g, a, none⟩) n c') (castL ((L.drop k).take n)) := by
  subst ha
  obtain ⟨A, c1, e, -, -, hrow⟩ := h.row
  have hl : (castL ((L.drop k).take n)).length = n := by rw [castL_length, List.length_take, List.length_drop]; omega
  refine ⟨some ⟨g, k * 2, none⟩, c', by rw [hl], fun j p hj => ⟨_, rfl, ?_⟩⟩
  obtain ⟨hlt, he⟩ := List.getElem?_eq_some_iff.1 hj
  rw [hl] at hlt
  obtain ⟨g', e1, r0, r1⟩ := hrow (k + j) (by omega)
  obtain rfl : g = g' := by injection e with e2; rw [← e2] at e1; injection e1 with e1; injection e1
  have hp : p = ((L[k + j].1 : Int), L[k + j].2) := by
    rw [← he]
    simp [castL]
  subst hp
  rw [show (k + j) * 2 = k * 2 + j * 2 by omega] at r0 r1
  refine ⟨by rw [Addr.add_lit]; exact r0, ?_⟩
  unfold behind
  rw [Addr.add_lit]
  exact r1
theorem refWrite_bad (h : RefIn W rb v u L most) {ss : List (List UInt8)} (hv : Txt W v ss) (hs : ss.length ≤ 4096) (i : Int) (s : List UInt8) (hsl : s.length ≤ 140737488351232) (hi : i < 0 ∨ (ss.length : Int) ≤ i ∨ s.length ≠ 64) :
    Calls Tryz.prog 25 #[devp rb, .int .i64 i, str s] W fun e w' => e = .returned (.int .i64 2) ∧ Below W.heap.size W w' := by
  obtain ⟨A, c, rfl, -⟩ := hv.at
  have c0 := h.c0
  have c3 := h.c3
  clear h hv
  by_cases h0 : i < 0
  · have hd : decide (i < 0) = true := decide_eq_true h0
    go_enter Tryz.func25, Tryz.ntmps25
    go_wp2_with fail
    go_ret
    exact ⟨rfl, Below.refl _ _⟩
  have hd : decide (i < 0) = false := decide_eq_false h0
  by_cases h1 : (ss.length : Int) ≤ i
  · have hd2 : decide ((ss.length : Int) ≤ i) = true := decide_eq_true (by omega)
    clear hi
    go_enter Tryz.func25, Tryz.ntmps25
    go_wp2_with fail
    go_ret
    exact ⟨rfl, Below.refl _ _⟩
  · have hd2 : decide ((ss.length : Int) ≤ i) = false := decide_eq_false (by omega)
    have hd3 : ((s.length : Int) != 64) = true := by simp; omega
    clear hi
    go_enter Tryz.func25, Tryz.ntmps25
    go_wp2_with fail
    go_ret
    exact ⟨rfl, Below.refl _ _⟩
theorem refWrite_full (h : RefIn W rb v u L most) {ss : List (List UInt8)} (hv : Txt W v ss) (hs : ss.length ≤ 4096) (i : Nat) (hi : i < ss.length) (s : List UInt8) (hsl : s.length = 64) (hl : look L i = none) (hm : most ≤ L.length) :
    Calls Tryz.prog 25 #[devp rb, .int .i64 (i : Int), str s] W fun e w' => e = .returned (.int .i64 4) ∧ Below W.heap.size W w' := by
  obtain ⟨A, c, rfl, -⟩ := hv.at
  have c0 := h.c0
  have c3 := h.c3
  have hA := at_any h i
  rw [hl] at hA
  simp only [Option.isSome] at hA
  have HA := Lib.hid hA
  have hd : decide ((i : Int) < 0) = false := decide_eq_false (by omega)
  have hd2 : decide ((ss.length : Int) ≤ (i : Int)) = false := decide_eq_false (by omega)
  have hd3 : ((s.length : Int) != 64) = false := by simp; omega
  have hd4 : decide ((most : Int) ≤ (L.length : Int)) = true := decide_eq_true (by omega)
  have hd5 : decide (most ≤ L.length) = true := decide_eq_true (by omega)
  have c2 := h.c2
  have c1 := h.c1
  have hlt := h.lt.1
  obtain ⟨B, d, rfl, -⟩ := h.row
  clear h hv hA hl hsl
  generalize place L i = k at *
  go_enter Tryz.func25, Tryz.ntmps25
  go_wp2_with fail
  refine HA.out.mono ?_
  rintro e w1 ⟨rfl, hb⟩
  have k1 := (hb.cell hlt).trans c1
  have k2 := (hb.cell hlt).trans c2
  have HB := Lib.hid hb
  clear hb
  go_wp2_with fail
  go_quiet (fail)
  go_wp2_with fail
  go_ret
  exact ⟨rfl, below_drewN HB.out _⟩
/-- A row without some, with one in their place. -/
theorem ins_steps {X : World} (h : RefIn X rb v u L most) (s1 s2 : Value) (a c : PutL) (h1 : Puts X s1 (castL a)) (p1 : s1 = .slice none 0 0 ∨ ∃ q d, s1 = .slice (some q) (castL a).length d)
    (h2 : Puts X s2 (castL c)) (p2 : s2 = .slice none 0 0 ∨ ∃ q d, s2 = .slice (some q) (castL c).length d) (hs2 : ∀ k, s2.ownBlock = some k → k < X.heap.size) (i : Nat) (s : List UInt8) (ha : a.length + c.length ≤ 4096) (hasc : asc (a ++ (i, s) :: c)) (hlen : (a ++ (i, s) :: c).length ≤ 4096) :
    ∃ v1 W1 v2 W2 g3 n3 c3 W3, (putAppend #[.slice none 0 0, s1]).run Tryz.prog X = .ok v1 W1 ∧ (putAppend #[v1, .slice (some ⟨W1.heap.size, 0, none⟩) 1 1]).run Tryz.prog (W1.alloc (.cells #[.int .i64 (i : Int), str s] 81)) = .ok v2 W2 ∧
      W2.cell? ⟨rb, 1, none⟩ = some u ∧ (putAppend #[v2, s2]).run Tryz.prog W2 = .ok (.slice (some ⟨g3, 0, none⟩) n3 c3) W3 ∧ W3.cell? ⟨rb, 1, none⟩ = some u ∧ W3.frozen? ⟨rb, 1, none⟩ = false ∧
      RefIn (W3.setCell ⟨rb, 1, none⟩ (.slice (some ⟨g3, 0, none⟩) n3 c3)) rb v (.slice (some ⟨g3, 0, none⟩) n3 c3) (a ++ (i, s) :: c) most ∧ Only (fun k => k = rb) X (W3.setCell ⟨rb, 1, none⟩ (.slice (some ⟨g3, 0, none⟩) n3 c3)) ∧ X.heap.size ≤ g3 := by
  obtain ⟨base, hbase⟩ : ∃ base, base = X.heap.size := ⟨_, rfl⟩
  have hb : base ≤ X.heap.size := by omega
  have hrb : rb < base := by rw [hbase]; exact h.lt.1
  have hu : ∀ k, u.ownBlock = some k → k < base := by rw [hbase]; exact h.lt.2
  rw [← hbase] at hs2 ⊢
  have hca := castL_length a
  have hcc := castL_length c
  have h0 : OwnP X base (.slice none 0 0) [] := ⟨rfl, .inl ⟨rfl, rfl⟩⟩
  obtain ⟨v1, W1, r1, o1, g1, e1⟩ := append_puts X base _ [] h0 s1 (castL a) h1 p1 (by rw [hca]; simp; omega) hb
  rw [List.nil_append] at o1
  have hs1 := g1.size
  have k1 : ∀ k, k < X.heap.size → W1.heap[k]? = X.heap[k]? := fun k hk => g1.block k hk (by intro e; cases e)
  have b1 : ∀ k, v1.ownBlock = some k → base ≤ k := fun k hk => by
    rcases e1 with e | e
    · rw [e] at hk; cases hk
    · rw [e] at hk; cases hk; exact hb
  obtain ⟨x0, x1⟩ := cells2 W1 (.int .i64 (i : Int)) (str s) 81
  obtain ⟨v2, W2, r2, o2, B2, b2, g2, e2⟩ := append_put (W1.alloc (.cells #[.int .i64 (i : Int), str s] 81)) base base v1 (castL a) ((i : Int), s) (World.ownsRow.alloc o1 _) W1.heap.size 1 x0 x1 (by omega) (by simp; omega) (by simp; omega) b1
  have hs2' : W1.heap.size + 1 ≤ W2.heap.size := by have := g2.size; simpa using this
  have k2 : ∀ k, k < base → W2.heap[k]? = X.heap[k]? := fun k hk => ((B2.block k hk).trans (Below.heap_alloc W1 _ k (by omega))).trans (k1 k (by omega))
  have h2' : Puts W2 s2 (castL c) := h2.kept fun k hk => k2 k (hs2 k hk)
  obtain ⟨v3, W3, r3, o3, g3, e3⟩ := append_puts W2 base v2 _ o2 s2 (castL c) h2' p2 (by rw [List.length_append, hca, hcc]; simp; omega) (by omega)
  have hcast : (castL a ++ [((i : Int), s)]) ++ castL c = castL (a ++ (i, s) :: c) := by simp [castL]
  rw [hcast] at o3
  have hn3 : (castL (a ++ (i, s) :: c)).length = (a.length + c.length) + 1 := by rw [castL_length]; simp; omega
  have o3' := o3
  unfold OwnP at o3'
  rw [hn3] at o3'
  obtain ⟨gg, cap, rfl⟩ := ownsRow_succ o3'
  have hs3 := g3.size
  have k3 : ∀ k, k < base → W3.heap[k]? = X.heap[k]? := fun k hk => (g3.block k (by omega) (fun e => by have := b2 k e.symm; omega)).trans (k2 k hk)
  have hgb : base ≤ gg := by
    rcases e3 with e | e
    · exact b2 gg (by rw [← e]; rfl)
    · have : gg = W2.heap.size := by injection e
      omega
  have hX3 : RefIn W3 rb v u L most := h.kept (k3 rb hrb) fun k hk => k3 k (hu k hk)
  have c21 : W2.cell? ⟨rb, 1, none⟩ = some u := (cell_same 1 (k2 rb hrb)).trans h.c1
  refine ⟨v1, W1, v2, W2, gg, _, cap, W3, r1, r2, c21, r3, hX3.c1, hX3.f1, ?_, ?_, hgb⟩
  · refine ⟨(set_there W3 rb _ (by decide)).trans hX3.c0, set_here _ hX3.c1, (set_there W3 rb _ (by decide)).trans hX3.c2, (set_there W3 rb _ (by decide)).trans hX3.c3, by rw [World.frozen?_setCell]; exact hX3.f1, by rw [World.frozen?_setCell]; exact hX3.f3, ?_, (fun k hk => by cases hk; show gg ≠ rb; omega), hasc, hlen⟩
    have o4 := ownsRow_setCell_below (a := ⟨rb, 1, none⟩) o3 hrb (.slice (some ⟨gg, 0, none⟩) (a.length + c.length + 1) cap)
    exact OwnP.low (base := base) o4
  · refine ⟨?_, ?_, ?_, by rw [set_size]; omega, fun k hk hn => ?_⟩
    · exact g3.os.trans (B2.os.trans g1.os)
    · exact g3.tape.trans (B2.tape.trans g1.tape)
    · exact g3.output.trans (B2.output.trans g1.output)
    · rw [set_other _ _ _ _ _ hn]
      exact k3 k (by omega)
theorem castL_take (L : PutL) (k : Nat) (h : k ≤ L.length) : (castL (L.take k)).length = k := by rw [castL_length, List.length_take]; omega
theorem castL_drop (L : PutL) (k : Nat) : (castL (L.drop k)).length = L.length - k := by rw [castL_length, List.length_drop]
/-- The row of writes, as two slices of it: those below, those from there on. -/
theorem RefIn.cut {g c : Nat} (h : RefIn W rb v (.slice (some ⟨g, 0, none⟩) L.length c) L most) (k : Nat) (hk : k ≤ L.length) (q : Nat) (hq : q = k * 2 ∨ k = L.length) (c1 c2 : Nat) :
    Puts W (.slice (some ⟨g, 0, none⟩) k c1) (castL (L.take k)) ∧ Puts W (.slice (some ⟨g, q, none⟩) (L.length - k) c2) (castL (L.drop k)) := by
  refine ⟨?_, ?_⟩
  · have := h.part 0 k (by omega) 0 rfl c1
    rwa [List.drop_zero] at this
  · rcases hq with rfl | rfl
    · have := h.part k (L.length - k) (by omega) _ rfl c2
      rwa [List.take_of_length_le (by rw [List.length_drop]; exact Nat.le_refl _)] at this
    · rw [List.drop_length, Nat.sub_self]
      exact ⟨_, c2, rfl, fun j p hj => by simp [castL] at hj⟩
set_option maxHeartbeats 1000000 in
theorem refWrite_ok (h : RefIn W rb v u L most) {ss : List (List UInt8)} (hv : Txt W v ss) (hs : ss.length ≤ 4096) (i : Nat) (hi : i < ss.length) (s : List UInt8) (hsl : s.length = 64) (hl : (look L i).isSome = true ∨ L.length < most) (hm : most ≤ 256) (hL : L.length ≤ most) :
    Calls Tryz.prog 25 #[devp rb, .int .i64 (i : Int), str s] W fun e w' => e = .returned (.int .i64 0) ∧ ∃ u', RefIn w' rb v u' (ins L i s) most ∧ Only (fun k => k = rb) W w' ∧ ∀ k, u'.ownBlock = some k → W.heap.size ≤ k := by
  obtain ⟨A0, c0', rfl, -⟩ := hv.at
  have c0 := h.c0
  have c3 := h.c3
  have hA := at_any h i
  have hd : decide ((i : Int) < 0) = false := decide_eq_false (by omega)
  have hd2 : decide ((ss.length : Int) ≤ (i : Int)) = false := decide_eq_false (by omega)
  have hd3 : ((s.length : Int) != 64) = false := by simp; omega
  have c2 := h.c2
  have c1 := h.c1
  have hlt := h.lt.1
  have hpl := place_le L i
  have hasc := asc_ins h.asc i s
  have hll := ins_length h.asc i s
  have hin : ∃ m', m' ≤ L.length ∧ m' = place L i + (if (look L i).isSome then 1 else 0) ∧ ins L i s = L.take (place L i) ++ (i, s) :: L.drop m' := by
    cases hk : look L i with
    | none => exact ⟨_, hpl, rfl, ins_new h.asc s hk⟩
    | some d =>
      obtain ⟨h1, -⟩ := place_some h.asc hk
      exact ⟨place L i + 1, h1, rfl, ins_old h.asc s (by rw [hk]; rfl)⟩
  obtain ⟨m', hm', hme, hins⟩ := hin
  rw [hins] at hasc hll ⊢
  have HI := Lib.hid h
  have hbig : (L.take (place L i) ++ (i, s) :: L.drop m').length ≤ 4096 := by rw [hll]; split <;> omega
  have hfin : ∀ X g3 n3 c3 W3, Below W.heap.size W X → X.heap.size ≤ g3 → RefIn W3 rb (.slice A0 ss.length c0') (.slice (some ⟨g3, 0, none⟩) n3 c3) (L.take (place L i) ++ (i, s) :: L.drop m') most → Only (fun k => k = rb) X W3 →
      ∃ u', RefIn W3 rb (.slice A0 ss.length c0') u' (L.take (place L i) ++ (i, s) :: L.drop m') most ∧ Only (fun k => k = rb) W W3 ∧ ∀ k, u'.ownBlock = some k → W.heap.size ≤ k := fun X g3 n3 c3 W3 hb hg hR hO =>
    ⟨_, hR, (Only.of_below hb).trans hO (fun j hj => .inl hj), fun k hk => by cases hk; have := hb.size; show W.heap.size ≤ g3; omega⟩
  have HF := Lib.hid hfin
  clear hfin
  have hbx : ∀ X : World, Below W.heap.size W X → Below W.heap.size W X := fun X h => h
  cases hk : (look L i).isSome
  · have hlm : L.length < most := by rcases hl with e | e; rw [hk] at e; cases e; exact e
    have hd4 : decide ((most : Int) ≤ (L.length : Int)) = false := decide_eq_false (by omega)
    have hd5 : decide (most ≤ L.length) = false := decide_eq_false (by omega)
    rw [hk] at hA hme
    obtain rfl : m' = place L i := by simpa using hme
    have HA := Lib.hid hA
    have ho := h.own
    rcases ho.2 with ⟨rfl, h0⟩ | ⟨g, d, cur, hu, -, -, hcap, -⟩
    · rw [castL_length] at h0
      obtain rfl : L = [] := List.length_eq_zero_iff.1 h0
      rw [show place [] i = 0 from rfl] at *
      simp only [List.length_nil] at hd4 hd5
      have hS := fun X (hX : Below W.heap.size W X) => ins_steps (HI.out.below hX) (.slice none 0 0) (.slice none 0 0) [] [] ⟨none, 0, rfl, fun j p hj => by simp [castL] at hj⟩ (.inl rfl) ⟨none, 0, rfl, fun j p hj => by simp [castL] at hj⟩ (.inl rfl) (fun k e => by cases e) i s (by simp) (by simpa using hasc) (by simp)
      have HS := Lib.hid hS
      clear h hv hl hsl hS hasc hll hbig ho hA hpl hins hme hm' h0
      go_enter Tryz.func25, Tryz.ntmps25
      go_wp2_with fail
      refine HA.out.mono ?_
      rintro e w1 ⟨rfl, hb⟩
      have k1 := (hb.cell hlt).trans c1
      have k2 := (hb.cell hlt).trans c2
      have HB := Lib.hid hb
      clear hb
      go_wp2_with fail
      go_quiet (fail)
      have HX := Lib.hid (below_drewN HB.out nq)
      obtain ⟨v1, W1, v2, W2, g3, n3, q3, W3, r1, r2, x1, r3, x2, x3, x4, x5, x6⟩ := HS.out _ HX.out
      have HFX := Lib.hid (HF.out _ _ _ _ _ HX.out x6 x4 x5)
      have k3 := (HX.out.cell hlt).trans c1
      clear x4 x5
      generalize w1.drewN nq = X at *
      go_wp2_with fail
      go_ret
      exact ⟨rfl, HFX.out⟩
    · rw [castL_length] at hu hcap
      subst hu
      have hcap2 : (L.length : Int) ≤ (d : Int) := by omega
      have hb1 : (place L i : Int) ≤ (d : Int) := by omega
      have hb2 : (place L i : Int) ≤ (L.length : Int) := by omega
      by_cases hdm : d = place L i
      · have hLm : L.length = place L i := by omega
        have hdrop : L.drop (place L i) = [] := List.drop_eq_nil_of_le (by omega)
        have hS := fun X (hX : Below W.heap.size W X) => ins_steps (HI.out.below hX) (.slice (some ⟨g, 0, none⟩) (place L i) d) (.slice (some ⟨g, 0, none⟩) 0 0) (L.take (place L i)) (L.drop (place L i))
          ((HI.out.below hX).cut _ hpl _ (.inl rfl) d 0).1 (.inr ⟨_, _, by rw [castL_take _ _ hpl]⟩) (by rw [hdrop]; exact ⟨_, 0, rfl, fun j p hj => by simp [castL] at hj⟩) (.inr ⟨_, _, by rw [hdrop]; rfl⟩)
          (fun k e => by cases e; exact (HI.out.below hX).lt.2 g rfl) i s (by rw [List.length_take, List.length_drop]; omega) hasc hbig
        have HS := Lib.hid hS
        subst hdm
        clear hS hdrop
        clear h hv hl hsl hasc hll hbig ho hA hins hme hm'
        generalize place L i = m at *
        go_enter Tryz.func25, Tryz.ntmps25
        go_wp2_with fail
        refine HA.out.mono ?_
        rintro e w1 ⟨rfl, hb⟩
        have k1 := (hb.cell hlt).trans c1
        have k2 := (hb.cell hlt).trans c2
        have HB := Lib.hid hb
        clear hb
        go_wp2_with fail
        go_quiet (fail)
        have HX := Lib.hid (below_drewN HB.out nq)
        obtain ⟨v1, W1, v2, W2, g3, n3, q3, W3, r1, r2, x1, r3, x2, x3, x4, x5, x6⟩ := HS.out _ HX.out
        have HFX := Lib.hid (HF.out _ _ _ _ _ HX.out x6 x4 x5)
        have k3 := (HX.out.cell hlt).trans c1
        clear x4 x5
        generalize w1.drewN nq = X at *
        go_wp2_with fail
        go_ret
        exact ⟨rfl, HFX.out⟩
      · have hdm' : (d = place L i) = False := by simp [hdm]
        have hS := fun X (hX : Below W.heap.size W X) => ins_steps (HI.out.below hX) (.slice (some ⟨g, 0, none⟩) (place L i) d) (.slice (some ⟨g, (place L i) * 2, none⟩) (L.length - (place L i)) (d - (place L i))) (L.take (place L i)) (L.drop (place L i))
          ((HI.out.below hX).cut _ hpl _ (.inl rfl) d (d - place L i)).1 (.inr ⟨_, _, by rw [castL_take _ _ hpl]⟩) ((HI.out.below hX).cut (place L i) hm' _ (.inl rfl) d (d - (place L i))).2 (.inr ⟨_, _, by rw [castL_drop]⟩)
          (fun k e => by cases e; exact (HI.out.below hX).lt.2 g rfl) i s (by rw [List.length_take, List.length_drop]; omega) hasc hbig
        have HS := Lib.hid hS
        clear hS
        clear h hv hl hsl hasc hll hbig ho hA hins hme hm' hdm
        generalize place L i = m at *
        go_enter Tryz.func25, Tryz.ntmps25
        go_wp2_with fail
        refine HA.out.mono ?_
        rintro e w1 ⟨rfl, hb⟩
        have k1 := (hb.cell hlt).trans c1
        have k2 := (hb.cell hlt).trans c2
        have HB := Lib.hid hb
        clear hb
        go_wp2_with fail
        go_quiet (fail)
        have HX := Lib.hid (below_drewN HB.out nq)
        obtain ⟨v1, W1, v2, W2, g3, n3, q3, W3, r1, r2, x1, r3, x2, x3, x4, x5, x6⟩ := HS.out _ HX.out
        have HFX := Lib.hid (HF.out _ _ _ _ _ HX.out x6 x4 x5)
        have k3 := (HX.out.cell hlt).trans c1
        clear x4 x5
        generalize w1.drewN nq = X at *
        go_wp2_with fail
        go_ret
        exact ⟨rfl, HFX.out⟩
  · obtain ⟨e, he⟩ := Option.isSome_iff_exists.1 hk
    obtain ⟨hpl1, -⟩ := place_some h.asc he
    rw [hk] at hA hme
    obtain rfl : m' = place L i + 1 := by simpa using hme
    have HA := Lib.hid hA
    have ho := h.own
    rcases ho.2 with ⟨rfl, h0⟩ | ⟨g, d, cur, hu, -, -, hcap, -⟩
    · rw [castL_length] at h0
      omega
    · rw [castL_length] at hu hcap
      subst hu
      have hcap2 : (L.length : Int) ≤ (d : Int) := by omega
      have hb1 : (place L i : Int) ≤ (d : Int) := by omega
      have hb2 : (place L i : Int) ≤ (L.length : Int) := by omega
      have hb3 : (place L i : Int) + 1 ≤ (d : Int) := by omega
      have hb4 : (place L i : Int) + 1 ≤ (L.length : Int) := by omega
      by_cases hdm : d = place L i + 1
      · have hLm : L.length = place L i + 1 := by omega
        have hdrop : L.drop (place L i + 1) = [] := List.drop_eq_nil_of_le (by omega)
        have hS := fun X (hX : Below W.heap.size W X) => ins_steps (HI.out.below hX) (.slice (some ⟨g, 0, none⟩) (place L i) d) (.slice (some ⟨g, 0, none⟩) 0 0) (L.take (place L i)) (L.drop (place L i + 1))
          ((HI.out.below hX).cut _ hpl _ (.inl rfl) d 0).1 (.inr ⟨_, _, by rw [castL_take _ _ hpl]⟩) (by rw [hdrop]; exact ⟨_, 0, rfl, fun j p hj => by simp [castL] at hj⟩) (.inr ⟨_, _, by rw [hdrop]; rfl⟩)
          (fun k e => by cases e; exact (HI.out.below hX).lt.2 g rfl) i s (by rw [List.length_take, List.length_drop]; omega) hasc hbig
        have HS := Lib.hid hS
        subst hdm
        clear hS hdrop
        clear he h hv hl hsl hasc hll hbig ho hA hins hme hm'
        generalize place L i = m at *
        go_enter Tryz.func25, Tryz.ntmps25
        go_wp2_with fail
        refine HA.out.mono ?_
        rintro e w1 ⟨rfl, hb⟩
        have k1 := (hb.cell hlt).trans c1
        have k2 := (hb.cell hlt).trans c2
        have HB := Lib.hid hb
        clear hb
        go_wp2_with fail
        go_quiet (fail)
        have HX := Lib.hid (below_drewN HB.out nq)
        obtain ⟨v1, W1, v2, W2, g3, n3, q3, W3, r1, r2, x1, r3, x2, x3, x4, x5, x6⟩ := HS.out _ HX.out
        have HFX := Lib.hid (HF.out _ _ _ _ _ HX.out x6 x4 x5)
        have k3 := (HX.out.cell hlt).trans c1
        clear x4 x5
        generalize w1.drewN nq = X at *
        go_wp2_with fail
        go_ret
        exact ⟨rfl, HFX.out⟩
      · have hdm' : (d = place L i + 1) = False := by simp [hdm]
        have hS := fun X (hX : Below W.heap.size W X) => ins_steps (HI.out.below hX) (.slice (some ⟨g, 0, none⟩) (place L i) d) (.slice (some ⟨g, (place L i + 1) * 2, none⟩) (L.length - (place L i + 1)) (d - (place L i + 1))) (L.take (place L i)) (L.drop (place L i + 1))
          ((HI.out.below hX).cut _ hpl _ (.inl rfl) d (d - place L i)).1 (.inr ⟨_, _, by rw [castL_take _ _ hpl]⟩) ((HI.out.below hX).cut (place L i + 1) hm' _ (.inl rfl) d (d - (place L i + 1))).2 (.inr ⟨_, _, by rw [castL_drop]⟩)
          (fun k e => by cases e; exact (HI.out.below hX).lt.2 g rfl) i s (by rw [List.length_take, List.length_drop]; omega) hasc hbig
        have HS := Lib.hid hS
        clear hS
        clear he h hv hl hsl hasc hll hbig ho hA hins hme hm' hdm
        generalize place L i = m at *
        go_enter Tryz.func25, Tryz.ntmps25
        go_wp2_with fail
        refine HA.out.mono ?_
        rintro e w1 ⟨rfl, hb⟩
        have k1 := (hb.cell hlt).trans c1
        have k2 := (hb.cell hlt).trans c2
        have HB := Lib.hid hb
        clear hb
        go_wp2_with fail
        go_quiet (fail)
        have HX := Lib.hid (below_drewN HB.out nq)
        obtain ⟨v1, W1, v2, W2, g3, n3, q3, W3, r1, r2, x1, r3, x2, x3, x4, x5, x6⟩ := HS.out _ HX.out
        have HFX := Lib.hid (HF.out _ _ _ _ _ HX.out x6 x4 x5)
        have k3 := (HX.out.cell hlt).trans c1
        clear x4 x5
        generalize w1.drewN nq = X at *
        go_wp2_with fail
        go_ret
        exact ⟨rfl, HFX.out⟩
end
end Go.Proofs.YthgdkpkhnhjifaaGreat
