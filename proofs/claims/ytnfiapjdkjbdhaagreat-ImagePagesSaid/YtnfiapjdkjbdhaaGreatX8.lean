import Derived.Test.YtnfiapjdkjbdhaaGreatX7
namespace Go.Proofs.YtnfiapjdkjbdhaaGreat
open Go.RowKit Go.Maps Go.Sort
set_option linter.unusedVariables false
set_option linter.unusedSimpArgs false
set_option maxRecDepth 10000
theorem IMap.len {P : Program} {t k e : TypeId} {W : World} {m n : Nat} {f : Nat → Option Value} (h : IMap P k W m n f) (hk : P.underlying k = some (.int .i64)) (ht : P.underlying t = some (.map k e)) (ty : TypeId) :
    (Builtin.len_ #[t] ty #[.map (some m)]).run P W = .ok (.int .i64 ((keysOf n f).length : Int)) W := by
  obtain ⟨D, h1, h2, h3⟩ := h
  rw [h1.len ht ty]
  have hs := sorted_keys h1 hk h2 (List.Perm.refl (intKeys D))
  have hl := congrArg List.length hs
  rw [List.length_mergeSort, List.length_map] at hl
  obtain ⟨es, rfl, -⟩ := h1.tidy (int_keyed hk)
  have : (intKeys (DataW.map es)).length = es.length := by show (es.map _).length = _; rw [List.length_map]
  rw [← hl, this]
  rfl
theorem zeroPut (W : World) : (zeroValue 117).run Tryz.prog W = .ok (.agg #[.int .i64 0, str []]) W := by kernel_rfl
structure TxOn (W : World) (tb b jb m : Nat) (M : Dv) (L : PutL) (F n rec : Nat) : Prop where
  tx : TxIn W tb b jb m M.n L
  dev : ∃ S, DevAt S W b M
  j : JAt W jb b F n rec
  up : M.down = false
  wr : M.wr ≤ 1099511627776
  h4 : 4 ≤ n
  h256 : n ≤ 256
  cap : L.length ≤ capL n
section
variable {W : World} {tb b jb m F n rec : Nat} {M : Dv} {L : PutL}
theorem TxOn.below (h : TxOn W tb b jb m M L F n rec) {W' : World} (hb : Below W.heap.size W W') : TxOn W' tb b jb m M L F n rec := by
  obtain ⟨S, hS⟩ := h.dev
  exact { h with tx := h.tx.below hb, dev := ⟨S, hS.below hb⟩, j := h.j.below hb }
theorem TxOn.len (h : TxOn W tb b jb m M L F n rec) : Calls Tryz.prog 74 #[devp b] W fun e w' => e = .returned (.int .i64 (M.n : Int)) ∧ W = w' := by
  obtain ⟨S, g, c, m, vals, hI⟩ := h.dev
  exact len_any b g _ _ W hI.head.c2
theorem TxOn.look (h : TxOn W tb b jb m M L F n rec) (i : Nat) (hi : i < M.n) :
    (Instr.lookup 111 (.map (some m)) (.int .i64 (i : Int)) true).run Tryz.prog W = .ok (.tuple #[(txE L i).getD (.agg #[.int .i64 0, str []]), .bool (look L i).isSome]) W := by
  have := h.tx.map.look2 (t := 111) Tryz.underlying3 Tryz.underlying111 (zeroPut W) (by have := h.tx.small; omega) hi
  rwa [txE_isSome] at this
theorem TxOn.count (h : TxOn W tb b jb m M L F n rec) (ty : TypeId) : (Builtin.len_ #[111] ty #[.map (some m)]).run Tryz.prog W = .ok (.int .i64 (L.length : Int)) W := by
  have := h.tx.map.len (t := 111) Tryz.underlying3 Tryz.underlying111 ty
  rwa [keys_look h.tx.asc (fun p hp => (h.tx.ok p hp).1) _ (txE_isSome L), List.length_map] at this
set_option maxRecDepth 100000 in
theorem txRead_any (h : TxOn W tb b jb m M L F n rec) (i : Nat) (hi : i < M.n) :
    Calls Tryz.prog 70 #[devp tb, .int .i64 (i : Int)] W fun e w' => e = .returned (.tuple #[str ((look L i).getD (M.cur i)), .int .i64 0]) ∧ Below W.heap.size W w' := by
  have c0 := h.tx.c0
  have c2 := h.tx.c2
  have hlk := h.look i hi
  have HR := Lib.hid (refusal_read tb b M.n W h.tx.c3 c0 h.len i hi)
  obtain ⟨S, hS⟩ := h.dev
  have hrd := fun W' (hb : Below W.heap.size W W') => read_any (hS.below hb) h.up h.wr i hi
  have HD := Lib.hid hrd
  clear hrd
  have hB0 : ∀ v w' t, Below W.heap.size W w' → Below W.heap.size W (w'.alloc (.cells v t)) := fun v w' t hb => hb.alloc hb.size _
  have hlt := h.tx.lt.1
  cases hl : look L i with
  | none =>
    have hE : txE L i = none := by unfold txE; rw [hl]; rfl
    rw [hE, hl] at hlk
    simp only [Option.getD, Option.isSome] at hlk
    clear h hS hl hE
    go_enter Tryz.func70, Tryz.ntmps70
    go_wp2_with fail
    refine HR.out.mono ?_
    rintro e w1 ⟨rfl, rfl⟩
    go_wp2_with fail
    refine (HD.out _ ((Below.refl _ W).alloc (Nat.le_refl _) _)).mono ?_
    rintro e w2 ⟨rfl, hb⟩
    go_wp2_with fail
    go_ret2
    exact ⟨rfl, ((Below.refl _ W).alloc (Nat.le_refl _) _).trans (hb.mono (by simp))⟩
  | some d =>
    have hE : txE L i = some (putX i d) := by unfold txE; rw [hl]; rfl
    rw [hE, hl] at hlk
    simp only [Option.getD, Option.isSome, putX] at hlk
    clear h hS hl hE
    go_enter Tryz.func70, Tryz.ntmps70
    go_wp2_with fail
    refine HR.out.mono ?_
    rintro e w1 ⟨rfl, rfl⟩
    go_wp2_with fail
    go_ret2
    exact ⟨rfl, (Below.refl _ W).alloc (Nat.le_refl _) _⟩
theorem txRead_out (h : TxOn W tb b jb m M L F n rec) (i : Int) (hi : i < 0 ∨ (M.n : Int) ≤ i) :
    Calls Tryz.prog 70 #[devp tb, .int .i64 i] W fun e w' => e = .returned (.tuple #[str [], .int .i64 2]) ∧ W = w' := by
  have HR := Lib.hid (refusal_out tb b M.n W h.tx.c3 h.tx.c0 h.len i (.func (.func 132) #[] #[]) hi)
  clear h hi
  go_enter Tryz.func70, Tryz.ntmps70
  go_wp2_with fail
  refine HR.out.mono ?_
  rintro e w1 ⟨rfl, rfl⟩
  go_wp2_with fail
  go_ret2
  exact ⟨rfl, rfl⟩
theorem txRoom_quiet (h : TxOn W tb b jb m M L F n rec) : Calls Tryz.prog 20 #[devp tb] W fun e w' => e = .returned (.int .i64 ((capL n : Int) - (L.length : Int))) ∧ ∃ k, w' = W.drewN k := by
  have c1 := h.tx.c1
  have c2 := h.tx.c2
  have c3 := h.tx.c3
  have hct := fun k ty => (h.below (below_drewN (Below.refl _ _) k)).count ty
  have hcap := h.cap
  have hcb : capL n ≤ 256 := by have := h.h256; unfold capL; omega
  have hm : ∀ k, Calls Tryz.prog 58 #[devp jb] (W.drewN k) fun e w' => e = .returned (.int .i64 (capL n : Int)) ∧ w' = W.drewN k := fun k => (max_any jb b F n rec (W.drewN k) (h.j.below (below_drewN (Below.refl _ _) k)) h.h4 h.h256).mono fun e w' hx => ⟨hx.1, hx.2.symm⟩
  have hmax := Lib.hid hm
  clear hm
  have hO := Lib.hid (over_any tb false W c3)
  clear h
  go_enter Tryz.func20, Tryz.ntmps20
  go_wp2_with fail
  refine hO.out.mono ?_
  rintro e w1 ⟨rfl, rfl⟩
  go_wp2_with fail
  go_quiet (refine Calls.quiet_of_same (hmax.out _))
  go_wp2_with fail
  go_ret
  exact ⟨rfl, _, rfl⟩
theorem txRoom_any (h : TxOn W tb b jb m M L F n rec) : Calls Tryz.prog 20 #[devp tb] W fun e w' => e = .returned (.int .i64 ((capL n - L.length : Nat) : Int)) ∧ Below W.heap.size W w' := by
  refine (txRoom_quiet h).mono ?_
  rintro e w' ⟨rfl, k, rfl⟩
  have := h.cap
  exact ⟨by rw [show ((capL n - L.length : Nat) : Int) = (capL n : Int) - (L.length : Int) by omega], below_drewN (Below.refl _ _) k⟩
theorem txWrite_bad (h : TxOn W tb b jb m M L F n rec) (i : Int) (s : List UInt8) (hs : s.length ≤ 140737488351232) (hbad : i < 0 ∨ (M.n : Int) ≤ i ∨ s.length ≠ 64) :
    Calls Tryz.prog 49 #[devp tb, .int .i64 i, str s] W fun e w' => e = .returned (.int .i64 2) ∧ Below W.heap.size W w' := by
  have hB := (Below.refl W.heap.size W).alloc (Nat.le_refl _) (.cells #[str s] 9)
  have hr : Calls Tryz.prog 95 #[devp tb, .int .i64 i, .func (.func 104) #[] #[.pointer (some ⟨W.heap.size, 0, none⟩)]] (W.alloc (.cells #[str s] 9)) fun e w' => e = .returned (.int .i64 2) ∧ (W.alloc (.cells #[str s] 9)) = w' := by
    have h' := h.below hB
    by_cases hi : i < 0 ∨ (M.n : Int) ≤ i
    · exact refusal_out tb b M.n _ h'.tx.c3 h'.tx.c0 h'.len i _ hi
    · obtain ⟨k, rfl⟩ : ∃ k : Nat, i = (k : Int) := ⟨i.toNat, by omega⟩
      exact refusal_write tb b M.n _ h'.tx.c3 h'.tx.c0 h'.len k W.heap.size s false (by omega) (cell_new_l W _ _) (by simp; omega)
  have HR := Lib.hid hr
  have HB := Lib.hid hB
  clear hr hB h hbad
  go_enter Tryz.func49, Tryz.ntmps49
  go_wp2_with fail
  refine HR.out.mono ?_
  rintro e w1 ⟨rfl, rfl⟩
  go_wp2_with fail
  go_ret
  exact ⟨rfl, HB.out⟩
theorem txWrite_full (h : TxOn W tb b jb m M L F n rec) (i : Nat) (hi : i < M.n) (s : List UInt8) (hs : s.length = 64) (hl : look L i = none) (hfull : L.length = capL n) :
    Calls Tryz.prog 49 #[devp tb, .int .i64 (i : Int), str s] W fun e w' => e = .returned (.int .i64 4) ∧ Below W.heap.size W w' := by
  have hB := (Below.refl W.heap.size W).alloc (Nat.le_refl _) (.cells #[str s] 9)
  have h' := h.below hB
  have HR := Lib.hid (refusal_write tb b M.n _ h'.tx.c3 h'.tx.c0 h'.len i W.heap.size s true hi (cell_new_l W _ _) (by simp [hs]))
  have c2 := h'.tx.c2
  have hlk := h'.look i hi
  have hE : txE L i = none := by unfold txE; rw [hl]; rfl
  rw [hE, hl] at hlk
  simp only [Option.getD, Option.isSome] at hlk
  have hroom := fun V (hb : Below W.heap.size W V) => txRoom_any (h.below hb)
  rw [hfull, Nat.sub_self] at hroom
  have HM := Lib.hid hroom
  have HB := Lib.hid hB
  clear h h' hE hl hroom hfull hs
  go_enter Tryz.func49, Tryz.ntmps49
  go_wp2_with fail
  refine HR.out.mono ?_
  rintro e w1 ⟨rfl, rfl⟩
  go_wp2_with fail
  refine (HM.out _ (HB.out.alloc (by simp) _)).mono ?_
  rintro e w2 ⟨rfl, hb⟩
  go_wp2_with fail
  go_ret
  exact ⟨rfl, (HB.out.alloc (by simp) _).trans (hb.mono (by simp; omega))⟩
set_option maxHeartbeats 1000000 in
theorem txWrite_ok (h : TxOn W tb b jb m M L F n rec) (i : Nat) (hi : i < M.n) (s : List UInt8) (hs : s.length = 64) (hl : (look L i).isSome = true ∨ L.length < capL n) :
    Calls Tryz.prog 49 #[devp tb, .int .i64 (i : Int), str s] W fun e w' => e = .returned (.int .i64 0) ∧ TxIn w' tb b jb m M.n (ins L i s) ∧ Only (fun k => k = m) W w' := by
  have hB := (Below.refl W.heap.size W).alloc (Nat.le_refl _) (.cells #[str s] 9)
  have h' := h.below hB
  have HR := Lib.hid (refusal_write tb b M.n _ h'.tx.c3 h'.tx.c0 h'.len i W.heap.size s true hi (cell_new_l W _ _) (by simp [hs]))
  have c2 := h'.tx.c2
  have hlk := h'.look i hi
  have hbx := cell_new_l W (str s) 9
  have hup := fun V (hb : Below W.heap.size W V) => (h.below hb).tx.map.store (t := 111) Tryz.underlying3 Tryz.underlying111 (by have := h.tx.small; omega) hi (putX i s)
  have hfin : ∀ V, Below W.heap.size W V → ∀ W2, IMap Tryz.prog 3 W2 m M.n (upd (txE L) i (some (putX i s))) → V.grownBy W2 (some m) → TxIn W2 tb b jb m M.n (ins L i s) ∧ Only (fun k => k = m) W W2 := fun V hb W2 hm hg => by
    have hV := (h.below hb).tx
    have hk : W2.heap[tb]? = V.heap[tb]? := hg.block tb hV.lt.1 (by intro e; cases e; exact hV.ne rfl)
    refine ⟨?_, (Only.of_below hb).trans (Only.of_grown (S := fun k => k = m) hg fun k e => by cases e; rfl) fun j hj => .inl hj⟩
    exact ⟨(cell_same 0 hk).trans hV.c0, (cell_same 1 hk).trans hV.c1, (cell_same 2 hk).trans hV.c2, (cell_same 3 hk).trans hV.c3, (World.frozen?_of_block (a := ⟨tb, 2, none⟩) hk).trans hV.f2, (World.frozen?_of_block (a := ⟨tb, 3, none⟩) hk).trans hV.f3,
      by rw [txE_ins]; exact hm, asc_ins hV.asc i s, ok_ins hV.ok hi hs, hV.small, hV.ne⟩
  have HF := Lib.hid hfin
  have HU := Lib.hid hup
  have HB := Lib.hid hB
  have hc := fun V (hb : Below W.heap.size W V) => (h.below hb).tx.c2
  have HC := Lib.hid hc
  have hc3 := fun V (hb : Below W.heap.size W V) => hb.cell (p := ⟨W.heap.size, 0, none⟩)
  have hlt := h.tx.lt.1
  clear hfin hup hc hc3
  by_cases hsome : (look L i).isSome = true
  · obtain ⟨d, hd⟩ := Option.isSome_iff_exists.1 hsome
    have hE : txE L i = some (putX i d) := by unfold txE; rw [hd]; rfl
    rw [hE, hd] at hlk
    simp only [Option.getD, Option.isSome, putX] at hlk
    obtain ⟨V, hVe⟩ : ∃ V, V = (W.alloc (.cells #[str s] 9)).alloc (.cells #[.int .i64 (i : Int), str d] 117) := ⟨_, rfl⟩
    have hBV : Below W.heap.size W V := by rw [hVe]; exact HB.out.alloc (by simp) _
    have hVc2 := HC.out V hBV
    have hVb : V.cell? ⟨W.heap.size, 0, none⟩ = some (str s) := by rw [hVe, World.cell?_alloc_lt _ _ _ (by simp)]; exact hbx
    obtain ⟨W2, hrun, hm2, hg2⟩ := HU.out V.drew (below_drewN hBV 1)
    obtain ⟨r1, r2⟩ := HF.out V.drew (below_drewN hBV 1) W2 hm2 hg2
    have R1 := Lib.hid r1
    have R2 := Lib.hid r2
    unfold putX at hrun
    clear h h' hE hd r1 r2 hsome hl hm2 hg2 hBV
    go_enter Tryz.func49, Tryz.ntmps49
    go_wp2_with fail
    refine HR.out.mono ?_
    rintro e w1 ⟨rfl, rfl⟩
    go_wp2_with fail
    rw [← hVe]
    clear hVe
    go_region
    all_goals
      go_wp2_with fail
      go_ret
      exact ⟨rfl, R1.out, R2.out⟩
  · have hnone : look L i = none := by cases h : look L i; rfl; rw [h] at hsome; exact absurd rfl hsome
    have hE : txE L i = none := by unfold txE; rw [hnone]; rfl
    rw [hE, hnone] at hlk
    simp only [Option.getD, Option.isSome] at hlk
    have hroom := fun V (hb : Below W.heap.size W V) => txRoom_any (h.below hb)
    have HM := Lib.hid hroom
    have hpos : ¬ ((capL n - L.length : Nat) : Int) = 0 := by rcases hl with e | e; exact absurd e hsome; omega
    have hne : (((capL n - L.length : Nat) : Int) == 0) = false := by simpa using hpos
    clear h h' hE hnone hroom hsome hl hpos
    generalize ((capL n - L.length : Nat) : Int) = room at *
    go_enter Tryz.func49, Tryz.ntmps49
    go_wp2_with fail
    refine HR.out.mono ?_
    rintro e w1 ⟨rfl, rfl⟩
    go_wp2_with fail
    refine (HM.out _ (HB.out.alloc (by simp) _)).mono ?_
    rintro e V ⟨rfl, hb⟩
    have hBV : Below W.heap.size W V := (HB.out.alloc (by simp) _).trans (hb.mono (by simp; omega))
    have hVc2 := HC.out V hBV
    have hVb : V.cell? ⟨W.heap.size, 0, none⟩ = some (str s) := by
      rw [hb.cell (p := ⟨W.heap.size, 0, none⟩) (by simp; omega), World.cell?_alloc_lt _ _ _ (by simp)]; exact hbx
    obtain ⟨W2, hrun, hm2, hg2⟩ := HU.out V.drew (below_drewN hBV 1)
    obtain ⟨r1, r2⟩ := HF.out V.drew (below_drewN hBV 1) W2 hm2 hg2
    have R1 := Lib.hid r1
    have R2 := Lib.hid r2
    unfold putX at hrun
    clear r1 r2 hm2 hg2 hBV hb
    go_wp2_with fail
    go_region
    all_goals
      go_wp2_with fail
      go_ret
      exact ⟨rfl, R1.out, R2.out⟩
end
end Go.Proofs.YtnfiapjdkjbdhaaGreat
/- Layer 8 (tx): the iterator over what was written; Touched; Collect. -/
namespace Go.Proofs.YtnfiapjdkjbdhaaGreat
open Go.RowKit Go.Maps Go.Sort Go.Shelf
set_option linter.unusedVariables false
set_option linter.unusedSimpArgs false
set_option maxRecDepth 10000
attribute [local go_sem] Oper.semAt_some
theorem inOrder_any (tb : Nat) (w : World) : Calls Tryz.prog 60 #[devp tb] w fun e w' => e = .returned (.func (.func 121) #[] #[.pointer (some ⟨w.heap.size, 0, none⟩)]) ∧ w' = w.alloc (.cells #[devp tb] 30) := by
  go_enter Tryz.func60, Tryz.ntmps60
  go_wp2
  go_ret
  exact ⟨rfl, rfl⟩
set_option maxRecDepth 100000 in
set_option maxHeartbeats 2000000 in
theorem inOrder1_in (l Bd tb m cnt : Nat) (f : Nat → Option Value) (W : World) (hd : W.cell? ⟨Bd, 0, none⟩ = some (devp tb)) (h3 : W.cell? ⟨tb, 2, none⟩ = some (.map (some m))) (hmap : IMap Tryz.prog 3 W m cnt f) (hc : cnt ≤ 4096) (ks : List Nat) (hks : keysOf cnt f = ks)
    (J : Nat → Nat → World → Prop) (hJd : ∀ p j W', J p j W' → W'.cell? ⟨Bd, 0, none⟩ = some (devp tb) ∧ W'.cell? ⟨tb, 2, none⟩ = some (.map (some m)))
    (hstart : ∀ p W', Below W.heap.size W W' → W.heap.size ≤ p → p < W'.heap.size → J p 0 W')
    (hround : ∀ p j (hj : j < ks.length) W1, J p j W1 → ∃ v, (Instr.lookup 111 (.map (some m)) (.int .i64 ((ks[j] : Nat) : Int)) false).run Tryz.prog W1 = .ok v W1 ∧
      YieldAt Fence.wide 6 Tryz.prog l #[v] W1 fun e W' => e = .returned (.bool true) ∧ J p (j + 1) W' ∧ W'.heap[p]? = W1.heap[p]?) :
    CallsIn Fence.wide 7 Tryz.prog 121 #[.func (.yield l) #[] #[], .pointer (some ⟨Bd, 0, none⟩)] W fun e W' => (∃ v, e = .returned v) ∧ ∃ p, J p ks.length W' := by
  subst hks
  have hmap' := hmap
  obtain ⟨D0, hown, hhas, hval⟩ := hmap'
  have hbl := hown.lt
  have hszD := IMap.size_le hown Tryz.underlying3 hhas
  have hseq : SeqGives Fence.wide 3 Tryz.prog 176 #[.pointer (some ⟨W.heap.size, 0, none⟩)] encZ (fun ss => ss.Perm (intKeys D0)) (Maps.size D0) (W.alloc (.cells #[.map (some m)] 111)) :=
    AnyZI.keys_gives (ρ := Tryz.keysPL_ren) { Tryz.keysPL with } Fence.wide _ trivial rfl (by omega) W.heap.size m _ D0 _ (by simp) (by simp) (by
      obtain ⟨es, clock, hb, Ft, hs, hD⟩ := hown
      exact ⟨es, clock, (Below.heap_alloc _ _ m hbl).trans hb, Ft, hs, hD⟩)
  have cK : ∀ mb V, CallsIn Fence.wide 6 Tryz.prog 123 #[.map mb] V fun e w' => e = .returned (.func (.func 176) #[] #[.pointer (some ⟨V.heap.size, 0, none⟩)]) ∧ w' = V.alloc (.cells #[.map mb] 111) := fun mb V => AnyZI.keys_in Tryz.keysPL Fence.wide 6 trivial rfl mb V
  have cS := AnyZI.sorted_in Tryz.sortedL Fence.wide 6 trivial trivial trivial trivial rfl (by omega) (sortsAt _) (enters_of Tryz.func175 (by kernel_rfl) rfl) 176 #[.pointer (some ⟨W.heap.size, 0, none⟩)] trivial (enters_of Tryz.func176 (by kernel_rfl) rfl) _ _ (by unfold maxLen; omega) (by omega) _ hseq
  change CallsIn _ _ Tryz.prog 122 _ _ _ at cS
  have hfK : Fence.wide.fn 123 := trivial
  have hfS : Fence.wide.fn 122 := trivial
  have HS := fun (ss : List Int) (hp : ss.Perm (intKeys D0)) => sorted_keys hown Tryz.underlying3 hhas hp
  have HHS := Lib.hid HS
  have HR := Lib.hid hround
  have HJ := Lib.hid hJd
  have HST := Lib.hid hstart
  have HM := Lib.hid hmap
  have HC := Lib.hid cS
  have HK := keys_len cnt f
  clear HS hround hJd hstart hmap hseq hown hhas hval cS hszD
  refine callsIn_of_wp Tryz.func121 rfl trivial ?_ rfl
  simp only [Tryz.ntmps121, List.size_toArray, List.length_cons, List.length_nil, Nat.reduceAdd, Nat.reduceSub, Array.replicate_succ, Array.replicate_zero, List.push_toArray, List.append_toArray, List.nil_append, List.cons_append]
  gi_wp2_with fail
  refine (cK _ _).mono ?_
  rintro e w' ⟨rfl, rfl⟩
  gi_wp2_with fail
  refine HC.out.mono ?_
  rintro e W2 ⟨v, ss, rfl, hperm, hrow, hnil, hb⟩
  rw [HHS.out ss hperm] at hrow
  have hbW : Below W.heap.size W W2 := ((Below.refl _ W).alloc (Nat.le_refl _) _).trans (hb.mono (by simp))
  have hsz2 : W.heap.size + 1 ≤ W2.heap.size := by have := hb.size; simpa using this
  have hv : ∃ A c p, v = .slice A (keysOf cnt f).length c ∧ W.heap.size ≤ p ∧ p < W2.heap.size ∧ ∀ j (hj : j < (keysOf cnt f).length), A = some ⟨p, 0, none⟩ ∧ W2.cell? ⟨p, j, none⟩ = some (.int .i64 (((keysOf cnt f)[j] : Nat) : Int)) := by
    have hl : ss.length = (keysOf cnt f).length := by have := hrow.1; simp at this; omega
    rcases hrow.2 with ⟨rfl, h0⟩ | ⟨g, cap, cur, rfl, hbase, hg, hrest⟩
    · exact ⟨none, 0, W.heap.size, by rw [← hl, h0], Nat.le_refl _, by omega, fun j hj => by omega⟩
    · refine ⟨some ⟨g, 0, none⟩, cap, g, by rw [hl], by simp at hbase; omega, (Array.getElem?_eq_some_iff.1 hg).1, fun j hj => ⟨rfl, ?_⟩⟩
      have := hrow.cells (g := g) rfl j (.int .i64 (((keysOf cnt f)[j] : Nat) : Int)) (by simp [hj])
      rwa [addr_add0] at this
  obtain ⟨A, c, p, rfl, hp1, hp2, hcell⟩ := hv
  have hJ0 := HST.out p W2 hbW hp1 hp2
  have Hcell := Lib.hid hcell
  clear hrow hnil hperm hcell hb cK
  gi_wp2_with fail
  gi_loopw [12] (fun i wr => ∃ k : Nat, k ≤ (keysOf cnt f).length ∧ i = .int .i64 k ∧ J p k wr ∧ wr.heap[p]? = W2.heap[p]?) (fun i _ => (keysOf cnt f).length - (Go.RowKit.intOf i).toNat)
  case atStart => exact ⟨0, Nat.zero_le _, rfl, hJ0, rfl⟩
  case round =>
    obtain ⟨k, hk, rfl, hJk, hpk⟩ := hrel
    by_cases hlt : k < (keysOf cnt f).length
    · obtain ⟨rfl, hcell⟩ := Hcell.out k hlt
      have hcx : wr.cell? ⟨p, k, none⟩ = some (.int .i64 (((keysOf cnt f)[k] : Nat) : Int)) := (World.cell?_of_block (a := ⟨p, k, none⟩) hpk).trans hcell
      obtain ⟨hd1, h31⟩ := HJ.out p k wr hJk
      obtain ⟨v, hlk, fn, tmps, assign, body, hy, hR⟩ := HR.out p k hlt wr hJk
      have HP := Lib.hid hpk
      clear hcell hpk
      generalize (keysOf cnt f)[k] = x at hcx hlk hy
      gi_wp2
      refine hR.mono ?_
      rintro e W3 ⟨rfl, hJ3, hk3⟩
      have HP3 := Lib.hid hk3
      clear hk3
      gi_wp2
      go_roundw
      case rel => exact ⟨k + 1, by omega, by simp, hJ3, HP3.out.trans HP.out⟩
      case measure => simp [Go.RowKit.intOf]; omega
    · obtain rfl : k = (keysOf cnt f).length := by omega
      have HP := Lib.hid hpk
      clear hpk
      gi_wp2
      go_end0
      exact ⟨⟨_, rfl⟩, p, hJk⟩
def TouchI (w : World) (tb b jb m n : Nat) (L : PutL) (B p : Nat) (t : TypeId) (sz len : Nat) (cs : List Value) (V : World) : Prop :=
  TxIn V tb b jb m n L ∧ Only (fun k => k = B) w V ∧ ∃ v, V.cell? ⟨B, 0, none⟩ = some v ∧ V.frozen? ⟨B, 0, none⟩ = false ∧ V.ownsRow (w.heap.size + 2) t sz v len cs ∧ ∀ k, v.ownBlock = some k → k ≠ p
section
variable {w : World} {tb b jb m n : Nat} {L : PutL} {B p : Nat} {t : TypeId} {sz len : Nat} {cs : List Value} {V : World}
theorem TouchI.below {W' : World} (h : TouchI w tb b jb m n L B p t sz len cs V) (hB : B < w.heap.size) (hb : Below V.heap.size V W') : TouchI w tb b jb m n L B p t sz len cs W' := by
  obtain ⟨h1, h2, v, h3, h4, h5, h6⟩ := h
  have hBv : B < V.heap.size := Nat.lt_of_lt_of_le hB h2.size
  exact ⟨h1.below hb, h2.trans (Only.of_below (S := fun k => k = B) hb) (fun _ e => .inl e), v, (cell_same 0 (hb.block B hBv)).trans h3, (World.frozen?_of_block (a := ⟨B, 0, none⟩) (hb.block B hBv)).trans h4,
    h5.kept (grown_of_below' hb none) (by cases hv : Value.ownBlock _ <;> simp), h6⟩
theorem TouchI.put (h : TouchI w tb b jb m n L B p t sz len cs V) (hB : B < w.heap.size) (ht : tb < w.heap.size) (hm : m < w.heap.size) (l : Nat) (o : Obj) (hl : w.heap.size ≤ l) (hl2 : l ≤ w.heap.size + 1) : TouchI w tb b jb m n L B p t sz len cs (V.putObj l o) := by
  obtain ⟨h1, h2, v, h3, h4, h5, h6⟩ := h
  have hk : ∀ k, k ≠ l → (V.putObj l o).heap[k]? = V.heap[k]? := fun k hk => World.putObj_heap_other hk
  refine ⟨h1.kept (hk _ (by omega)) (hk _ (by omega)), ⟨h2.os, h2.tape, h2.output, by simpa using h2.size, fun k hkl hS => (hk k (by omega)).trans (h2.block k hkl hS)⟩, v, (cell_same 0 (hk B (by omega))).trans h3, (World.frozen?_of_block (a := ⟨B, 0, none⟩) (hk B (by omega))).trans h4, ?_, h6⟩
  refine h5.kept (row := some l) ⟨rfl, rfl, rfl, by simp, fun k _ hne => hk k (by intro e; subst e; exact hne rfl)⟩ (.inr fun e => ?_)
  have := (h5.lt l e).1
  omega
end
end Go.Proofs.YtnfiapjdkjbdhaaGreat
/- Layer 8 (tx): Touched. -/
namespace Go.Proofs.YtnfiapjdkjbdhaaGreat
open Go.RowKit Go.Maps Go.Sort Go.Shelf
set_option linter.unusedVariables false
set_option linter.unusedSimpArgs false
set_option maxRecDepth 10000
attribute [local go_sem] Oper.semAt_some
def nth (L : PutL) (j : Nat) : Nat × List UInt8 := L.getD j (0, [])
theorem nth_get {L : PutL} {j : Nat} (h : j < L.length) : nth L j = L[j] := by unfold nth; rw [List.getD_eq_getElem?_getD, List.getElem?_eq_getElem h]; rfl
theorem TxIn.at {W : World} {tb b jb m n : Nat} {L : PutL} (h : TxIn W tb b jb m n L) {j : Nat} (hj : j < L.length) :
    (Instr.lookup 111 (.map (some m)) (.int .i64 (((L.map (·.1))[j]'(by rw [List.length_map]; exact hj) : Nat) : Int)) false).run Tryz.prog W = .ok (putX (nth L j).1 (nth L j).2) W := by
  rw [nth_get hj, List.getElem_map]
  have hm := List.getElem_mem hj
  have := h.map.look (t := 111) Tryz.underlying3 Tryz.underlying111 (zeroPut W) (by have := h.small; omega) (h.ok _ hm).1
  rw [show txE L L[j].1 = some (putX L[j].1 L[j].2) by unfold txE; rw [look_of h.asc hm]; rfl] at this
  exact this
theorem TxIn.keys {W : World} {tb b jb m n : Nat} {L : PutL} (h : TxIn W tb b jb m n L) : keysOf n (txE L) = L.map (·.1) := keys_look h.asc (fun p hp => (h.ok p hp).1) _ (txE_isSome L)
theorem hit_tx {w : World} {tb b jb m n : Nat} {L : PutL} (Bd : Nat) (I : Nat → Nat → World → Prop) (hI : ∀ p j V, I p j V → TxIn V tb b jb m n L ∧ V.cell? ⟨Bd, 0, none⟩ = some (devp tb))
    (h0 : ∀ V, Below w.heap.size w V → TxIn V tb b jb m n L ∧ V.cell? ⟨Bd, 0, none⟩ = some (devp tb))
    (l : Nat) (J : Nat → Nat → World → Prop) (W : World) (hJI : ∀ p j W, J p j W → I p j W) (hst : ∀ p W', Below W.heap.size W W' → W.heap.size ≤ p → p < W'.heap.size → J p 0 W')
    (hrd : ∀ p j, j < L.length → ∀ args W1, J p j W1 → args = #[putX (nth L j).1 (nth L j).2] → YieldAt Fence.wide (8 - 1 - 1) Tryz.prog l args W1 fun e W' => e = .returned (.bool true) ∧ J p (j + 1) W' ∧ W'.heap[p]? = W1.heap[p]?)
    (hb : Below w.heap.size w W) : CallsIn Fence.wide (8 - 1) Tryz.prog 121 (#[.func (.yield l) #[] #[]] ++ #[.pointer (some ⟨Bd, 0, none⟩)]) W fun e W' => (∃ v, e = .returned v) ∧ ∃ p, J p L.length W' := by
  obtain ⟨hT, hbx⟩ := h0 W hb
  have hlen : (L.map (·.1)).length = L.length := List.length_map _
  have := inOrder1_in l Bd tb m n (txE L) W hbx hT.c2 hT.map hT.small (L.map (·.1)) hT.keys J (fun p j V hJ => ⟨(hI p j V (hJI p j V hJ)).2, (hI p j V (hJI p j V hJ)).1.c2⟩) hst (fun p j hj V hJ => by
    have hj' : j < L.length := by rw [hlen] at hj; exact hj
    exact ⟨_, (hI p j V (hJI p j V hJ)).1.at hj', hrd p j hj' _ V hJ rfl⟩)
  rwa [hlen] at this
end Go.Proofs.YtnfiapjdkjbdhaaGreat
/- Layer 8 (tx): what was written, collected; Commit, Abort. -/
namespace Go.Proofs.YtnfiapjdkjbdhaaGreat
open Go.RowKit Go.Maps Go.Sort Go.Shelf
set_option linter.unusedVariables false
set_option linter.unusedSimpArgs false
set_option maxRecDepth 10000
attribute [local go_sem] Oper.semAt_some
theorem castL_nth {L : PutL} {j : Nat} (hj : j < L.length) : castL (L.take (j + 1)) = castL (L.take j) ++ [(((nth L j).1 : Int), (nth L j).2)] := by
  rw [nth_get hj, List.take_succ_eq_append_getElem hj, castL_snoc]
set_option maxRecDepth 100000 in
set_option maxHeartbeats 2000000 in
theorem appendSeq_any {W : World} {tb b jb m n : Nat} {L : PutL} (Bd : Nat) (h : TxIn W tb b jb m n L) (hbd : W.cell? ⟨Bd, 0, none⟩ = some (devp tb)) :
    Calls Tryz.prog 120 #[.slice none 0 0, .func (.func 121) #[] #[.pointer (some ⟨Bd, 0, none⟩)]] W fun e w' => ∃ v, e = .returned v ∧ OwnP w' W.heap.size v (castL L) ∧ Below W.heap.size W w' := by
  refine (callsIn_wide (n := 8)).1 ?_
  refine callsIn_of_wp_marks Tryz.func120 rfl trivial ?_ rfl
  simp only [Tryz.ntmps120, List.size_toArray, List.length_cons, List.length_nil, Nat.reduceAdd, Nat.reduceSub, Array.replicate_succ, Array.replicate_zero, List.push_toArray, List.append_toArray, List.nil_append, List.cons_append]
  have HI := Lib.hid h
  have HBd := Lib.hid hbd
  have hBdl := World.block_lt_of_cell? W _ hbd
  clear h hbd
  gi_wp2_with fail
  obtain ⟨W0, hW0⟩ : ∃ W0, W.alloc (.cells #[Value.slice none 0 0] 114) = W0 := ⟨_, rfl⟩
  have hs0 : W0.heap.size = W.heap.size + 1 := by rw [← hW0]; simp
  have hB0 : Below W.heap.size W W0 := by rw [← hW0]; exact (Below.refl _ W).alloc (Nat.le_refl _) _
  have hg1 : W0.heap[W.heap.size]? = some (.cells #[Value.slice none 0 0] 114 (0, 0)) := by
    rw [← hW0]; exact heap_new _ _ _ rfl
  rw [hW0]
  obtain ⟨htl, hml⟩ := HI.out.lt
  have hBk : W.heap.size < W0.heap.size := by omega
  have hD0 : TxIn W0 tb b jb m n L := HI.out.below hB0
  have hbx0 : W0.cell? ⟨Bd, 0, none⟩ = some (devp tb) := (hB0.cell hBdl).trans HBd.out
  have hbox : ∀ (p len : Nat) (cs : List Value) (V : World), TouchI W0 tb b jb m n L W.heap.size p 117 2 len cs V → TxIn V tb b jb m n L ∧ V.cell? ⟨Bd, 0, none⟩ = some (devp tb) := by
    rintro p len cs V ⟨hT, ho, _⟩
    exact ⟨hT, (cell_same 0 (ho.block _ (by omega) (by omega))).trans hbx0⟩
  have h00 : ∀ p, TouchI W0 tb b jb m n L W.heap.size p 117 2 0 [] W0 := fun p => ⟨hD0, Only.refl _ _, .slice none 0 0, cell_of_row _ _ 0 _ _ _ hg1, frozen_of_row _ _ 0 _ _ hg1, World.ownsRow_nil _ _ _ _, fun k hk => by cases hk⟩
  have Hbox := Lib.hid hbox
  clear hbox hg1 hW0 hbx0
  refine range_told (n := 8) (by decide) (gf := 121) (lb := #[.pointer (some ⟨Bd, 0, none⟩)]) rfl (enters_of Tryz.func121 (by kernel_rfl) rfl) L.length
    (fun j args V => args = #[putX (nth L j).1 (nth L j).2])
    (fun p j V => TouchI W0 tb b jb m n L W.heap.size p 117 2 j (putC (castL (L.take j))) V) ?hit ?h0 ?hput
    (fun p j a' V => TouchI W0 tb b jb m n L W.heap.size p 117 2 j (putC (castL (L.take j))) V ∧ ∃ Br, a' = { tmps := #[.slice none 0 0, .func (.func 121) #[] #[.pointer (some ⟨Bd, 0, none⟩)], .pointer (some ⟨W.heap.size, 0, none⟩), undef, .slice none 0 0, .pointer (some ⟨Br, 0, none⟩), .func (.func 121) #[] #[.pointer (some ⟨Bd, 0, none⟩)], putX (nth L j).1 (nth L j).2, undef, undef, undef, undef, undef], defers := [] } ∧
      W0.heap.size + 2 ≤ Br ∧ V.cell? ⟨Br, 0, none⟩ = some (.int .i64 ((nth L j).1 : Int)) ∧ V.cell? ⟨Br, 1, none⟩ = some (str (nth L j).2)) ?hAx ?hassign ?hbody ?hdone
  case hit =>
    intro l J V hJI hst hrd hb
    exact hit_tx (w := W0) Bd _ (fun p j V hV => Hbox.out _ _ _ V hV) (fun V hb => Hbox.out 0 0 [] V ((h00 0).below hBk hb)) l J V hJI hst hrd hb
  case h0 =>
    intro p V hb _ _
    exact (h00 p).below hBk hb
  case hput =>
    intro p j V l o hl hl2 h
    exact h.put hBk (by omega) (by omega) l o hl hl2
  case hAx =>
    rintro p j a' V l o hl hl2 ⟨hD, Br, rfl, hBr, hc, hc1⟩
    exact ⟨hD.put hBk (by omega) (by omega) l o hl hl2, Br, rfl, hBr, (cell_same 0 (World.putObj_heap_other (by omega))).trans hc, (cell_same 1 (World.putObj_heap_other (by omega))).trans hc1⟩
  case hassign =>
    rintro l p j args V hj hp1 hp2 hD rfl
    refine ⟨rfl, ?_⟩
    have HD := Lib.hid hD
    clear hD
    generalize nth L j = x
    obtain ⟨s, d⟩ := x
    unfold putX
    gi_wp2
    have hsz := HD.out.2.1.size
    have hbl : Below V.heap.size V (V.alloc (.cells #[.int .i64 (s : Int), str d] 117)) := (Below.refl _ V).alloc (Nat.le_refl _) _
    exact ⟨KeepB.below hbl (by omega) hp2, HD.out.below hBk hbl, V.heap.size, rfl, by omega, cell_of_row _ _ 0 _ _ _ (heap_alloc_new V _), cell_of_row _ _ 1 _ _ _ (heap_alloc_new V _)⟩
  case hbody =>
    rintro l p j a' V hj hp1 hp2 ⟨hD, Br, rfl, hBr, hcB, hcB1⟩
    have hlen : L.length ≤ 4096 := by have h1 := HI.out.len_le; have h2 := HI.out.small; omega
    have hts := castL_nth hj
    have hlj : (castL (L.take j)).length = j := by rw [castL_length, List.length_take]; omega
    have HT := Lib.hid hts
    clear hts
    generalize nth L j = x at *
    obtain ⟨s, d⟩ := x
    simp only at hcB hcB1 HT
    generalize castL (L.take j) = xs at *
    obtain ⟨hT, ho, v, hc, hf, hw, hp⟩ := hD
    have hsz := ho.size
    have hvb : ∀ k, v.ownBlock = some k → W0.heap.size + 2 ≤ k ∧ k < V.heap.size := fun k hk => hw.lt k hk
    have hw' : OwnP V (W0.heap.size + 2) v xs := by show V.ownsRow _ _ _ _ xs.length _; rw [hlj]; exact hw
    obtain ⟨k0, k1⟩ := cells2 V (.int .i64 (s : Int)) (str d) 117
    obtain ⟨v', W2, hap, hown, hbl2, -, hg, hor⟩ := append_put (V.alloc (.cells #[.int .i64 (s : Int), str d] 117)) (W0.heap.size + 2) (W0.heap.size + 2) v xs ((s : Int), d) (World.ownsRow.alloc hw' _) V.heap.size 1 k0 k1 (by omega) (by simp; omega) (by simp; omega) (fun k hk => (hvb k hk).1)
    have hown' : W2.ownsRow (W0.heap.size + 2) 117 2 v' (j + 1) (putC (xs ++ [((s : Int), d)])) := by
      have := hown
      unfold OwnP at this
      rwa [List.length_append, hlj] at this
    obtain ⟨g', cap', rfl⟩ := ownsRow_succ hown'
    have hsz2 : V.heap.size + 1 ≤ W2.heap.size := by have := hg.size; simpa using this
    have hkeep : ∀ k, k < V.heap.size → v.ownBlock ≠ some k → W2.heap[k]? = V.heap[k]? := fun k hk hne => (hg.block k (by simp; omega) (fun e => hne e.symm)).trans (Below.heap_alloc V _ k hk)
    have hlow : ∀ k, k < W0.heap.size + 2 → W2.heap[k]? = V.heap[k]? := by
      intro k hk
      by_cases hkv : k < V.heap.size
      · exact hkeep k hkv (fun e => by have := hvb k e; omega)
      · exfalso; omega
    have hc2 : W2.cell? ⟨W.heap.size, 0, none⟩ = some v := (cell_same 0 (hlow _ (by omega))).trans hc
    have hf2 : W2.frozen? ⟨W.heap.size, 0, none⟩ = false := (World.frozen?_of_block (a := ⟨W.heap.size, 0, none⟩) (hlow W.heap.size (by omega))).trans hf
    have hset : ∀ k, k ≠ W.heap.size → (W2.setCell ⟨W.heap.size, 0, none⟩ (.slice (some ⟨g', 0, none⟩) (j + 1) cap')).heap[k]? = W2.heap[k]? := fun k hk => set_other _ _ _ _ _ hk
    have hfin : KeepB W0.heap.size p V (W2.setCell ⟨W.heap.size, 0, none⟩ (.slice (some ⟨g', 0, none⟩) (j + 1) cap')) ∧ TouchI W0 tb b jb m n L W.heap.size p 117 2 (j + 1) (putC (xs ++ [((s : Int), d)])) (W2.setCell ⟨W.heap.size, 0, none⟩ (.slice (some ⟨g', 0, none⟩) (j + 1) cap')) := by
      refine ⟨⟨?_, ?_, ?_⟩, ?_, ?_, _, set_here _ hc2, by rw [World.frozen?_setCell]; exact hf2, ?_, ?_⟩
      · rw [hset _ (by omega)]; exact hlow _ (by omega)
      · rw [hset _ (by omega)]; exact hlow _ (by omega)
      · rw [hset _ (by omega)]; exact hkeep p hp2 (fun e => hp p e rfl)
      · exact hT.kept (by rw [hset _ (by omega)]; exact hlow _ (by omega)) (by rw [hset _ (by omega)]; exact hlow _ (by omega))
      · refine ⟨hg.os.trans ho.os, hg.tape.trans ho.tape, hg.output.trans ho.output, by rw [set_size]; omega, fun k hk hn => ?_⟩
        rw [hset k hn, hlow k (by omega)]
        exact ho.block k hk hn
      · exact ownsRow_setCell_below hown' (by show W.heap.size < _; omega) _
      · intro k hk
        rcases hor with e | e
        · rw [e] at hk; exact hp k hk
        · rw [e] at hk; cases hk; simp; omega
    have HF := Lib.hid hfin
    clear hfin hkeep hlow hset hvb hown hown' hg hor hw hw' hp hT ho hbl2
    gi_wp2
    exact ⟨HF.out.1, by rw [HT.out]; exact HF.out.2⟩
  case hdone =>
    intro p V hD hK
    rw [List.take_length] at hD
    obtain ⟨hT, ho2, v, hc, hf, hw, _⟩ := hD
    have hbl : Below W.heap.size W0 V := ho2.below (by omega) (fun k e => by omega)
    have HB := Lib.hid (hB0.trans hbl)
    have HW := Lib.hid hw
    clear hbl ho2 hw
    gi_wp2
    refine ⟨by simp, .inl ⟨_, _, rfl, run_takeDeferred hK, ?_⟩⟩
    have hne : ∀ k, k ≠ W0.heap.size → (V.putObj W0.heap.size (.deferred none)).heap[k]? = V.heap[k]? := fun k hk => World.putObj_heap_other hk
    refine ⟨_, results_tmp rfl _ _ _, v, rfl, ?_, ?_⟩
    · have hw2 := HW.out.kept (w' := V.putObj W0.heap.size (.deferred none)) (row := some W0.heap.size) ⟨rfl, rfl, rfl, by simp, fun k _ hn => hne k (by intro e; subst e; exact hn rfl)⟩ (.inr fun e => by have := (HW.out.lt _ e).1; omega)
      show World.ownsRow _ _ _ _ _ (castL L).length _
      rw [castL_length]
      refine ⟨hw2.1, ?_⟩
      rcases hw2.2 with h0 | ⟨g, cap, cur, h1, h2, h3⟩
      · exact .inl h0
      · exact .inr ⟨g, cap, cur, h1, by omega, h3⟩
    · refine ⟨HB.out.os, HB.out.tape, HB.out.output, by rw [World.putObj_size]; exact HB.out.size, fun k hk => ?_⟩
      rw [hne k (by omega)]; exact HB.out.block k hk
theorem collect_any {W : World} {tb b jb m n : Nat} {L : PutL} (Bd : Nat) (h : TxIn W tb b jb m n L) (hbd : W.cell? ⟨Bd, 0, none⟩ = some (devp tb)) :
    Calls Tryz.prog 59 #[.func (.func 121) #[] #[.pointer (some ⟨Bd, 0, none⟩)]] W fun e w' => ∃ v, e = .returned v ∧ OwnP w' W.heap.size v (castL L) ∧ Below W.heap.size W w' := by
  have HC := Lib.hid (appendSeq_any Bd h hbd)
  clear h
  go_enter Tryz.func59, Tryz.ntmps59
  go_wp2_with fail
  refine HC.out.mono ?_
  rintro e w1 ⟨v, rfl, hv, hb⟩
  go_wp2_with fail
  go_ret
  exact ⟨_, rfl, hv, hb⟩
structure Ended (w : World) (tb : Nat) (V : World) : Prop where
  only : Only (fun k => k = tb) w V
  done : V.cell? ⟨tb, 3, none⟩ = some (.bool true)
section
variable {W : World} {tb b jb m n : Nat} {L : PutL}
theorem ended_set {w V : World} (h : TxIn V tb b jb m n L) (hb : Below w.heap.size w V) : Ended w tb ((V.setCell ⟨tb, 2, none⟩ (.map none)).setCell ⟨tb, 3, none⟩ (.bool true)) := by
  have h3 : (V.setCell ⟨tb, 2, none⟩ (.map none)).cell? ⟨tb, 3, none⟩ = some (.bool false) := (set_there V tb _ (by decide)).trans h.c3
  refine ⟨(Only.of_below hb).trans ((Only.setCell (fun k => k = tb) V ⟨tb, 2, none⟩ _ rfl).trans (Only.setCell (fun k => k = tb) _ ⟨tb, 3, none⟩ _ rfl) fun j hj => .inl hj) fun j hj => .inl hj, set_here _ h3⟩
theorem log_set {V : World} (h : TxIn V tb b jb m n L) : ((V.setCell ⟨tb, 2, none⟩ (.map none)).setCell ⟨tb, 3, none⟩ (.bool true)).cell? ⟨tb, 1, none⟩ = some (devp jb) := by
  rw [set_there _ tb _ (by decide), set_there _ tb _ (by decide)]
  exact h.c1
theorem txCommit_some (h : TxIn W tb b jb m n L) (hne : L ≠ []) (Q : Value → Value → World → Prop)
    (hc : ∀ V v, Ended W tb V → OwnP V W.heap.size v (castL L) → Calls Tryz.prog 63 #[devp jb, v] V fun e w' => ∃ r1 r2, e = .returned (.tuple #[r1, r2]) ∧ Q r1 r2 w') :
    Calls Tryz.prog 21 #[devp tb] W fun e w' => ∃ r1 r2, e = .returned (.tuple #[r1, r2]) ∧ Q r1 r2 w' := by
  have HO := Lib.hid (over_any tb false W h.c3)
  have HI := Lib.hid h
  have HQ := Lib.hid hc
  have htl := h.lt.1
  have hlen : (castL L).length = L.length := castL_length L
  have hpos : ((L.length : Int) == 0) = false := by
    have : L.length ≠ 0 := fun e => hne (List.length_eq_zero_iff.1 e)
    simp; omega
  clear h hc hne
  go_enter Tryz.func21, Tryz.ntmps21
  go_wp2_with fail
  refine HO.out.mono ?_
  rintro e w1 ⟨rfl, rfl⟩
  go_wp2_with fail
  refine (inOrder_any tb _).mono ?_
  rintro e w1 ⟨rfl, rfl⟩
  have hB1 := (Below.refl W.heap.size W).alloc (Nat.le_refl _) (.cells #[devp tb] 30)
  have hT1 := Lib.hid (HI.out.below hB1)
  have HB1 := Lib.hid hB1
  clear hB1
  go_wp2_with fail
  refine (collect_any W.heap.size hT1.out (cell_new_l W _ _)).mono ?_
  rintro e V ⟨v, rfl, hown, hb⟩
  have hBV : Below W.heap.size W V := HB1.out.trans (hb.mono (by simp))
  have hTV := hT1.out.below hb
  have hE := ended_set hTV hBV
  have hlog := log_set hTV
  have hown1 : OwnP V W.heap.size v (castL L) := by
    refine ⟨hown.1, ?_⟩
    rcases hown.2 with h0 | ⟨g, cap, cur, h1, h2, h3⟩
    · exact .inl h0
    · exact .inr ⟨g, cap, cur, h1, by simp at h2; omega, h3⟩
  have hfar : ∀ k, v.ownBlock = some k → k ≠ tb := fun k hk e => by have := (hown1.lt k hk).1; omega
  have hown2 : OwnP ((V.setCell ⟨tb, 2, none⟩ (.map none)).setCell ⟨tb, 3, none⟩ (.bool true)) W.heap.size v (castL L) := ownsRow_setCell_below (ownsRow_setCell_below hown1 (show tb < W.heap.size from htl) _) (show tb < W.heap.size from htl) _
  have HE := Lib.hid hE
  have HOW := Lib.hid hown2
  have HFi := Lib.hid (finish_any tb V _ _ hTV.c2 hTV.c3 hTV.f2 hTV.f3)
  obtain ⟨A, c, rfl, -⟩ := hown1.puts
  rw [hlen] at HOW ⊢
  clear hE hown2 hfar hTV hBV hown hb hown1
  go_wp2_with fail
  refine HFi.out.mono ?_
  rintro e w1 ⟨rfl, rfl⟩
  generalize (V.setCell ⟨tb, 2, none⟩ (.map none)).setCell ⟨tb, 3, none⟩ (.bool true) = X at *
  go_wp2_with fail
  refine (HQ.out X _ HE.out (by show X.ownsRow _ _ _ _ (castL L).length _; rw [hlen]; have := HOW.out; unfold OwnP at this; rwa [hlen] at this)).mono ?_
  rintro e w1 ⟨r1, r2, rfl, hq⟩
  have HQ2 := Lib.hid hq
  clear hq
  go_wp2_with fail
  go_ret2
  exact ⟨_, _, rfl, HQ2.out⟩
end
end Go.Proofs.YtnfiapjdkjbdhaaGreat
/- Layer 8 (tx): Patch; all methods of a transaction that is done, and of none. -/
namespace Go.Proofs.YtnfiapjdkjbdhaaGreat
open Go.RowKit Go.Maps Go.Sort
set_option linter.unusedVariables false
set_option linter.unusedSimpArgs false
set_option maxRecDepth 10000
section
variable {W : World} {tb b jb m F n rec : Nat} {M : Dv} {L : PutL}
def over (l : List UInt8) (f : Nat) (s : List UInt8) : List UInt8 := l.take f ++ s ++ l.drop (f + s.length)
theorem over_length {l : List UInt8} (hl : l.length = 64) {f : Nat} {s : List UInt8} (h : f + s.length ≤ 64) : (over l f s).length = 64 := by
  unfold over
  rw [List.length_append, List.length_append, List.length_take, List.length_drop]
  omega
theorem txPatch_bad (h : TxOn W tb b jb m M L F n rec) (i f : Int) (s : List UInt8) (hs : s.length ≤ 140737488351232) (hbad : i < 0 ∨ (M.n : Int) ≤ i ∨ f < 0 ∨ 64 - (s.length : Int) < f) :
    Calls Tryz.prog 44 #[devp tb, .int .i64 i, .int .i64 f, str s] W fun e w' => e = .returned (.int .i64 2) ∧ Below W.heap.size W w' := by
  have hB := ((Below.refl W.heap.size W).alloc (Nat.le_refl _) (.cells #[.int .i64 f] 3)).alloc (by simp) (.cells #[str s] 9)
  have hr : Calls Tryz.prog 95 #[devp tb, .int .i64 i, .func (.func 96) #[] #[.pointer (some ⟨W.heap.size, 0, none⟩), .pointer (some ⟨W.heap.size + 1, 0, none⟩)]] ((W.alloc (.cells #[.int .i64 f] 3)).alloc (.cells #[str s] 9)) fun e w' => e = .returned (.int .i64 2) ∧ ((W.alloc (.cells #[.int .i64 f] 3)).alloc (.cells #[str s] 9)) = w' := by
    have h' := h.below hB
    by_cases hi : i < 0 ∨ (M.n : Int) ≤ i
    · exact refusal_out tb b M.n _ h'.tx.c3 h'.tx.c0 h'.len i _ hi
    · obtain ⟨k, rfl⟩ : ∃ k : Nat, i = (k : Int) := ⟨i.toNat, by omega⟩
      have e1 := up1 (o := .cells #[str s] 9) (cell_new_l W (.int .i64 f) 3)
      have e2 := cell_new_l (W.alloc (.cells #[.int .i64 f] 3)) (str s) 9
      rw [World.size_alloc] at e2
      exact refusal_patch tb b M.n _ h'.tx.c3 h'.tx.c0 h'.len k W.heap.size (W.heap.size + 1) f s false (by omega) e1 e2 hs (by
        rw [Bool.and_eq_false_iff, decide_eq_false_iff_not, decide_eq_false_iff_not]
        omega)
  have HR := Lib.hid hr
  have HB := Lib.hid hB
  clear hr hB h hbad
  go_enter Tryz.func44, Tryz.ntmps44
  go_wp2_with fail
  refine HR.out.mono ?_
  rintro e w1 ⟨rfl, rfl⟩
  go_wp2_with fail
  go_ret
  exact ⟨rfl, HB.out⟩
set_option maxHeartbeats 1000000 in
theorem txPatch_any (h : TxOn W tb b jb m M L F n rec) (i : Nat) (hi : i < M.n) (f : Nat) (s : List UInt8) (hf : f + s.length ≤ 64) (h64 : ((look L i).getD (M.cur i)).length = 64) (Q : Value → World → Prop)
    (hw : ∀ V, Below W.heap.size W V → Calls Tryz.prog 49 #[devp tb, .int .i64 (i : Int), str (over ((look L i).getD (M.cur i)) f s)] V fun e w' => ∃ r, e = .returned r ∧ Q r w' ∧ Only (fun k => k = m) V w') :
    Calls Tryz.prog 44 #[devp tb, .int .i64 (i : Int), .int .i64 (f : Int), str s] W fun e w' => ∃ r, e = .returned r ∧ Q r w' := by
  obtain ⟨X, hX⟩ : ∃ X, X = (W.alloc (.cells #[.int .i64 (f : Int)] 3)).alloc (.cells #[str s] 9) := ⟨_, rfl⟩
  have hB : Below W.heap.size W X := by rw [hX]; exact ((Below.refl W.heap.size W).alloc (Nat.le_refl _) _).alloc (by simp) _
  have hsX : X.heap.size = W.heap.size + 2 := by rw [hX]; simp
  have e1 : X.cell? ⟨W.heap.size, 0, none⟩ = some (.int .i64 (f : Int)) := by rw [hX]; exact up1 (cell_new_l W (.int .i64 (f : Int)) 3)
  have e2 : X.cell? ⟨W.heap.size + 1, 0, none⟩ = some (str s) := by
    rw [hX]
    have := cell_new_l (W.alloc (.cells #[.int .i64 (f : Int)] 3)) (str s) 9
    rwa [World.size_alloc] at this
  have h' := h.below hB
  have HR := Lib.hid (refusal_patch tb b M.n X h'.tx.c3 h'.tx.c0 h'.len i W.heap.size (W.heap.size + 1) f s true hi e1 e2 (by omega) (by
    rw [Bool.and_eq_true, decide_eq_true_eq, decide_eq_true_eq]; omega))
  have HRd := Lib.hid (txRead_any h' i hi)
  have hml := h.tx.lt.2
  have HW := Lib.hid hw
  have HB := Lib.hid hB
  generalize (look L i).getD (M.cur i) = now at *
  have b1 : (f : Int) ≤ (now.length : Int) := by omega
  have b2 : (f : Int) + (s.length : Int) ≤ (now.length : Int) := by omega
  have b3 : (0 : Int) ≤ (f : Int) + (s.length : Int) := by omega
  have b4 : IntKind.i64.wrap ((f : Int) + (s.length : Int)) = (f : Int) + (s.length : Int) := IntWalk.i64_in _ (by omega)
  have b5 : ((f : Int) + (s.length : Int)).toNat = f + s.length := by omega
  have b6 : ¬ 9223372036854775807 < min f now.length + s.length := by omega
  have b7 : ¬ 9223372036854775807 < min f now.length + s.length + (now.length - (f + s.length)) := by omega
  have b8 : ¬ 9223372036854775807 < min f now.length + (s.length + (now.length - (f + s.length))) := by omega
  unfold over at HW
  rw [List.append_assoc] at HW
  clear h h' hw hB h64
  go_enter Tryz.func44, Tryz.ntmps44
  go_wp2_with fail
  rw [← hX]
  clear hX
  refine HR.out.mono ?_
  rintro e w1 ⟨rfl, rfl⟩
  go_wp2_with fail
  refine HRd.out.mono ?_
  rintro e Y ⟨rfl, hb⟩
  have d1 := (hb.cell (p := ⟨W.heap.size, 0, none⟩) (by show W.heap.size < _; omega)).trans e1
  have d2 := (hb.cell (p := ⟨W.heap.size + 1, 0, none⟩) (by show W.heap.size + 1 < _; omega)).trans e2
  have HBY := Lib.hid (HB.out.trans (hb.mono (by omega)))
  have hsY := hb.size
  clear hb e1 e2
  go_wp2_with fail
  go_region_held3 (fun W' => W'.cell? ⟨W.heap.size, 0, none⟩ = some (.int .i64 (f : Int)) ∧ W'.cell? ⟨W.heap.size + 1, 0, none⟩ = some (str s))
    (exact ⟨d1, d2⟩)
    (first | (go_at_call 49; ((with_reducible refine (HW.out _ (HBY.out.drew)).mono ?_); rintro e w4 ⟨r, rfl, hq, ho⟩; have HQ := Lib.hid hq; have d1 := (cell_same 0 (ho.block W.heap.size (by show W.heap.size < Y.heap.size; omega) (by omega))).trans d1; have d2 := (cell_same 0 (ho.block (W.heap.size + 1) (by show W.heap.size + 1 < Y.heap.size; omega) (by omega))).trans d2; clear hq ho)))
  go_wp2_with fail
  go_ret
  exact ⟨_, rfl, HQ.out⟩
end
/-! What a transaction that is done answers. -/
section
variable (tb : Nat) (W : World) (h : W.cell? ⟨tb, 3, none⟩ = some (.bool true))
include h
end
/-! What none answers. -/
section
variable (W : World)
end
end Go.Proofs.YtnfiapjdkjbdhaaGreat
/- Layer 4 (journal): what the statements ask of a transaction. -/
namespace Go.Proofs.YtnfiapjdkjbdhaaGreat
open Go.RowKit Go.Maps
set_option linter.unusedVariables false
set_option linter.unusedSimpArgs false
set_option maxRecDepth 10000
end Go.Proofs.YtnfiapjdkjbdhaaGreat
/- Layer 4 (journal): rows of sectors, as the statements make and compare them. -/
namespace Go.Proofs.YtnfiapjdkjbdhaaGreat
open Go.RowKit Go.Maps
set_option linter.unusedVariables false
set_option linter.unusedSimpArgs false
set_option maxRecDepth 10000
end Go.Proofs.YtnfiapjdkjbdhaaGreat
/- Layer 4 (journal): a device, its journals and rows, held by a statement. -/
namespace Go.Proofs.YtnfiapjdkjbdhaaGreat
open Go.RowKit Go.Maps
set_option linter.unusedVariables false
set_option linter.unusedSimpArgs false
set_option maxRecDepth 10000
abbrev Rows3 := List (Value × List (List UInt8))
section
variable {F n : Nat} {w W : World} {b : Nat} {M : Dv} {js : List (Nat × Nat)} {vs : Rows3}
/-! Between two crashes. -/
def Aft (N F n g : Nat) (f : Nat → List UInt8) (L : PutL) (d : Nat → List UInt8) : Prop := StA N F n g f d ∨ StB N F n (g + 1) f L d ∨ StA N F n (g + 1) (laid f L) d
theorem calm_head (hc : M.calm) (F : Nat) : M.headOf F = hd (M.dur F) := by
  unfold Dv.headOf
  split
  · rfl
  · rw [calm_cur M hc]
theorem sta_head {N g : Nat} {f d : Nat → List UInt8} (h : StA N F n g f d) : hd (d F) = ⟨g, false, (hd (d F)).cnt⟩ := by
  have h1 := h.gen; have h2 := h.pend
  generalize hd (d F) = x at *
  obtain ⟨a, p, c⟩ := x
  simp only at h1 h2
  rw [h1, h2]
theorem commit_len (F g : Nat) (l : PutL) : (commitP F g l).flatten.length = 2 * l.length + (l.length + 31) / 32 + 2 := by
  have := keepP_length F l
  have := bodyL_length l
  simp [commitP, markP]
  omega
theorem commit_all {N g : Nat} {f : Nat → List UInt8} {L : PutL} (hT : Tr N F n L) (hN : M.n = N) (hc : M.calm) (hg : g < 18446744073709551615) (hA : StA N F n g f M.dur) :
    (M.runD (commitP F (g + 1) L)).n = N ∧ (M.runD (commitP F (g + 1) L)).wr ≤ M.wr + (2 * L.length + (L.length + 31) / 32 + 2) ∧
    (∀ keep, Aft N F n g f L ((M.runD (commitP F (g + 1) L)).crash keep).dur) ∧
    ((M.runD (commitP F (g + 1) L)).down = false → (M.runD (commitP F (g + 1) L)).calm ∧ StA N F n (g + 1) (laid f L) (M.runD (commitP F (g + 1) L)).dur) ∧
    (M.down = false → M.left = 0 → (M.runD (commitP F (g + 1) L)).down = false ∧ (M.runD (commitP F (g + 1) L)).left = 0) := by
  refine ⟨(runD_n _ _).trans hN, ?_, fun keep => ?_, fun hd => ?_, fun h1 h2 => runD_free M ⟨h1, h2⟩ _⟩
  · have := runD_wr M (commitP F (g + 1) L)
    rwa [commit_len] at this
  · rcases commit_crash hT M hN hc hg hA keep with ⟨-, h⟩ | ⟨-, h⟩
    · exact .inr (.inr h)
    · exact h
  · obtain ⟨h1, -⟩ := runD_calm M hc (commitP F (g + 1) L) (by rw [hN]; exact hT.commitOk (g + 1)) hd
    refine ⟨h1, ?_⟩
    rcases commit_crash hT M hN hc hg hA [] with ⟨-, h⟩ | ⟨h, -⟩
    · rwa [crash_dur _ h1] at h
    · rw [hd] at h; cases h
/-! The calls. -/
end
end Go.Proofs.YtnfiapjdkjbdhaaGreat
/- Layer 4 (journal): the chapter's examples, walked. -/
namespace Go.Proofs.YtnfiapjdkjbdhaaGreat
open Go.RowKit Go.Maps
set_option linter.unusedVariables false
set_option linter.unusedSimpArgs false
set_option maxRecDepth 10000
section
variable {F n : Nat} {w W : World} {b : Nat} {M : Dv} {js : List (Nat × Nat)} {vs : Rows3}
end
end Go.Proofs.YtnfiapjdkjbdhaaGreat
/- Layer 8 (tx): the document's answer: a transaction of its own; where a sector stands, what it reads. -/
namespace Go.Proofs.YtnfiapjdkjbdhaaGreat
open Go.RowKit Go.Maps
set_option linter.unusedVariables false
set_option linter.unusedSimpArgs false
set_option maxRecDepth 10000
section
variable {W : World} {rb : Nat} {v u : Value} {L : PutL} {most : Nat}
end
end Go.Proofs.YtnfiapjdkjbdhaaGreat
/- Layer 8 (tx): the document's answer: Write. -/
namespace Go.Proofs.YtnfiapjdkjbdhaaGreat
open Go.RowKit Go.Maps
set_option linter.unusedVariables false
set_option linter.unusedSimpArgs false
set_option maxRecDepth 10000
section
variable {W : World} {rb : Nat} {v u : Value} {L : PutL} {most : Nat}
end
end Go.Proofs.YtnfiapjdkjbdhaaGreat
/- Layer 8 (tx): the document's answer: Patch, Commit. -/
namespace Go.Proofs.YtnfiapjdkjbdhaaGreat
open Go.RowKit Go.Maps
set_option linter.unusedVariables false
set_option linter.unusedSimpArgs false
set_option maxRecDepth 10000
section
variable {W : World} {rb : Nat} {v u : Value} {L : PutL} {most : Nat}
end
end Go.Proofs.YtnfiapjdkjbdhaaGreat
/- Layer 8 (tx): the statements' helpers. -/
namespace Go.Proofs.YtnfiapjdkjbdhaaGreat
open Go.RowKit Go.Maps
set_option linter.unusedVariables false
set_option linter.unusedSimpArgs false
set_option maxRecDepth 10000
def fillT (s : List UInt8) (k : Nat) : List UInt8 := (List.range k).map (fun i => s.getD (i % s.length) 0) ++ List.replicate (64 - k) 0
def fullT (s : List UInt8) : List UInt8 := if s = [] then List.replicate 64 0 else fillT s 64
theorem fillT_length (s : List UInt8) (k : Nat) (h : k ≤ 64) : (fillT s k).length = 64 := by unfold fillT; simp; omega
theorem fullT_length (s : List UInt8) : (fullT s).length = 64 := by
  unfold fullT
  split
  · simp
  · exact fillT_length s 64 (Nat.le_refl _)
theorem fillT_set (s : List UInt8) (k : Nat) (h : k < 64) : (fillT s k).set k (s.getD (k % s.length) 0) = fillT s (k + 1) := by
  unfold fillT
  rw [List.range_succ, List.map_append]
  obtain ⟨m, hm⟩ : ∃ m, 64 - k = m + 1 := ⟨63 - k, by omega⟩
  rw [hm, show 64 - (k + 1) = m by omega, List.replicate_succ, List.set_append, if_neg (by simp)]
  simp
end Go.Proofs.YtnfiapjdkjbdhaaGreat
/- Layer 8 (tx): calls, as things that lie apart turn by them. -/
namespace Go.Proofs.YtnfiapjdkjbdhaaGreat
open Go.RowKit Go.Maps
set_option linter.unusedVariables false
set_option linter.unusedSimpArgs false
set_option maxRecDepth 10000
section
variable {w W : World} {rs : List Res}
theorem sys_new (h : Sys w W rs) (n : Nat) (h8 : 8 ≤ n) (hn : n ≤ 4096) : Calls Tryz.prog 36 #[.int .i64 (n : Int)] W fun e w' => ∃ b, e = .returned (.tuple #[devp b, .int .i64 0]) ∧ Sys w w' (rs ++ [devR b (dev0 n)]) := by
  refine (new_any n h8 hn W).mono ?_
  rintro e w' ⟨rfl, rfl⟩
  exact ⟨_, rfl, h.push (newW_below n W) (T := newS W) (new_in n h8 hn W) (newS_from W)⟩
theorem sys_open (h : Sys w W rs) {i b : Nat} {M : Dv} (hi : rs[i]? = some (devR b M)) (F n : Nat) (h4 : 4 ≤ n) (h256 : n ≤ 256) (hF : F + n ≤ M.n) (hdn : M.down = false) (hw : M.wr ≤ 1099511627776) (hp : (hd (M.cur F)).pend = false) :
    Calls Tryz.prog 39 #[devp b, .int .i64 (F : Int), .int .i64 (n : Int)] W fun e w' => ∃ jb, e = .returned (.tuple #[devp jb, .int .i64 0]) ∧ Sys w w' (rs ++ [jourR jb b F n 0]) := by
  obtain ⟨K, hH, -⟩ := h.dev hi
  refine (jopen_clean hH F n h4 h256 hF hdn hw hp).mono ?_
  rintro e w' ⟨jb, rfl, hjb, hj, hb, -⟩
  exact ⟨jb, rfl, h.addMem hb hj fun k hk => by rw [hk]; exact ⟨hjb, hj.lt⟩⟩
theorem sys_begin (h : Sys w W rs) (b jb n : Nat) (hn : n ≤ 4096) : Calls Tryz.prog 22 #[devp b, devp jb] W fun e w' => ∃ tb, e = .returned (.tuple #[devp tb, .int .i64 0]) ∧ Sys w w' (rs ++ [txR tb b jb n []]) := by
  refine (begin_any b jb n hn W).mono ?_
  rintro e w' ⟨rfl, hb, hT⟩
  exact ⟨_, rfl, h.push hb (T := fun k => k = W.heap.size + 1 ∨ k = W.heap.size) ⟨_, hT, fun k => Iff.rfl⟩ fun k hk => by omega⟩
theorem sys_commit (h : Sys w W rs) {i j b jb F n rec g : Nat} {M : Dv} (hi : rs[i]? = some (devR b M)) (hj : rs[j]? = some (jourR jb b F n rec)) (hij : j ≠ i) {v : Value} {l : PutL} (hv : Puts W v (castL l)) (h4 : 4 ≤ n) (h256 : n ≤ 256) (hF : F + n ≤ M.n) (hw : M.wr + 16384 ≤ 1099511627776)
    (hwhy : whyL M.n F n (castL l) = 0) (hgen : M.headOf F = ⟨g, false, (M.headOf F).cnt⟩) (hg : g + 1 < 18446744073709551616) :
    Calls Tryz.prog 63 #[devp jb, v] W fun e w' =>
      e = .returned (.tuple #[.int .u64 (if (M.runD (commitP F (g + 1) (lastL l))).down then 0 else (g : Int) + 1), .int .i64 (if (M.runD (commitP F (g + 1) (lastL l))).down then 30 else 0)]) ∧ Sys w w' (rs.set i (devR b (M.runD (commitP F (g + 1) (lastL l))))) := by
  obtain ⟨K, hH, -, hm, hs, -⟩ := h.dev hi
  obtain ⟨hJ, hk⟩ := hm j _ _ _ hij hj
  exact (commit_ok jb F n rec g v l hH hJ (hk jb rfl) hv h4 h256 hF hw hwhy hgen hg).mono fun e w' hx => ⟨hx.1, hs _ _ hx.2⟩
end
end Go.Proofs.YtnfiapjdkjbdhaaGreat
/- Layer 8 (tx): a transaction, and the document's one, step by step. -/
namespace Go.Proofs.YtnfiapjdkjbdhaaGreat
open Go.RowKit Go.Maps
set_option linter.unusedVariables false
set_option linter.unusedSimpArgs false
set_option maxRecDepth 10000
/-! What is answered, and what is written then. -/
def rdE (N : Nat) (i : Int) : Int := if i < 0 ∨ (N : Int) ≤ i then 2 else 0
def rdS (N : Nat) (f : Nat → List UInt8) (L : PutL) (i : Int) : List UInt8 := if i < 0 ∨ (N : Int) ≤ i then [] else (look L i.toNat).getD (f i.toNat)
def wrE (N cap : Nat) (L : PutL) (i : Int) (s : List UInt8) : Int := if i < 0 ∨ (N : Int) ≤ i ∨ s.length ≠ 64 then 2 else if look L i.toNat = none ∧ cap ≤ L.length then 4 else 0
def wrL (N cap : Nat) (L : PutL) (i : Int) (s : List UInt8) : PutL := if wrE N cap L i s = 0 then ins L i.toNat s else L
def ptBad (N : Nat) (i f : Int) (s : List UInt8) : Prop := i < 0 ∨ (N : Int) ≤ i ∨ f < 0 ∨ 64 - (s.length : Int) < f
instance (N : Nat) (i f : Int) (s : List UInt8) : Decidable (ptBad N i f s) := by unfold ptBad; infer_instance
def ptS (g : Nat → List UInt8) (L : PutL) (i f : Int) (s : List UInt8) : List UInt8 := over ((look L i.toNat).getD (g i.toNat)) f.toNat s
def ptE (N cap : Nat) (g : Nat → List UInt8) (L : PutL) (i f : Int) (s : List UInt8) : Int := if ptBad N i f s then 2 else wrE N cap L i (ptS g L i f s)
def ptL (N cap : Nat) (g : Nat → List UInt8) (L : PutL) (i f : Int) (s : List UInt8) : PutL := if ptBad N i f s then L else wrL N cap L i (ptS g L i f s)
structure WrOk (N cap : Nat) (L : PutL) : Prop where
  asc : asc L
  ok : PutsOk N L
  cap : L.length ≤ cap
theorem WrOk.nil (N cap : Nat) : WrOk N cap [] := ⟨asc_nil, fun p hp => by simp at hp, Nat.zero_le _⟩
theorem WrOk.wr {N cap : Nat} {L : PutL} (h : WrOk N cap L) (i : Int) (s : List UInt8) : WrOk N cap (wrL N cap L i s) := by
  unfold wrL
  by_cases h0 : wrE N cap L i s = 0
  · rw [if_pos h0]
    unfold wrE at h0
    by_cases h1 : i < 0 ∨ (N : Int) ≤ i ∨ s.length ≠ 64
    · rw [if_pos h1] at h0; cases h0
    · rw [if_neg h1] at h0
      by_cases h2 : look L i.toNat = none ∧ cap ≤ L.length
      · rw [if_pos h2] at h0; cases h0
      · refine ⟨asc_ins h.asc _ _, ok_ins h.ok (by omega) (by omega), ?_⟩
        rw [ins_length h.asc]
        have := h.cap
        split
        · exact this
        · rename_i h3
          have hn : look L i.toNat = none := by cases h4 : look L i.toNat; rfl; rw [h4] at h3; exact absurd rfl h3
          have : ¬ cap ≤ L.length := fun e => h2 ⟨hn, e⟩
          omega
  · rw [if_neg h0]; exact h
theorem WrOk.pt {N cap : Nat} {L : PutL} (h : WrOk N cap L) (g : Nat → List UInt8) (i f : Int) (s : List UInt8) : WrOk N cap (ptL N cap g L i f s) := by
  unfold ptL
  split
  · exact h
  · exact h.wr _ _
theorem val_length {N : Nat} {L : PutL} (h : PutsOk N L) {g : Nat → List UInt8} {i : Nat} (hg : (g i).length = 64) : ((look L i).getD (g i)).length = 64 := by
  cases hl : look L i with
  | none => exact hg
  | some d => exact (h _ (look_mem hl)).2
theorem set_same {rs : List Res} {i : Nat} {r : Res} (h : rs[i]? = some r) : rs.set i r = rs := by
  obtain ⟨hi, he⟩ := List.getElem?_eq_some_iff.1 h
  subst he
  exact List.set_getElem_self hi
section
variable {w W : World} {rs : List Res} {t i j tb b jb F n rec : Nat} {M : Dv} {L : PutL}
structure TxSys (w W : World) (rs : List Res) (t i j tb b jb F n rec : Nat) (M : Dv) (L : PutL) : Prop where
  sys : Sys w W rs
  ht : rs[t]? = some (txR tb b jb M.n L)
  hi : rs[i]? = some (devR b M)
  hj : rs[j]? = some (jourR jb b F n rec)
  ti : i ≠ t
  tj : j ≠ t
  ij : j ≠ i
  up : M.down = false
  wr : M.wr ≤ 1099511627776
  h4 : 4 ≤ n
  h256 : n ≤ 256
  ok : WrOk M.n (capL n) L
theorem TxSys.on (h : TxSys w W rs t i j tb b jb F n rec M L) : ∃ m, TxOn W tb b jb m M L F n rec ∧ ∀ W' L', TxIn W' tb b jb m M.n L' → Only (fun k => k = m) W W' → Sys w W' (rs.set t (txR tb b jb M.n L')) := by
  obtain ⟨S, ⟨m, hT, hS⟩, -, ho, hset, -⟩ := h.sys.use h.ht
  obtain ⟨T, hD, -⟩ := ho i _ h.ti h.hi
  refine ⟨m, ⟨hT, ⟨T, hD⟩, h.sys.mem h.hj, h.up, h.wr, h.h4, h.h256, h.ok.cap⟩, fun W' L' hT' hO => ?_⟩
  refine hset W' (txR tb b jb M.n L') S ⟨hO.os, hO.tape, hO.output, hO.size, fun k hk hn => hO.block k hk fun e => hn ((hS k).2 (.inr e))⟩ ⟨m, hT', hS⟩ fun k hk => .inl hk
theorem TxSys.turn (h : TxSys w W rs t i j tb b jb F n rec M L) {W' : World} {L' : PutL} (hs : Sys w W' (rs.set t (txR tb b jb M.n L'))) (hok : WrOk M.n (capL n) L') : TxSys w W' (rs.set t (txR tb b jb M.n L')) t i j tb b jb F n rec M L' :=
  ⟨hs, List.getElem?_set_self (idx_lt h.ht), by rw [List.getElem?_set_ne (fun e => h.ti e.symm)]; exact h.hi, by rw [List.getElem?_set_ne (fun e => h.tj e.symm)]; exact h.hj, h.ti, h.tj, h.ij, h.up, h.wr, h.h4, h.h256, hok⟩
theorem TxSys.below (h : TxSys w W rs t i j tb b jb F n rec M L) {W' : World} (hb : Below W.heap.size W W') : TxSys w W' rs t i j tb b jb F n rec M L := { h with sys := h.sys.below hb }
theorem sys_txRead (h : TxSys w W rs t i j tb b jb F n rec M L) (k : Int) :
    Calls Tryz.prog 70 #[devp tb, .int .i64 k] W fun e w' => e = .returned (.tuple #[str (rdS M.n M.cur L k), .int .i64 (rdE M.n k)]) ∧ Below W.heap.size W w' := by
  obtain ⟨m, hT, -⟩ := h.on
  unfold rdS rdE
  by_cases hk : k < 0 ∨ (M.n : Int) ≤ k
  · rw [if_pos hk, if_pos hk]
    exact (txRead_out hT k hk).mono fun e w' hx => ⟨hx.1, by rw [← hx.2]; exact Below.refl _ _⟩
  · rw [if_neg hk, if_neg hk]
    obtain ⟨q, rfl⟩ : ∃ q : Nat, k = (q : Int) := ⟨k.toNat, by omega⟩
    exact txRead_any hT q (by omega)
theorem tx_write (h : TxSys w W rs t i j tb b jb F n rec M L) (k : Int) (s : List UInt8) (hs : s.length ≤ 140737488351232) {m : Nat} (hT : TxOn W tb b jb m M L F n rec) :
    Calls Tryz.prog 49 #[devp tb, .int .i64 k, str s] W fun e w' => e = .returned (.int .i64 (wrE M.n (capL n) L k s)) ∧ TxIn w' tb b jb m M.n (wrL M.n (capL n) L k s) ∧ Only (fun k => k = m) W w' := by
  have hcap := h.ok.cap
  unfold wrL
  by_cases h1 : k < 0 ∨ (M.n : Int) ≤ k ∨ s.length ≠ 64
  · have he : wrE M.n (capL n) L k s = 2 := if_pos h1
    rw [he, if_neg (by decide)]
    refine (txWrite_bad hT k s hs h1).mono fun e w' hx => ⟨hx.1, hT.tx.below hx.2, Only.of_below hx.2⟩
  · obtain ⟨q, rfl⟩ : ∃ q : Nat, k = (q : Int) := ⟨k.toNat, by omega⟩
    rw [Int.toNat_natCast]
    by_cases h2 : look L q = none ∧ capL n ≤ L.length
    · have he : wrE M.n (capL n) L (q : Int) s = 4 := by unfold wrE; rw [if_neg h1, Int.toNat_natCast, if_pos h2]
      rw [he, if_neg (by decide)]
      refine (txWrite_full hT q (by omega) s (by omega) h2.1 (by omega)).mono fun e w' hx => ⟨hx.1, hT.tx.below hx.2, Only.of_below hx.2⟩
    · have he : wrE M.n (capL n) L (q : Int) s = 0 := by unfold wrE; rw [if_neg h1, Int.toNat_natCast, if_neg h2]
      rw [he, if_pos rfl]
      refine txWrite_ok hT q (by omega) s (by omega) ?_
      cases hl : look L q with
      | some d => exact .inl rfl
      | none => exact .inr (Nat.lt_of_not_le fun e => h2 ⟨hl, e⟩)
theorem sys_txWrite (h : TxSys w W rs t i j tb b jb F n rec M L) (k : Int) (s : List UInt8) (hs : s.length ≤ 140737488351232) :
    Calls Tryz.prog 49 #[devp tb, .int .i64 k, str s] W fun e w' => e = .returned (.int .i64 (wrE M.n (capL n) L k s)) ∧ TxSys w w' (rs.set t (txR tb b jb M.n (wrL M.n (capL n) L k s))) t i j tb b jb F n rec M (wrL M.n (capL n) L k s) := by
  obtain ⟨m, hT, hset⟩ := h.on
  exact (tx_write h k s hs hT).mono fun e w' hx => ⟨hx.1, h.turn (hset w' _ hx.2.1 hx.2.2) (h.ok.wr k s)⟩
theorem sys_txPatch (h : TxSys w W rs t i j tb b jb F n rec M L) (k f : Int) (s : List UInt8) (hs : s.length ≤ 140737488351232) :
    Calls Tryz.prog 44 #[devp tb, .int .i64 k, .int .i64 f, str s] W fun e w' => e = .returned (.int .i64 (ptE M.n (capL n) M.cur L k f s)) ∧ TxSys w w' (rs.set t (txR tb b jb M.n (ptL M.n (capL n) M.cur L k f s))) t i j tb b jb F n rec M (ptL M.n (capL n) M.cur L k f s) := by
  obtain ⟨m, hT, hset⟩ := h.on
  obtain ⟨S, hS⟩ := hT.dev
  have hok := h.ok.pt M.cur k f s
  suffices hg : Calls Tryz.prog 44 #[devp tb, .int .i64 k, .int .i64 f, str s] W fun e w' => e = .returned (.int .i64 (ptE M.n (capL n) M.cur L k f s)) ∧ TxIn w' tb b jb m M.n (ptL M.n (capL n) M.cur L k f s) ∧ Only (fun k => k = m) W w' from
    hg.mono fun e w' hx => ⟨hx.1, h.turn (hset w' _ hx.2.1 hx.2.2) hok⟩
  unfold ptE ptL
  by_cases hb : ptBad M.n k f s
  · rw [if_pos hb, if_pos hb]
    exact (txPatch_bad hT k f s hs hb).mono fun e w' hx => ⟨hx.1, hT.tx.below hx.2, Only.of_below hx.2⟩
  · rw [if_neg hb, if_neg hb]
    unfold ptBad at hb
    obtain ⟨q, rfl⟩ : ∃ q : Nat, k = (q : Int) := ⟨k.toNat, by omega⟩
    obtain ⟨g, rfl⟩ : ∃ g : Nat, f = (g : Int) := ⟨f.toNat, by omega⟩
    unfold ptS
    simp only [Int.toNat_natCast]
    have h64 := val_length (L := L) h.ok.ok (g := M.cur) (i := q) (hS.fine.cur (by omega))
    have hol := over_length h64 (f := g) (s := s) (by omega)
    refine (txPatch_any hT q (by omega) g s (by omega) h64 (fun r w' => r = .int .i64 (wrE M.n (capL n) L q (over ((look L q).getD (M.cur q)) g s)) ∧ TxIn w' tb b jb m M.n (wrL M.n (capL n) L q (over ((look L q).getD (M.cur q)) g s)) ∧ Only (fun k => k = m) W w') fun V hbV => ?_).mono ?_
    · exact (tx_write (h.below hbV) q _ (by omega) (hT.below hbV)).mono fun e w' hx => ⟨_, hx.1, ⟨rfl, hx.2.1, (Only.of_below hbV).trans hx.2.2 fun j hj => .inl hj⟩, hx.2.2⟩
    · rintro e w' ⟨r, rfl, rfl, h1, h2⟩
      exact ⟨rfl, h1, h2⟩
end
/-! The document's. -/
section
variable {w W : World} {rs : List Res} {r q rb N most : Nat} {f : Nat → List UInt8} {v : Value} {L : PutL}
end
end Go.Proofs.YtnfiapjdkjbdhaaGreat
/- Layer 9 (bmap): an indirect block read, written and cut in a transaction; what is asked of all, as mathematics. -/
namespace Go.Proofs.YtnfiapjdkjbdhaaGreat
open Go.RowKit Go.Maps Go.Lib
set_option linter.unusedVariables false
set_option linter.unusedSimpArgs false
set_option maxRecDepth 10000
def lisL (G : Gm) (f : Nat → List UInt8) (L : PutL) (k : Nat) : List Nat := if k = 0 then List.replicate 32 0 else numsL ((look L (secB G k)).getD (f (secB G k)))
theorem secB_lt {G : Gm} {k : Nat} (h1 : 1 ≤ k) (h2 : k ≤ G.b) : secB G k < G.all := by
  unfold secB Gm.all
  rw [G.off_succ 5]
  show G.off 5 + (k - 1) < G.off 5 + G.b
  omega
theorem numsL_lt (s : List UInt8) : ∀ x ∈ numsL s, x < 65536 := by
  intro x hx
  obtain ⟨j, -, rfl⟩ := List.mem_map.1 hx
  exact num2_lt s j
theorem lisL_lt (G : Gm) (f : Nat → List UInt8) (L : PutL) (k : Nat) : ∀ x ∈ lisL G f L k, x < 65536 := by
  intro x hx
  unfold lisL at hx
  split at hx
  · rw [List.eq_of_mem_replicate hx]; decide
  · exact numsL_lt _ x hx
section
variable {w W : World} {rs : List Res} {t i j tb b jb F n rec : Nat} {M : Dv} {L : PutL} {G : Gm}
theorem TxSys.val (h : TxSys w W rs t i j tb b jb F n rec M L) (hN : M.n = G.all) {k : Nat} (h1 : 1 ≤ k) (h2 : k ≤ G.b) : ((look L (secB G k)).getD (M.cur (secB G k))).length = 64 := by
  obtain ⟨m, hT, -⟩ := h.on
  obtain ⟨S, hS⟩ := hT.dev
  exact val_length h.ok.ok (g := M.cur) (hS.fine.cur (by rw [hN]; exact secB_lt h1 h2))
theorem TxSys.lis (h : TxSys w W rs t i j tb b jb F n rec M L) (hN : M.n = G.all) {k : Nat} (h2 : k ≤ G.b) : (lisL G M.cur L k).length = 32 := by
  unfold lisL
  split
  · rfl
  · rw [numsL_length, h.val hN (by omega) h2]
theorem read_tx (h : TxSys w W rs t i j tb b jb F n rec M L) (hG : G.ok) (hN : M.n = G.all) (k : Nat) (hk : k ≤ G.b) :
    Calls Tryz.prog 156 #[devp tb, gv G, w16 k] W fun e w' => e = .returned (.tuple #[lisV (lisL G M.cur L k), .int .i64 0]) ∧ Below W.heap.size W w' := by
  unfold lisL
  by_cases h0 : k = 0
  · subst h0
    rw [if_pos rfl]
    exact bread_zero _ _ _ _ _
  · rw [if_neg h0]
    refine bread_ok _ G hG k (by omega) hk _ (h.val hN (by omega) hk) W fun V hV => ?_
    have hsec := secB_lt (G := G) (k := k) (by omega) hk
    have hr := sys_txRead (h.below hV) ((secB G k : Nat) : Int)
    have hE : rdE M.n ((secB G k : Nat) : Int) = 0 := by unfold rdE; rw [if_neg (by omega)]
    have hS : rdS M.n M.cur L ((secB G k : Nat) : Int) = (look L (secB G k)).getD (M.cur (secB G k)) := by unfold rdS; rw [if_neg (by omega), Int.toNat_natCast]
    rw [hE, hS] at hr
    exact hr
end
def fitB (G : Gm) (x : Im) (c : Nat) : Prop := c ≤ G.b ∧ x.d0 ≤ G.b ∧ x.d1 ≤ G.b ∧ x.d2 ≤ G.b ∧ x.d3 ≤ G.b ∧ x.i ≤ G.b
instance (G : Gm) (x : Im) (c : Nat) : Decidable (fitB G x c) := by unfold fitB; infer_instance
theorem oddB_ok {G : Gm} (hG : G.ok) (n : Nat) : oddB G.i G.b G.j n = decide (G.b < n) := by
  unfold oddB
  have hm := gm_mayI hG
  rw [Bool.eq_iff_iff, decide_eq_true_iff, decide_eq_true_iff]
  constructor
  · rintro ⟨-, h | h⟩
    · exact absurd hm h
    · omega
  · intro h
    exact ⟨by omega, .inr (by omega)⟩
theorem askB_one {G : Gm} (hG : G.ok) (x : Im) (m : Bool) (c : Nat) : askB G.i G.b G.j x m [c] = (decide (fitB G x c) && m) := by
  unfold askB
  rw [decide_eq_true (gm_mayI hG), Bool.true_and]
  congr 1
  rw [Bool.eq_iff_iff]
  simp only [Bool.not_eq_true', List.any_eq_false, decide_eq_true_iff, oddB_ok hG, Im.bl, fitB, List.singleton_append, List.mem_cons, List.not_mem_nil, or_false, Nat.not_lt, forall_eq_or_imp, forall_eq]
  exact decide_eq_true_iff.symm
theorem askB_none {G : Gm} (hG : G.ok) (x : Im) (m : Bool) : askB G.i G.b G.j x m [] = (decide (fitB G x 0) && m) := by
  unfold askB
  rw [decide_eq_true (gm_mayI hG), Bool.true_and]
  congr 1
  rw [Bool.eq_iff_iff]
  simp only [Bool.not_eq_true', List.any_eq_false, decide_eq_true_iff, oddB_ok hG, Im.bl, fitB, List.nil_append, List.mem_cons, List.not_mem_nil, or_false, Nat.not_lt, forall_eq_or_imp, forall_eq, Nat.zero_le, true_and]
def pageP (p : Int) : Prop := 0 ≤ p ∧ p < 36
instance (p : Int) : Decidable (pageP p) := by unfold pageP; infer_instance
end Go.Proofs.YtnfiapjdkjbdhaaGreat
