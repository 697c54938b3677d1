/- Layer 8 (tx): Read, Room, Write and Patch of a transaction that isn't done; all methods of one that is, and of none. -/
import Derived.Test.YthgdkpkhnhjifaaGreatTx1
import Derived.BigQuiet
namespace Go.Proofs.YthgdkpkhnhjifaaGreat
open Go.RowKit Go.Maps Go.Sort
set_option linter.unusedVariables false
set_option linter.unusedSimpArgs false
set_option maxRecDepth 10000
theorem IMap.len {P : Program} {t k e : TypeId} {W : World} {m n : Nat} {f : Nat → Option Value} (h : IMap P k W m n f) (hk : P.underlying k = some (.int .i64)) (ht : P.underlying t = some (.map k e)) (ty : TypeId) :
    (Builtin.len_ #[t] ty #[.map (some m)]).run P W = .ok (.int .i64 ((keysOf n f).length : Int)) W := by
  obtain ⟨D, h1, h2, h3⟩ := h
  rw [h1.len ht ty]
  have hs := sorted_keys h1 hk h2 (List.Perm.refl (intKeys D))
  have hl := congrArg List.length hs
  rw [List.length_mergeSort, List.length_map] at hl
  obtain ⟨es, rfl, -⟩ := h1.tidy (int_keyed hk)
  have : (intKeys (DataW.map es)).length = es.length := by show (es.map _).length = _; rw [List.length_map]
  rw [← hl, this]
  rfl
theorem zeroPut (W : World) : (zeroValue 81).run Tryz.prog W = .ok (.agg #[.int .i64 0, str []]) W := by kernel_rfl
/-- A transaction, its device and its journal. -/
structure TxOn (W : World) (tb b jb m : Nat) (M : Dv) (L : PutL) (F n rec : Nat) : Prop where
  tx : TxIn W tb b jb m M.n L
  dev : ∃ S, DevAt S W b M
  j : JAt W jb b F n rec
  up : M.down = false
  wr : M.wr ≤ 1099511627776
  h4 : 4 ≤ n
  h256 : n ≤ 256
  cap : L.length ≤ capL n
section
variable {W : World} {tb b jb m F n rec : Nat} {M : Dv} {L : PutL}
theorem TxOn.below (h : TxOn W tb b jb m M L F n rec) {W' : World} (hb : Below W.heap.size W W') : TxOn W' tb b jb m M L F n rec := by
  obtain ⟨S, hS⟩ := h.dev
  exact { h with tx := h.tx.below hb, dev := ⟨S, hS.below hb⟩, j := h.j.below hb }
theorem TxOn.len (h : TxOn W tb b jb m M L F n rec) : Calls Tryz.prog 51 #[devp b] W fun e w' => e = .returned (.int .i64 (M.n : Int)) ∧ W = w' := by
  obtain ⟨S, g, c, m, vals, hI⟩ := h.dev
  exact len_any b g _ _ W hI.head.c2
theorem TxOn.look (h : TxOn W tb b jb m M L F n rec) (i : Nat) (hi : i < M.n) :
    (Instr.lookup 74 (.map (some m)) (.int .i64 (i : Int)) true).run Tryz.prog W = .ok (.tuple #[(txE L i).getD (.agg #[.int .i64 0, str []]), .bool (look L i).isSome]) W := by
  have := h.tx.map.look2 (t := 74) Tryz.underlying3 Tryz.underlying74 (zeroPut W) (by have := h.tx.small; omega) hi
  rwa [txE_isSome] at this
theorem TxOn.count (h : TxOn W tb b jb m M L F n rec) (ty : TypeId) : (Builtin.len_ #[74] ty #[.map (some m)]).run Tryz.prog W = .ok (.int .i64 (L.length : Int)) W := by
  have := h.tx.map.len (t := 74) Tryz.underlying3 Tryz.underlying74 ty
  rwa [keys_look h.tx.asc (fun p hp => (h.tx.ok p hp).1) _ (txE_isSome L), List.length_map] at this
set_option maxRecDepth 100000 in
theorem txRead_any (h : TxOn W tb b jb m M L F n rec) (i : Nat) (hi : i < M.n) :
    Calls Tryz.prog 33 #[devp tb, .int .i64 (i : Int)] W fun e w' => e = .returned (.tuple #[str ((look L i).getD (M.cur i)), .int .i64 0]) ∧ Below W.heap.size W w' := by
  have c0 := h.tx.c0
  have c2 := h.tx.c2
  have hlk := h.look i hi
  have HR := Lib.hid (refusal_read tb b M.n W h.tx.c3 c0 h.len i hi)
  obtain ⟨S, hS⟩ := h.dev
  have hrd := fun W' (hb : Below W.heap.size W W') => read_any (hS.below hb) h.up h.wr i hi
  have HD := Lib.hid hrd
  clear hrd
  have hB0 : ∀ v w' t, Below W.heap.size W w' → Below W.heap.size W (w'.alloc (.cells v t)) := fun v w' t hb => hb.alloc hb.size _
  have hlt := h.tx.lt.1
  cases hl : look L i with
  | none =>
    have hE : txE L i = none := by unfold txE; rw [hl]; rfl
    rw [hE, hl] at hlk
    simp only [Option.getD, Option.isSome] at hlk
    clear h hS hl hE
    go_enter Tryz.func33, Tryz.ntmps33
    go_wp2_with fail
    refine HR.out.mono ?_
    rintro e w1 ⟨rfl, rfl⟩
    go_wp2_with fail
    refine (HD.out _ ((Below.refl _ W).alloc (Nat.le_refl _) _)).mono ?_
    rintro e w2 ⟨rfl, hb⟩
    go_wp2_with fail
    go_ret2
    exact ⟨rfl, ((Below.refl _ W).alloc (Nat.le_refl _) _).trans (hb.mono (by simp))⟩
  | some d =>
    have hE : txE L i = some (putX i d) := by unfold txE; rw [hl]; rfl
    rw [hE, hl] at hlk
    simp only [Option.getD, Option.isSome, putX] at hlk
    clear h hS hl hE
    go_enter Tryz.func33, Tryz.ntmps33
    go_wp2_with fail
    refine HR.out.mono ?_
    rintro e w1 ⟨rfl, rfl⟩
    go_wp2_with fail
    go_ret2
    exact ⟨rfl, (Below.refl _ W).alloc (Nat.le_refl _) _⟩
theorem txRead_out (h : TxOn W tb b jb m M L F n rec) (i : Int) (hi : i < 0 ∨ (M.n : Int) ≤ i) :
    Calls Tryz.prog 33 #[devp tb, .int .i64 i] W fun e w' => e = .returned (.tuple #[str [], .int .i64 2]) ∧ W = w' := by
  have HR := Lib.hid (refusal_out tb b M.n W h.tx.c3 h.tx.c0 h.len i (.func (.func 56) #[] #[]) hi)
  clear h hi
  go_enter Tryz.func33, Tryz.ntmps33
  go_wp2_with fail
  refine HR.out.mono ?_
  rintro e w1 ⟨rfl, rfl⟩
  go_wp2_with fail
  go_ret2
  exact ⟨rfl, rfl⟩
theorem txRoom_quiet (h : TxOn W tb b jb m M L F n rec) : Calls Tryz.prog 30 #[devp tb] W fun e w' => e = .returned (.int .i64 ((capL n : Int) - (L.length : Int))) ∧ ∃ k, w' = W.drewN k := by
  have c1 := h.tx.c1
  have c2 := h.tx.c2
  have c3 := h.tx.c3
  have hct := fun k ty => (h.below (below_drewN (Below.refl _ _) k)).count ty
  have hcap := h.cap
  have hcb : capL n ≤ 256 := by have := h.h256; unfold capL; omega
  have hm : ∀ k, Calls Tryz.prog 13 #[devp jb] (W.drewN k) fun e w' => e = .returned (.int .i64 (capL n : Int)) ∧ w' = W.drewN k := fun k => (max_any jb b F n rec (W.drewN k) (h.j.below (below_drewN (Below.refl _ _) k)) h.h4 h.h256).mono fun e w' hx => ⟨hx.1, hx.2.symm⟩
  have hmax := Lib.hid hm
  clear hm
  have hO := Lib.hid (over_any tb false W c3)
  clear h
  go_enter Tryz.func30, Tryz.ntmps30
  go_wp2_with fail
  refine hO.out.mono ?_
  rintro e w1 ⟨rfl, rfl⟩
  go_wp2_with fail
  go_quiet (refine Calls.quiet_of_same (hmax.out _))
  go_wp2_with fail
  go_ret
  exact ⟨rfl, _, rfl⟩
theorem txRoom_any (h : TxOn W tb b jb m M L F n rec) : Calls Tryz.prog 30 #[devp tb] W fun e w' => e = .returned (.int .i64 ((capL n - L.length : Nat) : Int)) ∧ Below W.heap.size W w' := by
  refine (txRoom_quiet h).mono ?_
  rintro e w' ⟨rfl, k, rfl⟩
  have := h.cap
  exact ⟨by rw [show ((capL n - L.length : Nat) : Int) = (capL n : Int) - (L.length : Int) by omega], below_drewN (Below.refl _ _) k⟩
theorem txWrite_bad (h : TxOn W tb b jb m M L F n rec) (i : Int) (s : List UInt8) (hs : s.length ≤ 140737488351232) (hbad : i < 0 ∨ (M.n : Int) ≤ i ∨ s.length ≠ 64) :
    Calls Tryz.prog 24 #[devp tb, .int .i64 i, str s] W fun e w' => e = .returned (.int .i64 2) ∧ Below W.heap.size W w' := by
  have hB := (Below.refl W.heap.size W).alloc (Nat.le_refl _) (.cells #[str s] 9)
  have hr : Calls Tryz.prog 46 #[devp tb, .int .i64 i, .func (.func 47) #[] #[.pointer (some ⟨W.heap.size, 0, none⟩)]] (W.alloc (.cells #[str s] 9)) fun e w' => e = .returned (.int .i64 2) ∧ (W.alloc (.cells #[str s] 9)) = w' := by
    have h' := h.below hB
    by_cases hi : i < 0 ∨ (M.n : Int) ≤ i
    · exact refusal_out tb b M.n _ h'.tx.c3 h'.tx.c0 h'.len i _ hi
    · obtain ⟨k, rfl⟩ : ∃ k : Nat, i = (k : Int) := ⟨i.toNat, by omega⟩
      exact refusal_write tb b M.n _ h'.tx.c3 h'.tx.c0 h'.len k W.heap.size s false (by omega) (cell_new_l W _ _) (by simp; omega)
  have HR := Lib.hid hr
  have HB := Lib.hid hB
  clear hr hB h hbad
  go_enter Tryz.func24, Tryz.ntmps24
  go_wp2_with fail
  refine HR.out.mono ?_
  rintro e w1 ⟨rfl, rfl⟩
  go_wp2_with fail
  go_ret
  exact ⟨rfl, HB.out⟩
theorem txWrite_full (h : TxOn W tb b jb m M L F n rec) (i : Nat) (hi : i < M.n) (s : List UInt8) (hs : s.length = 64) (hl : look L i = none) (hfull : L.length = capL n) :
    Calls Tryz.prog 24 #[devp tb, .int .i64 (i : Int), str s] W fun e w' => e = .returned (.int .i64 4) ∧ Below W.heap.size W w' := by
  have hB := (Below.refl W.heap.size W).alloc (Nat.le_refl _) (.cells #[str s] 9)
  have h' := h.below hB
  have HR := Lib.hid (refusal_write tb b M.n _ h'.tx.c3 h'.tx.c0 h'.len i W.heap.size s true hi (cell_new_l W _ _) (by simp [hs]))
  have c2 := h'.tx.c2
  have hlk := h'.look i hi
  have hE : txE L i = none := by unfold txE; rw [hl]; rfl
  rw [hE, hl] at hlk
  simp only [Option.getD, Option.isSome] at hlk
  have hroom := fun V (hb : Below W.heap.size W V) => txRoom_any (h.below hb)
  rw [hfull, Nat.sub_self] at hroom
  have HM := Lib.hid hroom
  have HB := Lib.hid hB
  clear h h' hE hl hroom hfull hs
  go_enter Tryz.func24, Tryz.ntmps24
  go_wp2_with fail
  refine HR.out.mono ?_
  rintro e w1 ⟨rfl, rfl⟩
  go_wp2_with fail
  refine (HM.out _ (HB.out.alloc (by simp) _)).mono ?_
  rintro e w2 ⟨rfl, hb⟩
  go_wp2_with fail
  go_ret
  exact ⟨rfl, (HB.out.alloc (by simp) _).trans (hb.mono (by simp; omega))⟩
set_option maxHeartbeats 1000000 in
theorem txWrite_ok (h : TxOn W tb b jb m M L F n rec) (i : Nat) (hi : i < M.n) (s : List UInt8) (hs : s.length = 64) (hl : (look L i).isSome = true ∨ L.length < capL n) :
    Calls Tryz.prog 24 #[devp tb, .int .i64 (i : Int), str s] W fun e w' => e = .returned (.int .i64 0) ∧ TxIn w' tb b jb m M.n (ins L i s) ∧ Only (fun k => k = m) W w' := by
  have hB := (Below.refl W.heap.size W).alloc (Nat.le_refl _) (.cells #[str s] 9)
  have h' := h.below hB
  have HR := Lib.hid (refusal_write tb b M.n _ h'.tx.c3 h'.tx.c0 h'.len i W.heap.size s true hi (cell_new_l W _ _) (by simp [hs]))
  have c2 := h'.tx.c2
  have hlk := h'.look i hi
  have hbx := cell_new_l W (str s) 9
  have hup := fun V (hb : Below W.heap.size W V) => (h.below hb).tx.map.store (t := 74) Tryz.underlying3 Tryz.underlying74 (by have := h.tx.small; omega) hi (putX i s)
  have hfin : ∀ V, Below W.heap.size W V → ∀ W2, IMap Tryz.prog 3 W2 m M.n (upd (txE L) i (some (putX i s))) → V.grownBy W2 (some m) → TxIn W2 tb b jb m M.n (ins L i s) ∧ Only (fun k => k = m) W W2 := fun V hb W2 hm hg => by
    have hV := (h.below hb).tx
    have hk : W2.heap[tb]? = V.heap[tb]? := hg.block tb hV.lt.1 (by intro e; cases e; exact hV.ne rfl)
    refine ⟨?_, (Only.of_below hb).trans (Only.of_grown (S := fun k => k = m) hg fun k e => by cases e; rfl) fun j hj => .inl hj⟩
    exact ⟨(cell_same 0 hk).trans hV.c0, (cell_same 1 hk).trans hV.c1, (cell_same 2 hk).trans hV.c2, (cell_same 3 hk).trans hV.c3, (World.frozen?_of_block (a := ⟨tb, 2, none⟩) hk).trans hV.f2, (World.frozen?_of_block (a := ⟨tb, 3, none⟩) hk).trans hV.f3,
      by rw [txE_ins]; exact hm, asc_ins hV.asc i s, ok_ins hV.ok hi hs, hV.small, hV.ne⟩
  have HF := Lib.hid hfin
  have HU := Lib.hid hup
  have HB := Lib.hid hB
  have hc := fun V (hb : Below W.heap.size W V) => (h.below hb).tx.c2
  have HC := Lib.hid hc
  have hc3 := fun V (hb : Below W.heap.size W V) => hb.cell (p := ⟨W.heap.size, 0, none⟩)
  have hlt := h.tx.lt.1
  clear hfin hup hc hc3
  by_cases hsome : (look L i).isSome = true
  · obtain ⟨d, hd⟩ := Option.isSome_iff_exists.1 hsome
    have hE : txE L i = some (putX i d) := by unfold txE; rw [hd]; rfl
    rw [hE, hd] at hlk
    simp only [Option.getD, Option.isSome, putX] at hlk
    obtain ⟨V, hVe⟩ : ∃ V, V = (W.alloc (.cells #[str s] 9)).alloc (.cells #[.int .i64 (i : Int), str d] 81) := ⟨_, rfl⟩
    have hBV : Below W.heap.size W V := by rw [hVe]; exact HB.out.alloc (by simp) _
    have hVc2 := HC.out V hBV
    have hVb : V.cell? ⟨W.heap.size, 0, none⟩ = some (str s) := by rw [hVe, World.cell?_alloc_lt _ _ _ (by simp)]; exact hbx
    obtain ⟨W2, hrun, hm2, hg2⟩ := HU.out V.drew (below_drewN hBV 1)
    obtain ⟨r1, r2⟩ := HF.out V.drew (below_drewN hBV 1) W2 hm2 hg2
    have R1 := Lib.hid r1
    have R2 := Lib.hid r2
    unfold putX at hrun
    clear h h' hE hd r1 r2 hsome hl hm2 hg2 hBV
    go_enter Tryz.func24, Tryz.ntmps24
    go_wp2_with fail
    refine HR.out.mono ?_
    rintro e w1 ⟨rfl, rfl⟩
    go_wp2_with fail
    rw [← hVe]
    clear hVe
    go_region
    all_goals
      go_wp2_with fail
      go_ret
      exact ⟨rfl, R1.out, R2.out⟩
  · have hnone : look L i = none := by cases h : look L i; rfl; rw [h] at hsome; exact absurd rfl hsome
    have hE : txE L i = none := by unfold txE; rw [hnone]; rfl
    rw [hE, hnone] at hlk
    simp only [Option.getD, Option.isSome] at hlk
    have hroom := fun V (hb : Below W.heap.size W V) => txRoom_any (h.below hb)
    have HM := Lib.hid hroom
    have hpos : ¬ ((capL n - L.length : Nat) : Int) = 0 := by rcases hl with e | e; exact absurd e hsome; omega
    have hne : (((capL n - L.length : Nat) : Int) == 0) = false := by simpa using hpos
    clear h h' hE hnone hroom hsome hl hpos
    generalize ((capL n - L.length : Nat) : Int) = room at *
    go_enter Tryz.func24, Tryz.ntmps24
    go_wp2_with fail
    refine HR.out.mono ?_
    rintro e w1 ⟨rfl, rfl⟩
    go_wp2_with fail
    refine (HM.out _ (HB.out.alloc (by simp) _)).mono ?_
    rintro e V ⟨rfl, hb⟩
    have hBV : Below W.heap.size W V := (HB.out.alloc (by simp) _).trans (hb.mono (by simp; omega))
    have hVc2 := HC.out V hBV
    have hVb : V.cell? ⟨W.heap.size, 0, none⟩ = some (str s) := by
      rw [hb.cell (p := ⟨W.heap.size, 0, none⟩) (by simp; omega), World.cell?_alloc_lt _ _ _ (by simp)]; exact hbx
    obtain ⟨W2, hrun, hm2, hg2⟩ := HU.out V.drew (below_drewN hBV 1)
    obtain ⟨r1, r2⟩ := HF.out V.drew (below_drewN hBV 1) W2 hm2 hg2
    have R1 := Lib.hid r1
    have R2 := Lib.hid r2
    unfold putX at hrun
    clear r1 r2 hm2 hg2 hBV hb
    go_wp2_with fail
    go_region
    all_goals
      go_wp2_with fail
      go_ret
      exact ⟨rfl, R1.out, R2.out⟩
end
end Go.Proofs.YthgdkpkhnhjifaaGreat
