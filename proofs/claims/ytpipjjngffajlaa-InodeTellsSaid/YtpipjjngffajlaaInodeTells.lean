/- The statement InodeTells, walked. -/
import Derived.Test.YtpipjjngffajlaaInodeBack2
import Derived.Test.YtpipjjngffajlaaInodeR3
import Derived.Test.YtpipjjngffajlaaInodeTold
import Derived.Laws.AppendOwn
namespace Go.Proofs.Ytpipjjngffajlaa
open Go.RowKit
set_option linter.unusedVariables false
set_option linter.unusedSimpArgs false
set_option maxRecDepth 10000
/-- 'append([]uint16(nil), l...)', where l is nothing. -/
theorem append_nothing (w : World) (c : Nat) : (Builtin.append_ #[27, 27] 27 #[.slice none 0 0, .slice none 0 c]).run Try.prog w = .ok (.slice none 0 0) w := by
  obtain ⟨i0, hi, hz0, hz1, hz2⟩ := info_parts uint16Info
  simp [Builtin.append_, run_underlying Try.underlying27, sizeOf, typeInfo, hi, Builtin.lenOf, Builtin.firstCells]
/-- The same, of any numbers: a row of its own. -/
theorem append_nums (w : World) (v : Value) (l : List Nat) (hv : U16s w v l) (hl : l.length ≤ 100) :
    ∃ v' w', (Builtin.append_ #[27, 27] 27 #[.slice none 0 0, v]).run Try.prog w = .ok v' w' ∧ U16s w' v' l ∧ Below w.heap.size w w' := by
  obtain ⟨A, c, rfl, hc⟩ := hv
  cases A with
  | none =>
    have : l = [] := by
      cases l with
      | nil => rfl
      | cons a r => obtain ⟨_, h, _⟩ := hc 0 a rfl; cases h
    subst this
    exact ⟨_, _, append_nothing w c, ⟨none, 0, rfl, fun j n hj => by simp at hj⟩, Below.refl _ _⟩
  | some a =>
    obtain ⟨i0, hi, hz0, hz1, hz2⟩ := info_parts uint16Info
    obtain ⟨v', w', hr, hown, hgr, _⟩ := run_append_own (P := Try.prog) w w.heap.size 27 27 22 i0 (.int .u16 0) 1 2 Try.underlying27 hi hz0 hz1 hz2 rfl (by omega) (.slice none 0 0) 0 [] (World.ownsRow_nil _ _ _ _) a l.length c (l.map fun n => w16 n) (by simp)
      (fun j u hj => by
        rw [List.getElem?_map, Option.map_eq_some_iff] at hj
        obtain ⟨n, hn, rfl⟩ := hj
        obtain ⟨a', ha, hcell⟩ := hc j n hn
        cases ha
        exact hcell)
      (fun u hu => by obtain ⟨n, _, rfl⟩ := List.mem_map.1 hu; rfl) (by unfold maxLen; omega) (by omega) (Nat.le_refl _)
    refine ⟨v', w', hr, ?_, (Below.refl w.heap.size w).grown hgr (Nat.le_refl _) (by intro k hk; simp [Value.ownBlock] at hk)⟩
    obtain ⟨A2, c2, hv2, hc2⟩ := row_of_own hown
    refine ⟨A2, c2, by rw [hv2]; simp, fun j n hj => ?_⟩
    obtain ⟨g, hA, hcell⟩ := hc2 j (w16 n) (by simp [hj])
    refine ⟨⟨g, 0, none⟩, hA, ?_⟩
    have e2 : (⟨g, 0, none⟩ : Addr).add j = ⟨g, j, none⟩ := by unfold Addr.add; split <;> simp_all
    rw [e2]; exact hcell
theorem wpList_append_nums {w : World} {ops : Array Oper} {rest : List Oper} {o : Oper} {a : Act} {Q : Exit → Act → World → Prop} (hgd : o.guard = none) (s x : Operand)
    (ho : o.op = .call { callee := .builtin .append, args := #[s, x], argTypes := #[27, 27] }) (hty : o.type = 27) (v : Value) (l : List Nat) (hs : a.eval s = .slice none 0 0) (hx : a.eval x = v) (hv : U16s w v l) (hl : l.length ≤ 100)
    (h : ∀ v' w', U16s w' v' l → Below w.heap.size w w' → wpList Try.prog ops Q rest (a.put o.dst v') w') : wpList Try.prog ops Q (o :: rest) a w := by
  refine wpList_plain hgd fun K hK => ?_
  obtain ⟨v', w', hr, hu, hb⟩ := append_nums w v l hv hl
  unfold Oper.wp execOp
  simp only [ho, resolve, invoke, builtin, Sem.run_bind, Sem.run_pure, Result.andThen_ok, List.map_toArray, List.map_cons, List.map_nil, hs, hx, hty, hr]
  exact hK _ _ (h v' w' hu hb)
set_option maxRecDepth 100000 in
set_option maxHeartbeats 40000000 in
theorem tells_any (x z : Im) (s A T : List UInt8) (l M : List Nat) (v : Value) (ea eg eh ej ec : Int) (m : Bool) (size n : Nat) (w : World) (hs : s.length ≤ 1000) (hl : l.length ≤ 100) (hM : M.length ≤ 1000) (hv : U16s w v l)
    (KA : ∀ W, Calls Try.prog 8 #[x.v] W fun e w' => e = .returned (.tuple #[str A, .int .i64 ea]) ∧ Below W.heap.size W w')
    (KG : ∀ W, Calls Try.prog 9 #[str s] W fun e w' => e = .returned (.tuple #[z.v, .int .i64 eg]) ∧ Below W.heap.size W w')
    (KRG : ∀ W, Calls Try.prog 10 #[str s] W fun e w' => e = .returned (.tuple #[z.v, .int .i64 eg]) ∧ Below W.heap.size W w')
    (KT : ∀ W u, U16s W u l → Calls Try.prog 11 #[u] W fun e w' => e = .returned (.tuple #[str T, .int .i64 eh]) ∧ Below W.heap.size W w')
    (KRT : ∀ W u, U16s W u l → Calls Try.prog 12 #[u] W fun e w' => e = .returned (.tuple #[str T, .int .i64 eh]) ∧ Below W.heap.size W w')
    (KM : ∀ W, Calls Try.prog 13 #[str s] W fun e w' => ∃ u, e = .returned (.tuple #[u, .int .i64 ej]) ∧ U16s w' u M ∧ Below W.heap.size W w')
    (KRM : ∀ W, Calls Try.prog 14 #[str s] W fun e w' => ∃ u, e = .returned (.tuple #[u, .int .i64 ej]) ∧ U16s w' u M ∧ Below W.heap.size W w')
    (KP : ∀ W, Calls Try.prog 16 #[.int .u32 size] W fun e w' => e = .returned (.int .i64 n) ∧ w' = W)
    (KRP : ∀ W, Calls Try.prog 17 #[.int .u32 size] W fun e w' => e = .returned (.int .i64 n) ∧ w' = W)
    (KY : ∀ W, Calls Try.prog 18 #[x.v] W fun e w' => e = .returned (.bool m) ∧ Below W.heap.size W w')
    (KC : ∀ W, Calls Try.prog 19 #[x.v] W fun e w' => e = .returned (.int .i64 ec) ∧ Below W.heap.size W w')
    (KRP2 : m = true → ∀ W, Calls Try.prog 20 #[x.v] W fun e w' => e = .returned (str A) ∧ Below W.heap.size W w')
    (hm : (m = false ∧ A = [] ∧ ea = 2 ∧ ec = 2) ∨ (m = true ∧ ea = 0 ∧ ec = 0)) :
    Calls Try.prog 3 #[x.v, str s, .int .u32 size, v] w fun e w' => e = .returned (.bool true) ∧ Below w.heap.size w w' := by
  have KA := Lib.hid KA
  have KG := Lib.hid KG
  have KRG := Lib.hid KRG
  have KT := Lib.hid KT
  have KRT := Lib.hid KRT
  have KM := Lib.hid KM
  have KRM := Lib.hid KRM
  have KP := Lib.hid KP
  have KRP := Lib.hid KRP
  have KY := Lib.hid KY
  have KC := Lib.hid KC
  have KRP2 := Lib.hid KRP2
  have hm := Lib.hid hm
  have HV := Lib.hid hv
  have p1 : decide ((1000 : Int) < (s.length : Int)) = false := decide_eq_false (by omega)
  have p2 : decide ((100 : Int) < (l.length : Int)) = false := decide_eq_false (by omega)
  have hzz : ∀ W, (Op.equalIn 10000 26 z.v z.v).run Try.prog W = .ok true W := fun W => by
    have := eq_im z z W
    rwa [decide_eq_true rfl] at this
  obtain ⟨Av, cv, rfl, hcv⟩ := hv
  clear hcv
  go_enter Try.func3, Try.ntmps3
  go_wp2_with fail
  have HX := Lib.hid (heap_alloc_new w (.cells #[.int .u8 x.k, w16 x.n, .int .u32 x.z, w16 x.d0, w16 x.d1, w16 x.d2, w16 x.d3, w16 x.i] 26))
  have HD := Lib.hid ((Below.refl w.heap.size w).alloc (Nat.le_refl _) (.cells #[.int .u8 x.k, w16 x.n, .int .u32 x.z, w16 x.d0, w16 x.d1, w16 x.d2, w16 x.d3, w16 x.i] 26))
  have HV := Lib.hid (HV.out.below ((Below.refl w.heap.size w).alloc (Nat.le_refl _) (.cells #[.int .u8 x.k, w16 x.n, .int .u32 x.z, w16 x.d0, w16 x.d1, w16 x.d2, w16 x.d3, w16 x.i] 26)))
  with_reducible refine (KA.out _).mono ?_
  rintro e w1 ⟨rfl, hb⟩
  have HD := Lib.hid (keep_below' HD.out hb)
  have HX := Lib.hid (keep_row HX.out hb)
  have HV := Lib.hid (HV.out.below hb)
  clear hb
  go_wp2_with fail
  with_reducible refine (KG.out _).mono ?_
  rintro e w2 ⟨rfl, hb⟩
  have HD := Lib.hid (keep_below' HD.out hb)
  have HX := Lib.hid (keep_row HX.out hb)
  have HV := Lib.hid (HV.out.below hb)
  clear hb
  go_wp2_with fail
  have H1 := Lib.hid (heap_alloc_new w2 (.cells #[.int .u8 z.k, w16 z.n, .int .u32 z.z, w16 z.d0, w16 z.d1, w16 z.d2, w16 z.d3, w16 z.i] 26))
  have HD := Lib.hid (HD.out.alloc HD.out.size (.cells #[.int .u8 z.k, w16 z.n, .int .u32 z.z, w16 z.d0, w16 z.d1, w16 z.d2, w16 z.d3, w16 z.i] 26))
  have HX := Lib.hid (row_alloc HX.out (.cells #[.int .u8 z.k, w16 z.n, .int .u32 z.z, w16 z.d0, w16 z.d1, w16 z.d2, w16 z.d3, w16 z.i] 26))
  have HV := Lib.hid (HV.out.below ((Below.refl _ _).alloc (Nat.le_refl _) (.cells #[.int .u8 z.k, w16 z.n, .int .u32 z.z, w16 z.d0, w16 z.d1, w16 z.d2, w16 z.d3, w16 z.i] 26)))
  with_reducible refine (KRG.out _).mono ?_
  rintro e w3 ⟨rfl, hb⟩
  have HD := Lib.hid (keep_below' HD.out hb)
  have HX := Lib.hid (keep_row HX.out hb)
  have H1 := Lib.hid (keep_row H1.out hb)
  have HV := Lib.hid (HV.out.below hb)
  clear hb
  have H2 := Lib.hid (heap_alloc_new w3 (.cells #[.int .u8 z.k, w16 z.n, .int .u32 z.z, w16 z.d0, w16 z.d1, w16 z.d2, w16 z.d3, w16 z.i] 26))
  have HD := Lib.hid (HD.out.alloc HD.out.size (.cells #[.int .u8 z.k, w16 z.n, .int .u32 z.z, w16 z.d0, w16 z.d1, w16 z.d2, w16 z.d3, w16 z.i] 26))
  have HX := Lib.hid (row_alloc HX.out (.cells #[.int .u8 z.k, w16 z.n, .int .u32 z.z, w16 z.d0, w16 z.d1, w16 z.d2, w16 z.d3, w16 z.i] 26))
  have H1 := Lib.hid (row_alloc H1.out (.cells #[.int .u8 z.k, w16 z.n, .int .u32 z.z, w16 z.d0, w16 z.d1, w16 z.d2, w16 z.d3, w16 z.i] 26))
  have HV := Lib.hid (HV.out.below ((Below.refl _ _).alloc (Nat.le_refl _) (.cells #[.int .u8 z.k, w16 z.n, .int .u32 z.z, w16 z.d0, w16 z.d1, w16 z.d2, w16 z.d3, w16 z.i] 26)))
  go_wp2_with (at_builtin; refine wpList_append_nums rfl _ _ rfl rfl _ l rfl rfl HV.out hl ?_; intro va w4 hua hb)
  have Hua := Lib.hid hua
  clear hua
  have HD := Lib.hid (keep_below' HD.out hb)
  have HX := Lib.hid (keep_row HX.out hb)
  have H1 := Lib.hid (keep_row H1.out hb)
  have H2 := Lib.hid (keep_row H2.out hb)
  have HV := Lib.hid (HV.out.below hb)
  clear hb
  with_reducible refine (KT.out _ _ Hua.out).mono ?_
  rintro e w5 ⟨rfl, hb⟩
  have HD := Lib.hid (keep_below' HD.out hb)
  have HX := Lib.hid (keep_row HX.out hb)
  have H1 := Lib.hid (keep_row H1.out hb)
  have H2 := Lib.hid (keep_row H2.out hb)
  have HV := Lib.hid (HV.out.below hb)
  clear hb
  go_wp2_with fail
  with_reducible refine (KRT.out _ _ HV.out).mono ?_
  rintro e w6 ⟨rfl, hb⟩
  have HD := Lib.hid (keep_below' HD.out hb)
  have HX := Lib.hid (keep_row HX.out hb)
  have H1 := Lib.hid (keep_row H1.out hb)
  have H2 := Lib.hid (keep_row H2.out hb)
  clear hb
  clear HV Hua
  go_wp2_with fail
  with_reducible refine (KM.out _).mono ?_
  rintro e w7 ⟨um, rfl, hu, hb⟩
  have HM1 := Lib.hid hu
  clear hu
  have HD := Lib.hid (keep_below' HD.out hb)
  have HX := Lib.hid (keep_row HX.out hb)
  have H1 := Lib.hid (keep_row H1.out hb)
  have H2 := Lib.hid (keep_row H2.out hb)
  clear hb
  go_wp2_with fail
  with_reducible refine (KRM.out _).mono ?_
  rintro e w8 ⟨un, rfl, hu, hb⟩
  have HM2 := Lib.hid hu
  clear hu
  have HD := Lib.hid (keep_below' HD.out hb)
  have HX := Lib.hid (keep_row HX.out hb)
  have H1 := Lib.hid (keep_row H1.out hb)
  have H2 := Lib.hid (keep_row H2.out hb)
  have HM1 := Lib.hid (HM1.out.below hb)
  clear hb
  obtain ⟨y0, y1, y2, y3, y4, y5, y6, y7⟩ := icells H1.out
  obtain ⟨u0, u1, u2, u3, u4, u5, u6, u7⟩ := icells H2.out
  have HS := Lib.hid (same_any M um un w8 HM1.out HM2.out (by omega))
  go_wp2_with fail
  with_reducible refine (HS.out).mono ?_
  rintro e w9 ⟨rfl, hb⟩
  clear HM1 HM2 H1 H2 HS y0 y1 y2 y3 y4 y5 y6 y7 u0 u1 u2 u3 u4 u5 u6 u7
  have HD := Lib.hid (keep_below' HD.out hb)
  have HX := Lib.hid (keep_row HX.out hb)
  clear hb
  go_wp2_with fail
  with_reducible refine (KP.out _).mono ?_
  rintro e w10 ⟨rfl, rfl⟩
  go_wp2_with fail
  with_reducible refine (KRP.out _).mono ?_
  rintro e w11 ⟨rfl, rfl⟩
  obtain ⟨y0, y1, y2, y3, y4, y5, y6, y7⟩ := icells HX.out
  go_wp2_with fail
  with_reducible refine (KY.out _).mono ?_
  rintro e w12 ⟨rfl, hb⟩
  clear y0 y1 y2 y3 y4 y5 y6 y7
  have HD := Lib.hid (keep_below' HD.out hb)
  have HX := Lib.hid (keep_row HX.out hb)
  clear hb
  obtain ⟨y0, y1, y2, y3, y4, y5, y6, y7⟩ := icells HX.out
  rcases hm.out with ⟨rfl, rfl, rfl, rfl⟩ | ⟨rfl, rfl, rfl⟩
  case inl =>
    as_aux_lemma =>
      go_wp2_with fail
      with_reducible refine (KC.out _).mono ?_
      rintro e w13 ⟨rfl, hb⟩
      have HD := Lib.hid (keep_below' HD.out hb)
      clear hb y0 y1 y2 y3 y4 y5 y6 y7
      go_wp2_with fail
      with_reducible refine (alive_any _).mono ?_
      rintro e w14 ⟨rfl, hb⟩
      have HD := Lib.hid (keep_below' HD.out hb)
      clear hb
      go_wp2_with fail
      go_ret
      exact ⟨rfl, HD.out⟩
  case inr =>
    as_aux_lemma =>
      have KQ := Lib.hid (KRP2.out rfl)
      go_wp2_with fail
      with_reducible refine (KQ.out _).mono ?_
      rintro e w13 ⟨rfl, hb⟩
      clear y0 y1 y2 y3 y4 y5 y6 y7
      have HD := Lib.hid (keep_below' HD.out hb)
      have HX := Lib.hid (keep_row HX.out hb)
      clear hb
      obtain ⟨y0, y1, y2, y3, y4, y5, y6, y7⟩ := icells HX.out
      go_wp2_with fail
      with_reducible refine (KC.out _).mono ?_
      rintro e w14 ⟨rfl, hb⟩
      have HD := Lib.hid (keep_below' HD.out hb)
      clear hb y0 y1 y2 y3 y4 y5 y6 y7
      go_wp2_with fail
      with_reducible refine (alive_any _).mono ?_
      rintro e w15 ⟨rfl, hb⟩
      have HD := Lib.hid (keep_below' HD.out hb)
      clear hb
      go_wp2_with fail
      go_ret
      exact ⟨rfl, HD.out⟩
set_option maxRecDepth 100000 in
set_option maxHeartbeats 4000000 in
theorem tells_far (x : Im) (s : List UInt8) (l : List Nat) (v : Value) (size : Nat) (w : World) (hv : U16s w v l) (hl : l.length ≤ maxLen) (hs : s.length ≤ 140737488351232) (hc : ¬ (s.length ≤ 1000 ∧ l.length ≤ 100)) :
    Calls Try.prog 3 #[x.v, str s, .int .u32 size, v] w fun e w' => e = .returned (.bool true) ∧ Below w.heap.size w w' := by
  obtain ⟨Av, cv, rfl, hcv⟩ := hv
  clear hcv
  unfold maxLen at hl
  by_cases h1 : 1000 < s.length
  · have q1 : decide ((1000 : Int) < (s.length : Int)) = true := decide_eq_true (by omega)
    go_enter Try.func3, Try.ntmps3
    go_wp2_with fail
    refine (alive_any _).mono ?_
    rintro e w1 ⟨rfl, hb⟩
    go_wp2_with fail
    go_ret
    exact ⟨rfl, ((Below.refl w.heap.size w).alloc (Nat.le_refl _) _).trans (hb.mono (by simp))⟩
  · have q1 : decide ((1000 : Int) < (s.length : Int)) = false := decide_eq_false (by omega)
    have q2 : decide ((100 : Int) < (l.length : Int)) = true := decide_eq_true (by omega)
    go_enter Try.func3, Try.ntmps3
    go_wp2_with fail
    refine (alive_any _).mono ?_
    rintro e w1 ⟨rfl, hb⟩
    go_wp2_with fail
    go_ret
    exact ⟨rfl, ((Below.refl w.heap.size w).alloc (Nat.le_refl _) _).trans (hb.mono (by simp))⟩
theorem walk_InodeTells (W : World) (a0_0 a0_1 a0_2 a0_3 a0_4 a0_5 a0_6 a0_7 : Int) (a1 : ByteArray) (a2 : Int) (v3 : Value) (a3 : List Nat) (w0_0 : (Lit.int .u8 a0_0).wf = true) (w0_1 : (Lit.int .u16 a0_1).wf = true) (w0_2 : (Lit.int .u32 a0_2).wf = true) (w0_3 : (Lit.int .u16 a0_3).wf = true) (w0_4 : (Lit.int .u16 a0_4).wf = true) (w0_5 : (Lit.int .u16 a0_5).wf = true) (w0_6 : (Lit.int .u16 a0_6).wf = true) (w0_7 : (Lit.int .u16 a0_7).wf = true) (z1 : a1.size ≤ 140737488351232) (w2 : (Lit.int .u32 a2).wf = true) (w3 : U16s W v3 a3) (y3 : ∀ x ∈ a3, x < 65536) (z3 : a3.length ≤ maxLen) :
    Calls Try.prog 3 #[.agg #[.int .u8 a0_0, .int .u16 a0_1, .int .u32 a0_2, .int .u16 a0_3, .int .u16 a0_4, .int .u16 a0_5, .int .u16 a0_6, .int .u16 a0_7], .string a1, .int .u32 a2, v3] W fun e w' => e = .returned (.bool true) ∧ Below W.heap.size W w' := by
  obtain ⟨x, hx, ex⟩ := im_of w0_0 w0_1 w0_2 w0_3 w0_4 w0_5 w0_6 w0_7
  have h32 := u32_range' w2
  obtain ⟨size, rfl⟩ : ∃ n : Nat, a2 = n := ⟨a2.toNat, by omega⟩
  rw [ex, str_of a1]
  have hz : a1.data.toList.length ≤ 140737488351232 := by rw [Array.length_toList]; exact z1
  generalize a1.data.toList = s at *
  by_cases hc : s.length ≤ 1000 ∧ a3.length ≤ 100
  · obtain ⟨hs, hl⟩ := hc
    have hput : ∃ (A : List UInt8) (ea ec : Int) (m : Bool), (∀ W, Calls Try.prog 8 #[x.v] W fun e w' => e = .returned (.tuple #[str A, .int .i64 ea]) ∧ Below W.heap.size W w') ∧ (∀ W, Calls Try.prog 18 #[x.v] W fun e w' => e = .returned (.bool m) ∧ Below W.heap.size W w') ∧
        (∀ W, Calls Try.prog 19 #[x.v] W fun e w' => e = .returned (.int .i64 ec) ∧ Below W.heap.size W w') ∧ (m = true → ∀ W, Calls Try.prog 20 #[x.v] W fun e w' => e = .returned (str A) ∧ Below W.heap.size W w') ∧
        ((m = false ∧ A = [] ∧ ea = 2 ∧ ec = 2) ∨ (m = true ∧ ea = 0 ∧ ec = 0)) := by
      by_cases hm : x.may
      · refine ⟨x.putL, 0, 0, true, fun W => put_ok x hx hm W, fun W => ?_, fun W => check_any x hx 0 (by rw [if_pos hm]) W, fun _ W => refPut_any x hx W, .inr ⟨rfl, rfl, rfl⟩⟩
        have := refMay_any x hx W
        rwa [decide_eq_true hm] at this
      · refine ⟨[], 2, 2, false, fun W => put_bad x hx hm W, fun W => ?_, fun W => check_any x hx 2 (by rw [if_neg hm]) W, fun h => absurd h (by decide), .inl ⟨rfl, rfl, rfl, rfl⟩⟩
        have := refMay_any x hx W
        rwa [decide_eq_false hm] at this
    obtain ⟨A, ea, ec, m, KA, KY, KC, KRP2, hm⟩ := hput
    have hget : ∃ (z : Im) (eg : Int), (∀ W, Calls Try.prog 9 #[str s] W fun e w' => e = .returned (.tuple #[z.v, .int .i64 eg]) ∧ Below W.heap.size W w') ∧ (∀ W, Calls Try.prog 10 #[str s] W fun e w' => e = .returned (.tuple #[z.v, .int .i64 eg]) ∧ Below W.heap.size W w') := by
      have hv : ∃ (z : Im) (eg : Int), (if s.length < 32 then .tuple #[Im.nought.v, .int .i64 6] else getV (getL s)) = (.tuple #[z.v, .int .i64 eg] : Value) := by
        by_cases h1 : s.length < 32
        · exact ⟨Im.nought, 6, by rw [if_pos h1]⟩
        · cases hg : getL s with
          | none => exact ⟨Im.nought, 7, by rw [if_neg h1]; rfl⟩
          | some z => exact ⟨z, 0, by rw [if_neg h1]; rfl⟩
      obtain ⟨z, eg, he⟩ := hv
      refine ⟨z, eg, fun W => ?_, fun W => ?_⟩
      · have := iget_any s W (by omega)
        rwa [he] at this
      · have := refGet_any s W (by omega)
        rwa [he] at this
    obtain ⟨z, eg, KG, KRG⟩ := hget
    have htell : ∃ (T : List UInt8) (eh : Int), (∀ W u, U16s W u a3 → Calls Try.prog 11 #[u] W fun e w' => e = .returned (.tuple #[str T, .int .i64 eh]) ∧ Below W.heap.size W w') ∧ (∀ W u, U16s W u a3 → Calls Try.prog 12 #[u] W fun e w' => e = .returned (.tuple #[str T, .int .i64 eh]) ∧ Below W.heap.size W w') := by
      by_cases h1 : a3.length ≤ 32
      · exact ⟨tellL a3, 0, fun W u h => tell_ok a3 u W h y3 h1, fun W u h => refTell_ok a3 u W h y3 h1⟩
      · exact ⟨[], 2, fun W u h => tell_many a3 u W h z3 (by omega), fun W u h => refTell_many a3 u W h z3 (by omega)⟩
    obtain ⟨T, eh, KT, KRT⟩ := htell
    have htold : ∃ (M : List Nat) (ej : Int), M.length ≤ 1000 ∧ (∀ W, Calls Try.prog 13 #[str s] W fun e w' => ∃ u, e = .returned (.tuple #[u, .int .i64 ej]) ∧ U16s w' u M ∧ Below W.heap.size W w') ∧ (∀ W, Calls Try.prog 14 #[str s] W fun e w' => ∃ u, e = .returned (.tuple #[u, .int .i64 ej]) ∧ U16s w' u M ∧ Below W.heap.size W w') := by
      have hnil : ∀ W, U16s W (.slice none 0 0) [] := fun W => ⟨none, 0, rfl, fun j n hj => by simp at hj⟩
      rcases Nat.lt_trichotomy s.length 64 with h | h | h
      · refine ⟨[], 6, by simp, fun W => ?_, fun W => ?_⟩
        · exact (told_short s W h).mono fun e w' ⟨h1, h2⟩ => ⟨_, h1, hnil _, h2⟩
        · exact (refTold_short s W h).mono fun e w' ⟨h1, h2⟩ => ⟨_, h1, hnil _, h2⟩
      · exact ⟨numsL s, 0, by rw [numsL_length]; omega, fun W => told_ok s W h, fun W => refTold_ok s W h⟩
      · refine ⟨[], 7, by simp, fun W => ?_, fun W => ?_⟩
        · exact (told_long s W (by omega) h).mono fun e w' ⟨h1, h2⟩ => ⟨_, h1, hnil _, h2⟩
        · exact (refTold_long s W (by omega) h).mono fun e w' ⟨h1, h2⟩ => ⟨_, h1, hnil _, h2⟩
    obtain ⟨M, ej, hM, KM, KRM⟩ := htold
    exact tells_any x z s A T a3 M v3 ea eg eh ej ec m size (pagesN size) W hs hl hM w3 KA KG KRG KT KRT KM KRM (fun W => pages_any size W (by omega)) (fun W => refPages_any size W (by omega)) KY KC KRP2 hm
  · exact tells_far x s a3 v3 size W w3 z3 hz hc
end Go.Proofs.Ytpipjjngffajlaa
