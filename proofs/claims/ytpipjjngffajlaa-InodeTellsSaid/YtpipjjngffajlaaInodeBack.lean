/- The statement InodeBack, walked. Written by tools/geninodeback.py. -/
import Derived.Test.YtpipjjngffajlaaInode10
namespace Go.Proofs.Ytpipjjngffajlaa
open Go.RowKit
set_option linter.unusedVariables false
set_option linter.unusedSimpArgs false
set_option maxRecDepth 10000
theorem heap_new2' (w : World) (o p : Obj) : ((w.alloc o).alloc p).heap[w.heap.size + 1]? = some p := by
  have := heap_alloc_new (w.alloc o) p
  simpa using this
set_option maxRecDepth 100000 in
set_option maxHeartbeats 40000000 in
theorem back_any (x y z : Im) (s A B : List UInt8) (ea eb eg : Int) (q : Bool) (w : World) (hs : s.length ≤ 1000)
    (KA : ∀ W, Calls Try.prog 8 #[x.v] W fun e w' => e = .returned (.tuple #[str A, .int .i64 ea]) ∧ Below W.heap.size W w')
    (KB : ∀ W, Calls Try.prog 8 #[y.v] W fun e w' => e = .returned (.tuple #[str B, .int .i64 eb]) ∧ Below W.heap.size W w')
    (hA : (ea = 0 ∧ A.length = 32 ∧ ∀ W, Calls Try.prog 9 #[str A] W fun e w' => e = .returned (.tuple #[x.v, .int .i64 0]) ∧ Below W.heap.size W w') ∨ ea = 2)
    (hB : (eb = 0 ∧ (ea = 0 → (A == B) = q ∧ decide (x = y) = q)) ∨ eb = 2)
    (KS : ∀ W, Calls Try.prog 9 #[str s] W fun e w' => e = .returned (.tuple #[z.v, .int .i64 eg]) ∧ Below W.heap.size W w')
    (hS : (eg ≠ 0 ∧ z = Im.nought) ∨ (eg = 0 ∧ ∀ W, Calls Try.prog 8 #[z.v] W fun e w' => e = .returned (.tuple #[str s, .int .i64 0]) ∧ Below W.heap.size W w')) :
    Calls Try.prog 4 #[x.v, y.v, str s] w fun e w' => e = .returned (.bool true) ∧ Below w.heap.size w w' := by
  have KA := Lib.hid KA
  have KB := Lib.hid KB
  have KS := Lib.hid KS
  have hS := Lib.hid hS
  have hB := Lib.hid hB
  have hxx : ∀ W, (Op.equalIn 10000 26 x.v x.v).run Try.prog W = .ok true W := fun W => by
    have := eq_im x x W
    rwa [decide_eq_true rfl] at this
  have hnn : ∀ W, (Op.equalIn 10000 26 (.agg #[.int .u8 0, .int .u16 0, .int .u32 0, .int .u16 0, .int .u16 0, .int .u16 0, .int .u16 0, .int .u16 0]) (.agg #[.int .u8 0, .int .u16 0, .int .u32 0, .int .u16 0, .int .u16 0, .int .u16 0, .int .u16 0, .int .u16 0])).run Try.prog W = .ok true W := fun W => by
    have := eq_im Im.nought Im.nought W
    rwa [decide_eq_true rfl] at this
  have hxy := fun W => eq_im x y W
  go_enter Try.func4, Try.ntmps4
  go_wp2_with fail
  have HX := Lib.hid (row_alloc (heap_alloc_new w (.cells #[.int .u8 x.k, w16 x.n, .int .u32 x.z, w16 x.d0, w16 x.d1, w16 x.d2, w16 x.d3, w16 x.i] 26)) (.cells #[.int .u8 y.k, w16 y.n, .int .u32 y.z, w16 y.d0, w16 y.d1, w16 y.d2, w16 y.d3, w16 y.i] 26))
  have HY := Lib.hid (heap_new2' w (.cells #[.int .u8 x.k, w16 x.n, .int .u32 x.z, w16 x.d0, w16 x.d1, w16 x.d2, w16 x.d3, w16 x.i] 26) (.cells #[.int .u8 y.k, w16 y.n, .int .u32 y.z, w16 y.d0, w16 y.d1, w16 y.d2, w16 y.d3, w16 y.i] 26))
  have HD := Lib.hid (((Below.refl w.heap.size w).alloc (Nat.le_refl _) (.cells #[.int .u8 x.k, w16 x.n, .int .u32 x.z, w16 x.d0, w16 x.d1, w16 x.d2, w16 x.d3, w16 x.i] 26)).alloc (by simp) (.cells #[.int .u8 y.k, w16 y.n, .int .u32 y.z, w16 y.d0, w16 y.d1, w16 y.d2, w16 y.d3, w16 y.i] 26))
  with_reducible refine (KA.out _).mono ?_
  rintro e w1 ⟨rfl, hb⟩
  have HD := Lib.hid (keep_below' HD.out hb)
  have HX := Lib.hid (keep_row HX.out hb)
  have HY := Lib.hid (keep_row HY.out hb)
  clear hb
  obtain ⟨y0, y1, y2, y3, y4, y5, y6, y7⟩ := icells HY.out
  go_wp2_with fail
  with_reducible refine (KB.out _).mono ?_
  rintro e w2 ⟨rfl, hb⟩
  have HD := Lib.hid (keep_below' HD.out hb)
  have HX := Lib.hid (keep_row HX.out hb)
  have HY := Lib.hid (keep_row HY.out hb)
  clear hb
  clear y0 y1 y2 y3 y4 y5 y6 y7
  rcases hA with ⟨rfl, hAl, KG⟩ | rfl
  case inl =>
    have KG := Lib.hid KG
    go_wp2_with fail
    with_reducible refine (KG.out _).mono ?_
    rintro e w3 ⟨rfl, hb⟩
    have HD := Lib.hid (keep_below' HD.out hb)
    have HX := Lib.hid (keep_row HX.out hb)
    have HY := Lib.hid (keep_row HY.out hb)
    clear hb
    have ltx := row_lt' HX.out
    have lty := row_lt' HY.out
    obtain ⟨x0, x1, x2, x3, x4, x5, x6, x7⟩ := icells HX.out
    obtain ⟨y0, y1, y2, y3, y4, y5, y6, y7⟩ := icells HY.out
    clear hnn
    rcases hB.out with ⟨rfl, hab⟩ | rfl
    case inl =>
      obtain ⟨hab1, hab2⟩ := hab (by trivial)
      rw [hab2] at hxy
      clear hab hab2
      go_wp2_with fail
      have HD := Lib.hid (HD.out.alloc HD.out.size (.cells #[.int .u8 x.k, w16 x.n, .int .u32 x.z, w16 x.d0, w16 x.d1, w16 x.d2, w16 x.d3, w16 x.i] 26))
      clear x0 x1 x2 x3 x4 x5 x6 x7 y0 y1 y2 y3 y4 y5 y6 y7 hxx hxy hab1 HX HY ltx lty hAl
      have hnn : ∀ W, (Op.equalIn 10000 26 (.agg #[.int .u8 0, .int .u16 0, .int .u32 0, .int .u16 0, .int .u16 0, .int .u16 0, .int .u16 0, .int .u16 0]) (.agg #[.int .u8 0, .int .u16 0, .int .u32 0, .int .u16 0, .int .u16 0, .int .u16 0, .int .u16 0, .int .u16 0])).run Try.prog W = .ok true W := fun W => by
        have := eq_im Im.nought Im.nought W
        rwa [decide_eq_true rfl] at this
      rcases hS.out with ⟨heg, rfl⟩ | ⟨rfl, KT⟩
      case inl =>
        as_aux_lemma =>
          have HEG := Lib.hid heg
          have KS : Hid (∀ W, Calls Try.prog 9 #[str s] W fun e w' => e = .returned (.tuple #[.agg #[.int .u8 0, .int .u16 0, .int .u32 0, .int .u16 0, .int .u16 0, .int .u16 0, .int .u16 0, .int .u16 0], .int .i64 eg]) ∧ Below W.heap.size W w') := Lib.hid KS.out
          have qg : (eg != 0) = true := by simpa using heg
          clear heg
          go_wp2_with fail
          with_reducible refine (KS.out _).mono ?_
          rintro e w4 ⟨rfl, hb⟩
          have HD := Lib.hid (keep_below' HD.out hb)
          clear hb
          go_wp2_with fail
          have HD := Lib.hid (HD.out.alloc HD.out.size (.cells #[.int .u8 0, .int .u16 0, .int .u32 0, .int .u16 0, .int .u16 0, .int .u16 0, .int .u16 0, .int .u16 0] 26))
          with_reducible refine (alive_any _).mono ?_
          rintro e w5 ⟨rfl, hb⟩
          have HD := Lib.hid (keep_below' HD.out hb)
          clear hb
          go_wp2_with fail
          go_ret
          exact ⟨rfl, HD.out⟩
      case inr =>
        as_aux_lemma =>
          have KT := Lib.hid KT
          go_wp2_with fail
          with_reducible refine (KS.out _).mono ?_
          rintro e w4 ⟨rfl, hb⟩
          have HD := Lib.hid (keep_below' HD.out hb)
          clear hb
          go_wp2_with fail
          have HD := Lib.hid (HD.out.alloc HD.out.size (.cells #[.int .u8 z.k, w16 z.n, .int .u32 z.z, w16 z.d0, w16 z.d1, w16 z.d2, w16 z.d3, w16 z.i] 26))
          with_reducible refine (KT.out _).mono ?_
          rintro e w5 ⟨rfl, hb⟩
          have HD := Lib.hid (keep_below' HD.out hb)
          clear hb
          go_wp2_with fail
          with_reducible refine (alive_any _).mono ?_
          rintro e w6 ⟨rfl, hb⟩
          have HD := Lib.hid (keep_below' HD.out hb)
          clear hb
          go_wp2_with fail
          go_ret
          exact ⟨rfl, HD.out⟩
    case inr =>
      clear hxy
      go_wp2_with fail
      have HD := Lib.hid (HD.out.alloc HD.out.size (.cells #[.int .u8 x.k, w16 x.n, .int .u32 x.z, w16 x.d0, w16 x.d1, w16 x.d2, w16 x.d3, w16 x.i] 26))
      clear x0 x1 x2 x3 x4 x5 x6 x7 y0 y1 y2 y3 y4 y5 y6 y7 hxx HX HY ltx lty hAl
      have hnn : ∀ W, (Op.equalIn 10000 26 (.agg #[.int .u8 0, .int .u16 0, .int .u32 0, .int .u16 0, .int .u16 0, .int .u16 0, .int .u16 0, .int .u16 0]) (.agg #[.int .u8 0, .int .u16 0, .int .u32 0, .int .u16 0, .int .u16 0, .int .u16 0, .int .u16 0, .int .u16 0])).run Try.prog W = .ok true W := fun W => by
        have := eq_im Im.nought Im.nought W
        rwa [decide_eq_true rfl] at this
      rcases hS.out with ⟨heg, rfl⟩ | ⟨rfl, KT⟩
      case inl =>
        as_aux_lemma =>
          have HEG := Lib.hid heg
          have KS : Hid (∀ W, Calls Try.prog 9 #[str s] W fun e w' => e = .returned (.tuple #[.agg #[.int .u8 0, .int .u16 0, .int .u32 0, .int .u16 0, .int .u16 0, .int .u16 0, .int .u16 0, .int .u16 0], .int .i64 eg]) ∧ Below W.heap.size W w') := Lib.hid KS.out
          have qg : (eg != 0) = true := by simpa using heg
          clear heg
          go_wp2_with fail
          with_reducible refine (KS.out _).mono ?_
          rintro e w4 ⟨rfl, hb⟩
          have HD := Lib.hid (keep_below' HD.out hb)
          clear hb
          go_wp2_with fail
          have HD := Lib.hid (HD.out.alloc HD.out.size (.cells #[.int .u8 0, .int .u16 0, .int .u32 0, .int .u16 0, .int .u16 0, .int .u16 0, .int .u16 0, .int .u16 0] 26))
          with_reducible refine (alive_any _).mono ?_
          rintro e w5 ⟨rfl, hb⟩
          have HD := Lib.hid (keep_below' HD.out hb)
          clear hb
          go_wp2_with fail
          go_ret
          exact ⟨rfl, HD.out⟩
      case inr =>
        as_aux_lemma =>
          have KT := Lib.hid KT
          go_wp2_with fail
          with_reducible refine (KS.out _).mono ?_
          rintro e w4 ⟨rfl, hb⟩
          have HD := Lib.hid (keep_below' HD.out hb)
          clear hb
          go_wp2_with fail
          have HD := Lib.hid (HD.out.alloc HD.out.size (.cells #[.int .u8 z.k, w16 z.n, .int .u32 z.z, w16 z.d0, w16 z.d1, w16 z.d2, w16 z.d3, w16 z.i] 26))
          with_reducible refine (KT.out _).mono ?_
          rintro e w5 ⟨rfl, hb⟩
          have HD := Lib.hid (keep_below' HD.out hb)
          clear hb
          go_wp2_with fail
          with_reducible refine (alive_any _).mono ?_
          rintro e w6 ⟨rfl, hb⟩
          have HD := Lib.hid (keep_below' HD.out hb)
          clear hb
          go_wp2_with fail
          go_ret
          exact ⟨rfl, HD.out⟩
  case inr =>
    clear hxx hxy hB HX HY
    go_wp2_with fail
    rcases hS.out with ⟨heg, rfl⟩ | ⟨rfl, KT⟩
    case inl =>
      as_aux_lemma =>
        have HEG := Lib.hid heg
        have KS : Hid (∀ W, Calls Try.prog 9 #[str s] W fun e w' => e = .returned (.tuple #[.agg #[.int .u8 0, .int .u16 0, .int .u32 0, .int .u16 0, .int .u16 0, .int .u16 0, .int .u16 0, .int .u16 0], .int .i64 eg]) ∧ Below W.heap.size W w') := Lib.hid KS.out
        have qg : (eg != 0) = true := by simpa using heg
        clear heg
        go_wp2_with fail
        with_reducible refine (KS.out _).mono ?_
        rintro e w4 ⟨rfl, hb⟩
        have HD := Lib.hid (keep_below' HD.out hb)
        clear hb
        go_wp2_with fail
        have HD := Lib.hid (HD.out.alloc HD.out.size (.cells #[.int .u8 0, .int .u16 0, .int .u32 0, .int .u16 0, .int .u16 0, .int .u16 0, .int .u16 0, .int .u16 0] 26))
        with_reducible refine (alive_any _).mono ?_
        rintro e w5 ⟨rfl, hb⟩
        have HD := Lib.hid (keep_below' HD.out hb)
        clear hb
        go_wp2_with fail
        go_ret
        exact ⟨rfl, HD.out⟩
    case inr =>
      as_aux_lemma =>
        have KT := Lib.hid KT
        go_wp2_with fail
        with_reducible refine (KS.out _).mono ?_
        rintro e w4 ⟨rfl, hb⟩
        have HD := Lib.hid (keep_below' HD.out hb)
        clear hb
        go_wp2_with fail
        have HD := Lib.hid (HD.out.alloc HD.out.size (.cells #[.int .u8 z.k, w16 z.n, .int .u32 z.z, w16 z.d0, w16 z.d1, w16 z.d2, w16 z.d3, w16 z.i] 26))
        with_reducible refine (KT.out _).mono ?_
        rintro e w5 ⟨rfl, hb⟩
        have HD := Lib.hid (keep_below' HD.out hb)
        clear hb
        go_wp2_with fail
        with_reducible refine (alive_any _).mono ?_
        rintro e w6 ⟨rfl, hb⟩
        have HD := Lib.hid (keep_below' HD.out hb)
        clear hb
        go_wp2_with fail
        go_ret
        exact ⟨rfl, HD.out⟩
set_option maxRecDepth 100000 in
set_option maxHeartbeats 4000000 in
theorem back_far (x y : Im) (s : List UInt8) (w : World) (hs : 1000 < s.length) (hl : s.length ≤ 140737488351232) :
    Calls Try.prog 4 #[x.v, y.v, str s] w fun e w' => e = .returned (.bool true) ∧ Below w.heap.size w w' := by
  go_enter Try.func4, Try.ntmps4
  go_wp2_with fail
  refine (alive_any _).mono ?_
  rintro e w1 ⟨rfl, hb⟩
  go_wp2_with fail
  go_ret
  exact ⟨rfl, (((Below.refl w.heap.size w).alloc (Nat.le_refl _) _).alloc (by simp) _).trans (hb.mono (by simp; omega))⟩
theorem u8_range {n : Int} (h : (Lit.int .u8 n).wf = true) : 0 ≤ n ∧ n < 256 := by
  have := h
  simp [Lit.wf, IntKind.min, IntKind.max, IntKind.signed, IntKind.bits] at this
  omega
theorem u16_range' {n : Int} (h : (Lit.int .u16 n).wf = true) : 0 ≤ n ∧ n < 65536 := by
  have := h
  simp [Lit.wf, IntKind.min, IntKind.max, IntKind.signed, IntKind.bits] at this
  omega
theorem u32_range' {n : Int} (h : (Lit.int .u32 n).wf = true) : 0 ≤ n ∧ n < 4294967296 := by
  have := h
  simp [Lit.wf, IntKind.min, IntKind.max, IntKind.signed, IntKind.bits] at this
  omega
/-- Eight numbers of an inode's kinds are an inode. -/
theorem im_of {a b c d e f g h : Int} (w0 : (Lit.int .u8 a).wf = true) (w1 : (Lit.int .u16 b).wf = true) (w2 : (Lit.int .u32 c).wf = true) (w3 : (Lit.int .u16 d).wf = true) (w4 : (Lit.int .u16 e).wf = true) (w5 : (Lit.int .u16 f).wf = true) (w6 : (Lit.int .u16 g).wf = true) (w7 : (Lit.int .u16 h).wf = true) :
    ∃ x : Im, x.fits ∧ (.agg #[.int .u8 a, .int .u16 b, .int .u32 c, .int .u16 d, .int .u16 e, .int .u16 f, .int .u16 g, .int .u16 h] : Value) = x.v := by
  have h0 := u8_range w0
  have h1 := u16_range' w1
  have h2 := u32_range' w2
  have h3 := u16_range' w3
  have h4 := u16_range' w4
  have h5 := u16_range' w5
  have h6 := u16_range' w6
  have h7 := u16_range' w7
  refine ⟨⟨a.toNat, b.toNat, c.toNat, d.toNat, e.toNat, f.toNat, g.toNat, h.toNat⟩, ?_, ?_⟩
  · refine ⟨?_, ?_, ?_, ?_, ?_, ?_, ?_, ?_⟩ <;> simp only <;> omega
  · simp only [Im.v, w16, Int.toNat_of_nonneg h0.1, Int.toNat_of_nonneg h1.1, Int.toNat_of_nonneg h2.1, Int.toNat_of_nonneg h3.1, Int.toNat_of_nonneg h4.1, Int.toNat_of_nonneg h5.1, Int.toNat_of_nonneg h6.1, Int.toNat_of_nonneg h7.1]
theorem back_im (x y : Im) (hx : x.fits) (hy : y.fits) (s : List UInt8) (hl : s.length ≤ 140737488351232) (w : World) :
    Calls Try.prog 4 #[x.v, y.v, str s] w fun e w' => e = .returned (.bool true) ∧ Below w.heap.size w w' := by
  by_cases hs : 1000 < s.length
  · exact back_far x y s w hs hl
  have hgot : ∀ (u : Im), u.fits → u.may → ∀ W, Calls Try.prog 9 #[str u.putL] W fun e w' => e = .returned (.tuple #[u.v, .int .i64 0]) ∧ Below W.heap.size W w' := fun u hu hm W => by
    have := iget_any u.putL W (by rw [putL_length]; omega)
    rw [putL_length, if_neg (by omega), getL_put hu hm] at this
    exact this
  have hput : ∀ u : Im, u.fits → ∃ (A : List UInt8) (ea : Int), (∀ W, Calls Try.prog 8 #[u.v] W fun e w' => e = .returned (.tuple #[str A, .int .i64 ea]) ∧ Below W.heap.size W w') ∧ ((ea = 0 ∧ u.may ∧ A = u.putL) ∨ ea = 2) := fun u hu => by
    by_cases hm : u.may
    · exact ⟨u.putL, 0, fun W => put_ok u hu hm W, .inl ⟨rfl, hm, rfl⟩⟩
    · exact ⟨[], 2, fun W => put_bad u hu hm W, .inr rfl⟩
  obtain ⟨A, ea, KA, hA⟩ := hput x hx
  obtain ⟨B, eb, KB, hB⟩ := hput y hy
  have hSS : ∃ (z : Im) (eg : Int), (∀ W, Calls Try.prog 9 #[str s] W fun e w' => e = .returned (.tuple #[z.v, .int .i64 eg]) ∧ Below W.heap.size W w') ∧
      ((eg ≠ 0 ∧ z = Im.nought) ∨ (eg = 0 ∧ ∀ W, Calls Try.prog 8 #[z.v] W fun e w' => e = .returned (.tuple #[str s, .int .i64 0]) ∧ Below W.heap.size W w')) := by
    by_cases h1 : s.length < 32
    · refine ⟨Im.nought, 6, fun W => ?_, .inl ⟨by decide, rfl⟩⟩
      have := iget_any s W (by omega)
      rwa [if_pos h1] at this
    · cases hg : getL s with
      | none =>
        refine ⟨Im.nought, 7, fun W => ?_, .inl ⟨by decide, rfl⟩⟩
        have := iget_any s W (by omega)
        rw [if_neg h1, hg] at this
        exact this
      | some z =>
        obtain ⟨hm, hp, hz⟩ := getL_some hg
        refine ⟨z, 0, fun W => ?_, .inr ⟨rfl, fun W => ?_⟩⟩
        · have := iget_any s W (by omega)
          rw [if_neg h1, hg] at this
          exact this
        · rw [← hp]; exact put_ok z hz hm W
  obtain ⟨z, eg, KS, hS⟩ := hSS
  refine back_any x y z s A B ea eb eg (decide (x = y)) w (by omega) KA KB ?_ ?_ KS hS
  · rcases hA with ⟨rfl, hm, rfl⟩ | rfl
    · exact .inl ⟨rfl, putL_length x, hgot x hx hm⟩
    · exact .inr rfl
  · rcases hB with ⟨rfl, hmy, rfl⟩ | rfl
    · refine .inl ⟨rfl, fun he => ⟨?_, rfl⟩⟩
      rcases hA with ⟨_, hm, rfl⟩ | rfl
      · rw [Bool.eq_iff_iff]
        simp only [beq_iff_eq, decide_eq_true_eq]
        exact ⟨fun e => putL_inj hx hy e, fun e => by rw [e]⟩
      · cases he
    · exact .inr rfl
end Go.Proofs.Ytpipjjngffajlaa
