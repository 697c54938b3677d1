/- Layer 10 (dirs): what is wrong with a slot. -/
import Derived.Test.YtmidoghjacmdcaaDirs14
namespace Go.Proofs.Ytmidoghjacmdcaa
open Go.RowKit Go.Lib
set_option linter.unusedVariables false
set_option linter.unusedSimpArgs false
set_option maxRecDepth 10000
/-- What is wrong with a slot beside these entries. -/
def wrongE (l : List En) (p : List UInt8) : Nat := if okS p = false then 7 else if (look l (getE p).n).isSome = true then 9 else 0
theorem wrong_form {l : List En} {p : List UInt8} (h : okS p = false) : wrongE l p = 7 := if_pos h
theorem wrong_have {l : List En} {p : List UInt8} {k : Nat} (h : okS p = true) (hk : look l (getE p).n = some k) : wrongE l p = 9 := by
  unfold wrongE; rw [if_neg (by simp [h]), hk]; rfl
theorem wrong_ok {l : List En} {p : List UInt8} (h : okS p = true) (hk : look l (getE p).n = none) : wrongE l p = 0 := by
  unfold wrongE; rw [if_neg (by simp [h]), hk]; rfl
theorem ne_entry {x : En} {t : Bool} (h : decide (x = En.free) = t) (W : World) : (Op.equalIn 10000 34 x.v (.agg #[.string ⟨#[]⟩, .int .u32 0])).run Try.prog W = .ok t W := by
  rw [← h]; exact eq_ent x En.free W
set_option maxRecDepth 100000 in
set_option maxHeartbeats 2000000 in
theorem wrong_any (p : List UInt8) (hp : p.length = 32) (g : Nat) (l : List En) (w : World) (h : EntAt w g l) :
    Calls Try.prog 43 #[(getE p).v, str p, .pointer (some ⟨g, 0, none⟩)] w fun e w' => e = .returned (.int .i64 (wrongE l p : Nat)) ∧ Below w.heap.size w w' := by
  have hn := getE_len hp
  have hi := leV_lt4 p
  have hi : (getE p).i < 4294967296 := hi
  have HM := Lib.hid fun W => may_any (getE p) W (by simp only [maxLen]; omega)
  have HP := Lib.hid fun W => dput_any (getE p) W hi hn
  have HB0 := Lib.hid ((Below.refl w.heap.size w).alloc (Nat.le_refl _) (.cells #[str (getE p).n, .int .u32 ((getE p).i : Int)] 34))
  have HE := Lib.hid (h.after HB0.out)
  have HV := two_cells w (str (getE p).n) (.int .u32 ((getE p).i : Int)) 34
  have HPl := Lib.hid fun W (hW : EntAt W g l) => place_any g l (getE p).n W hW
  have HokS := Lib.hid (show okS p = ((decide (getE p = En.free) || mayB (getE p)) && decide (slotL (getE p) = p)) from rfl)
  have HW7 := Lib.hid fun (h : okS p = false) => wrong_form (l := l) h
  have HW9 := Lib.hid fun (h : okS p = true) k (hk : look l (getE p).n = some k) => wrong_have (l := l) h hk
  have HW0 := Lib.hid fun (h : okS p = true) (hk : look l (getE p).n = none) => wrong_ok (l := l) h hk
  clear h
  generalize getE p = x at *
  cases hf : decide (x = En.free) with
  | false =>
    have hne := fun W => ne_entry hf W
    rw [hf] at HokS
    cases hm : mayB x with
    | false =>
      rw [hm] at HM HokS
      have H7 := Lib.hid (HW7.out HokS.out)
      clear hf hm
      go_enter Try.func43, Try.ntmps43
      go_wp2_with fail
      refine (HM.out _).mono ?_
      rintro e w1 ⟨rfl, hb1⟩
      have HB1 := Lib.hid (HB0.out.trans (hb1.mono HB0.out.size))
      clear hb1 HM
      go_wp2_with fail
      go_ret
      exact ⟨by rw [H7.out]; rfl, HB1.out⟩
    | true =>
      rw [hm] at HM HokS
      cases hs : decide (slotL x = p) with
      | false =>
        have q1 : (slotL x == p) = false := by simpa using hs
        rw [hs] at HokS
        have H7 := Lib.hid (HW7.out HokS.out)
        clear hf hm hs
        go_enter Try.func43, Try.ntmps43
        go_wp2_with fail
        refine (HM.out _).mono ?_
        rintro e w1 ⟨rfl, hb1⟩
        obtain ⟨x0, x1⟩ := pair_kept HV hb1
        have HB1 := Lib.hid (HB0.out.trans (hb1.mono HB0.out.size))
        clear hb1 HM HV
        go_wp2_with fail
        refine (HP.out _).mono ?_
        rintro e w2 ⟨rfl, hb2⟩
        have HB2 := Lib.hid (HB1.out.trans (hb2.mono HB1.out.size))
        clear hb2 HP x0 x1
        go_wp2_with fail
        go_ret
        exact ⟨by rw [H7.out]; rfl, HB2.out⟩
      | true =>
        have q1 : (slotL x == p) = true := by simpa using hs
        rw [hs] at HokS
        clear hf hm hs
        cases hk : look l x.n with
        | some k =>
          have H9 := Lib.hid (HW9.out HokS.out k hk)
          rw [hk] at HPl
          clear hk
          go_enter Try.func43, Try.ntmps43
          go_wp2_with fail
          refine (HM.out _).mono ?_
          rintro e w1 ⟨rfl, hb1⟩
          have HV1 := Lib.hid (pair_kept HV hb1)
          have HE1 := Lib.hid (HE.out.after hb1)
          have HB1 := Lib.hid (HB0.out.trans (hb1.mono HB0.out.size))
          clear hb1 HM HV
          obtain ⟨x0, x1⟩ := HV1.out
          go_wp2_with fail
          refine (HP.out _).mono ?_
          rintro e w2 ⟨rfl, hb2⟩
          have HV2 := Lib.hid (pair_kept HV1.out hb2)
          have HE2 := Lib.hid (HE1.out.after hb2)
          have HB2 := Lib.hid (HB1.out.trans (hb2.mono HB1.out.size))
          clear hb2 HP x0 x1
          obtain ⟨x0, x1⟩ := HV2.out
          go_wp2_with fail
          refine (HPl.out _ HE2.out).mono ?_
          rintro e w3 ⟨rfl, hb3⟩
          have HB3 := Lib.hid (HB2.out.trans (hb3.mono HB2.out.size))
          clear hb3 x0 x1
          dsimp only [optI]
          go_wp2_with fail
          go_ret
          exact ⟨by rw [H9.out]; rfl, HB3.out⟩
        | none =>
          have H9 := Lib.hid (HW0.out HokS.out hk)
          rw [hk] at HPl
          clear hk
          go_enter Try.func43, Try.ntmps43
          go_wp2_with fail
          refine (HM.out _).mono ?_
          rintro e w1 ⟨rfl, hb1⟩
          have HV1 := Lib.hid (pair_kept HV hb1)
          have HE1 := Lib.hid (HE.out.after hb1)
          have HB1 := Lib.hid (HB0.out.trans (hb1.mono HB0.out.size))
          clear hb1 HM HV
          obtain ⟨x0, x1⟩ := HV1.out
          go_wp2_with fail
          refine (HP.out _).mono ?_
          rintro e w2 ⟨rfl, hb2⟩
          have HV2 := Lib.hid (pair_kept HV1.out hb2)
          have HE2 := Lib.hid (HE1.out.after hb2)
          have HB2 := Lib.hid (HB1.out.trans (hb2.mono HB1.out.size))
          clear hb2 HP x0 x1
          obtain ⟨x0, x1⟩ := HV2.out
          go_wp2_with fail
          refine (HPl.out _ HE2.out).mono ?_
          rintro e w3 ⟨rfl, hb3⟩
          have HB3 := Lib.hid (HB2.out.trans (hb3.mono HB2.out.size))
          clear hb3 x0 x1
          dsimp only [optI]
          go_wp2_with fail
          go_ret
          exact ⟨by rw [H9.out]; rfl, HB3.out⟩
  | true =>
    have hne := fun W => ne_entry hf W
    rw [hf] at HokS
    have hne2 : ∀ W, (Op.equalIn 10000 34 (.agg #[.string ⟨#[]⟩, .int .u32 0]) (.agg #[.string ⟨#[]⟩, .int .u32 0])).run Try.prog W = .ok true W := fun W => by
      have := eq_ent En.free En.free W
      rw [show decide (En.free = En.free) = true by simp] at this
      exact this
    cases hs : decide (slotL x = p) with
    | false =>
      have q1 : (slotL x == p) = false := by simpa using hs
      rw [hs] at HokS
      have H7 := Lib.hid (HW7.out (by rw [HokS.out]; simp))
      clear hf hs
      go_enter Try.func43, Try.ntmps43
      go_wp2_with fail
      refine (HP.out _).mono ?_
      rintro e w2 ⟨rfl, hb2⟩
      have HB2 := Lib.hid (HB0.out.trans (hb2.mono HB0.out.size))
      clear hb2 HP HV
      go_wp2_with fail
      go_ret
      exact ⟨by rw [H7.out]; rfl, HB2.out⟩
    | true =>
      have q1 : (slotL x == p) = true := by simpa using hs
      rw [hs] at HokS
      clear hf hs
      cases hk : look l x.n with
      | some k =>
        have H9 := Lib.hid (HW9.out HokS.out k hk)
        rw [hk] at HPl
        clear hk
        go_enter Try.func43, Try.ntmps43
        go_wp2_with fail
        refine (HP.out _).mono ?_
        rintro e w2 ⟨rfl, hb2⟩
        have HV2 := Lib.hid (pair_kept HV hb2)
        have HE2 := Lib.hid (HE.out.after hb2)
        have HB2 := Lib.hid (HB0.out.trans (hb2.mono HB0.out.size))
        clear hb2 HP HV
        obtain ⟨x0, x1⟩ := HV2.out
        go_wp2_with fail
        refine (HPl.out _ HE2.out).mono ?_
        rintro e w3 ⟨rfl, hb3⟩
        have HB3 := Lib.hid (HB2.out.trans (hb3.mono HB2.out.size))
        clear hb3 x0 x1
        dsimp only [optI]
        go_wp2_with fail
        go_ret
        exact ⟨by rw [H9.out]; rfl, HB3.out⟩
      | none =>
        have H9 := Lib.hid (HW0.out HokS.out hk)
        rw [hk] at HPl
        clear hk
        go_enter Try.func43, Try.ntmps43
        go_wp2_with fail
        refine (HP.out _).mono ?_
        rintro e w2 ⟨rfl, hb2⟩
        have HV2 := Lib.hid (pair_kept HV hb2)
        have HE2 := Lib.hid (HE.out.after hb2)
        have HB2 := Lib.hid (HB0.out.trans (hb2.mono HB0.out.size))
        clear hb2 HP HV
        obtain ⟨x0, x1⟩ := HV2.out
        go_wp2_with fail
        refine (HPl.out _ HE2.out).mono ?_
        rintro e w3 ⟨rfl, hb3⟩
        have HB3 := Lib.hid (HB2.out.trans (hb3.mono HB2.out.size))
        clear hb3 x0 x1
        dsimp only [optI]
        go_wp2_with fail
        go_ret
        exact ⟨by rw [H9.out]; rfl, HB3.out⟩
end Go.Proofs.Ytmidoghjacmdcaa
