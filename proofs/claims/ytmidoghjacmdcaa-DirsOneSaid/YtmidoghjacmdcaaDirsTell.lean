/- Layer 10 (dirs): the walk of DirsTell. -/
import Derived.Test.YtmidoghjacmdcaaDirsL1
import Derived.Test.YtmidoghjacmdcaaDirs10
namespace Go.Proofs.Ytmidoghjacmdcaa
open Go.RowKit Go.Lib
set_option linter.unusedVariables false
set_option linter.unusedSimpArgs false
set_option maxRecDepth 10000
theorem u32_range {n : Int} (h : (Lit.int .u32 n).wf = true) : 0 ≤ n ∧ n < 4294967296 := by
  simp [Lit.wf, IntKind.min, IntKind.max, IntKind.signed, IntKind.bits] at h
  omega
theorem lst_len (s : List UInt8) : (lst s).length ≤ 72 := Nat.le_trans (List.length_filter_le _ _) (ents_le s)
theorem tell_far (s n : List UInt8) (i : Nat) (w : World) (hs : s.length ≤ maxLen) (hn : n.length ≤ maxLen) (h : 3000 < s.length ∨ 300 < n.length) :
    Calls Try.prog 3 #[str s, str n, .int .u32 (i : Int)] w fun e w' => e = .returned (.bool true) ∧ Below w.heap.size w w' := by
  have HA := Lib.hid alive_any
  unfold maxLen at hs hn
  by_cases h1 : 3000 < s.length
  · go_enter Try.func3, Try.ntmps3
    go_wp2_with fail
    refine (HA.out _).mono ?_
    rintro e w1 ⟨rfl, hb⟩
    go_wp2_with fail
    go_ret
    exact ⟨rfl, hb⟩
  · have h2 : 300 < n.length := by omega
    go_enter Try.func3, Try.ntmps3
    go_wp2_with fail
    refine (HA.out _).mono ?_
    rintro e w1 ⟨rfl, hb⟩
    go_wp2_with fail
    go_ret
    exact ⟨rfl, hb⟩
set_option maxRecDepth 100000 in
set_option maxHeartbeats 8000000 in
theorem tell_near (s n : List UInt8) (i : Nat) (w : World) (hs : s.length ≤ 3000) (hn : n.length ≤ 300) (hi : i < 4294967296) :
    Calls Try.prog 3 #[str s, str n, .int .u32 (i : Int)] w fun e w' => e = .returned (.bool true) ∧ Below w.heap.size w w' := by
  have hs2 : s.length ≤ maxLen := by simp only [maxLen]; omega
  have hn2 : n.length ≤ maxLen := by simp only [maxLen]; omega
  have HA := Lib.hid alive_any
  have H1 := Lib.hid fun W => add_any s n i W hs2 hn2 hi
  have H2 := Lib.hid fun W => refAdd_any s n i W hs2 hn2 hi
  have H3 := Lib.hid fun W => set_any s n i W hs2 hi
  have H4 := Lib.hid fun W => refSet_any s n i W hs2 hi
  have H5 := Lib.hid fun W => del_any s n W hs2
  have H6 := Lib.hid fun W => refDel_any s n W hs2
  have H7 := Lib.hid fun W => trim_any s W hs2
  have H8 := Lib.hid fun W => refTrim_any s W hs2
  have h9 := fun W => find_any s n W hs2
  have h10 := fun W => refFind_any s n W hs2
  unfold fndV at h9 h10
  have H9 := Lib.hid h9
  have H10 := Lib.hid h10
  have H11 := Lib.hid fun W => check_any s W hs2
  have H12 := Lib.hid fun W => refCheck_any s W hs2
  have H13 := Lib.hid fun W => list_any s W hs2
  have H14 := Lib.hid fun W => refList_any s W hs2
  have H15 := Lib.hid fun a b W (ha : EntRow W a (lst s)) (hb : EntRow W b (lst s)) => by
    have := refSame_any a b (lst s) (lst s) W ha hb (lst_len s) (lst_len s)
    rw [decide_eq_true rfl] at this
    exact this
  have d1 : ¬ (3000 : Int) < (s.length : Int) := by omega
  have d2 : ¬ (300 : Int) < (n.length : Int) := by omega
  have hm1 := fun W => refMay_any ⟨n, i⟩ W hn2
  have hok := fun (hm : mayB ⟨n, i⟩ = true) W => slot_ok ⟨n, i⟩ W hm hi
  have hok2 := fun (hm : mayB ⟨n, i⟩ = true) W => refSlot_any ⟨n, i⟩ W hi (mayB_len hm).2.2
  have hno := fun (hm : mayB ⟨n, i⟩ = false) W => slot_no ⟨n, i⟩ W hm hn2
  clear h9 h10 hs2 hn2
  generalize lst s = L at *
  generalize chk s = z1 at *
  generalize fIno (ents s) n = f1 at *
  generalize fAt (ents s) n = f2 at *
  generalize fIs (ents s) n = f3 at *
  generalize addT s ⟨n, i⟩ = a1 at *
  generalize addE s ⟨n, i⟩ = a2 at *
  generalize setT s ⟨n, i⟩ = s1 at *
  generalize setE s ⟨n, i⟩ = s2 at *
  generalize delT s n = t1 at *
  generalize delE s n = t2 at *
  generalize delI s n = t3 at *
  generalize trimT s = r1 at *
  cases hm : mayB ⟨n, i⟩ with
  | true =>
    have HM1 := Lib.hid hm1
    have HK1 := Lib.hid (hok hm)
    have HK2 := Lib.hid (hok2 hm)
    rw [hm] at HM1
    clear hm1 hok hok2 hno hm
    generalize slotL ⟨n, i⟩ = sl at *
    go_enter Try.func3, Try.ntmps3
    go_wp2_with fail
    refine (H1.out _).mono ?_
    rintro e w1 ⟨rfl, hb1⟩
    have HB1 := Lib.hid hb1
    clear hb1 H1
    go_wp2_with fail
    refine (H2.out _).mono ?_
    rintro e w2 ⟨rfl, hb2⟩
    have HB2 := Lib.hid (HB1.out.trans (hb2.mono HB1.out.size))
    clear hb2 H2 HB1
    go_wp2_with fail
    refine (H3.out _).mono ?_
    rintro e w3 ⟨rfl, hb3⟩
    have HB3 := Lib.hid (HB2.out.trans (hb3.mono HB2.out.size))
    clear hb3 H3 HB2
    go_wp2_with fail
    refine (H4.out _).mono ?_
    rintro e w4 ⟨rfl, hb4⟩
    have HB4 := Lib.hid (HB3.out.trans (hb4.mono HB3.out.size))
    clear hb4 H4 HB3
    go_wp2_with fail
    refine (H5.out _).mono ?_
    rintro e w5 ⟨rfl, hb5⟩
    have HB5 := Lib.hid (HB4.out.trans (hb5.mono HB4.out.size))
    clear hb5 H5 HB4
    go_wp2_with fail
    refine (H6.out _).mono ?_
    rintro e w6 ⟨rfl, hb6⟩
    have HB6 := Lib.hid (HB5.out.trans (hb6.mono HB5.out.size))
    clear hb6 H6 HB5
    go_wp2_with fail
    refine (H7.out _).mono ?_
    rintro e w7 ⟨rfl, hb7⟩
    have HB7 := Lib.hid (HB6.out.trans (hb7.mono HB6.out.size))
    clear hb7 H7 HB6
    go_wp2_with fail
    refine (H8.out _).mono ?_
    rintro e w8 ⟨rfl, hb8⟩
    have HB8 := Lib.hid (HB7.out.trans (hb8.mono HB7.out.size))
    clear hb8 H8 HB7
    go_wp2_with fail
    refine (H9.out _).mono ?_
    rintro e w9 ⟨rfl, hb9⟩
    have HB9 := Lib.hid (HB8.out.trans (hb9.mono HB8.out.size))
    clear hb9 H9 HB8
    go_wp2_with fail
    refine (H10.out _).mono ?_
    rintro e w10 ⟨rfl, hb10⟩
    have HB10 := Lib.hid (HB9.out.trans (hb10.mono HB9.out.size))
    clear hb10 H10 HB9
    go_wp2_with fail
    refine (HK1.out _).mono ?_
    rintro e w11 ⟨rfl, hb11⟩
    have HB11 := Lib.hid (HB10.out.trans (hb11.mono HB10.out.size))
    clear hb11 HK1 HB10
    go_wp2_with fail
    refine (HM1.out _).mono ?_
    rintro e w12 ⟨rfl, hb12⟩
    have HB12 := Lib.hid (HB11.out.trans (hb12.mono HB11.out.size))
    clear hb12 HM1 HB11
    go_wp2_with fail
    refine (HK2.out _).mono ?_
    rintro e w13 ⟨rfl, hb13⟩
    have HB13 := Lib.hid (HB12.out.trans (hb13.mono HB12.out.size))
    clear hb13 HK2 HB12
    go_wp2_with fail
    refine (H11.out _).mono ?_
    rintro e w14 ⟨rfl, hb14⟩
    have HB14 := Lib.hid (HB13.out.trans (hb14.mono HB13.out.size))
    clear hb14 H11 HB13
    go_wp2_with fail
    refine (H12.out _).mono ?_
    rintro e w15 ⟨rfl, hb15⟩
    have HB15 := Lib.hid (HB14.out.trans (hb15.mono HB14.out.size))
    clear hb15 H12 HB14
    go_wp2_with fail
    refine (H13.out _).mono ?_
    rintro e w16 ⟨⟨va, rfl, hva⟩, hb16⟩
    have HVA := Lib.hid hva
    have HB16 := Lib.hid (HB15.out.trans (hb16.mono HB15.out.size))
    clear hva hb16 H13 HB15
    go_wp2_with fail
    refine (H14.out _).mono ?_
    rintro e w17 ⟨⟨vb, rfl, hvb⟩, hb17⟩
    have HSm := Lib.hid (H15.out va vb _ (HVA.out.below hb17) hvb)
    have HB17 := Lib.hid (HB16.out.trans (hb17.mono HB16.out.size))
    clear hvb hb17 H14 HB16 H15 HVA
    go_wp2_with fail
    refine HSm.out.mono ?_
    rintro e w18 ⟨rfl, hb18⟩
    have HB18 := Lib.hid (HB17.out.trans (hb18.mono HB17.out.size))
    clear hb18 HSm HB17
    go_wp2_with fail
    refine (HA.out _).mono ?_
    rintro e w19 ⟨rfl, hb19⟩
    have HB19 := Lib.hid (HB18.out.trans (hb19.mono HB18.out.size))
    clear hb19 HA HB18
    go_wp2_with fail
    go_ret
    exact ⟨rfl, HB19.out⟩
  | false =>
    have HM1 := Lib.hid hm1
    have HK1 := Lib.hid (hno hm)
    rw [hm] at HM1
    clear hm1 hok hok2 hno hm
    go_enter Try.func3, Try.ntmps3
    go_wp2_with fail
    refine (H1.out _).mono ?_
    rintro e w1 ⟨rfl, hb1⟩
    have HB1 := Lib.hid hb1
    clear hb1 H1
    go_wp2_with fail
    refine (H2.out _).mono ?_
    rintro e w2 ⟨rfl, hb2⟩
    have HB2 := Lib.hid (HB1.out.trans (hb2.mono HB1.out.size))
    clear hb2 H2 HB1
    go_wp2_with fail
    refine (H3.out _).mono ?_
    rintro e w3 ⟨rfl, hb3⟩
    have HB3 := Lib.hid (HB2.out.trans (hb3.mono HB2.out.size))
    clear hb3 H3 HB2
    go_wp2_with fail
    refine (H4.out _).mono ?_
    rintro e w4 ⟨rfl, hb4⟩
    have HB4 := Lib.hid (HB3.out.trans (hb4.mono HB3.out.size))
    clear hb4 H4 HB3
    go_wp2_with fail
    refine (H5.out _).mono ?_
    rintro e w5 ⟨rfl, hb5⟩
    have HB5 := Lib.hid (HB4.out.trans (hb5.mono HB4.out.size))
    clear hb5 H5 HB4
    go_wp2_with fail
    refine (H6.out _).mono ?_
    rintro e w6 ⟨rfl, hb6⟩
    have HB6 := Lib.hid (HB5.out.trans (hb6.mono HB5.out.size))
    clear hb6 H6 HB5
    go_wp2_with fail
    refine (H7.out _).mono ?_
    rintro e w7 ⟨rfl, hb7⟩
    have HB7 := Lib.hid (HB6.out.trans (hb7.mono HB6.out.size))
    clear hb7 H7 HB6
    go_wp2_with fail
    refine (H8.out _).mono ?_
    rintro e w8 ⟨rfl, hb8⟩
    have HB8 := Lib.hid (HB7.out.trans (hb8.mono HB7.out.size))
    clear hb8 H8 HB7
    go_wp2_with fail
    refine (H9.out _).mono ?_
    rintro e w9 ⟨rfl, hb9⟩
    have HB9 := Lib.hid (HB8.out.trans (hb9.mono HB8.out.size))
    clear hb9 H9 HB8
    go_wp2_with fail
    refine (H10.out _).mono ?_
    rintro e w10 ⟨rfl, hb10⟩
    have HB10 := Lib.hid (HB9.out.trans (hb10.mono HB9.out.size))
    clear hb10 H10 HB9
    go_wp2_with fail
    refine (HK1.out _).mono ?_
    rintro e w11 ⟨rfl, hb11⟩
    have HB11 := Lib.hid (HB10.out.trans (hb11.mono HB10.out.size))
    clear hb11 HK1 HB10
    go_wp2_with fail
    refine (HM1.out _).mono ?_
    rintro e w12 ⟨rfl, hb12⟩
    have HB12 := Lib.hid (HB11.out.trans (hb12.mono HB11.out.size))
    clear hb12 HM1 HB11
    go_wp2_with fail
    refine (H11.out _).mono ?_
    rintro e w13 ⟨rfl, hb13⟩
    have HB13 := Lib.hid (HB12.out.trans (hb13.mono HB12.out.size))
    clear hb13 H11 HB12
    go_wp2_with fail
    refine (H12.out _).mono ?_
    rintro e w14 ⟨rfl, hb14⟩
    have HB14 := Lib.hid (HB13.out.trans (hb14.mono HB13.out.size))
    clear hb14 H12 HB13
    go_wp2_with fail
    refine (H13.out _).mono ?_
    rintro e w15 ⟨⟨va, rfl, hva⟩, hb15⟩
    have HVA := Lib.hid hva
    have HB15 := Lib.hid (HB14.out.trans (hb15.mono HB14.out.size))
    clear hva hb15 H13 HB14
    go_wp2_with fail
    refine (H14.out _).mono ?_
    rintro e w16 ⟨⟨vb, rfl, hvb⟩, hb16⟩
    have HSm := Lib.hid (H15.out va vb _ (HVA.out.below hb16) hvb)
    have HB16 := Lib.hid (HB15.out.trans (hb16.mono HB15.out.size))
    clear hvb hb16 H14 HB15 H15 HVA
    go_wp2_with fail
    refine HSm.out.mono ?_
    rintro e w17 ⟨rfl, hb17⟩
    have HB17 := Lib.hid (HB16.out.trans (hb17.mono HB16.out.size))
    clear hb17 HSm HB16
    go_wp2_with fail
    refine (HA.out _).mono ?_
    rintro e w18 ⟨rfl, hb18⟩
    have HB18 := Lib.hid (HB17.out.trans (hb18.mono HB17.out.size))
    clear hb18 HA HB17
    go_wp2_with fail
    go_ret
    exact ⟨rfl, HB18.out⟩
/-- The walk of DirsTell. -/
theorem walk_DirsTell (a b : ByteArray) (n : Int) (ha : a.size ≤ 140737488351232) (hb : b.size ≤ 140737488351232) (wn : (Lit.int .u32 n).wf = true) (w : World) :
    Calls Try.prog 3 #[.string a, .string b, .int .u32 n] w fun e w' => e = .returned (.bool true) ∧ Below w.heap.size w w' := by
  obtain ⟨s, rfl⟩ : ∃ l : List UInt8, a = ⟨l.toArray⟩ := ⟨a.data.toList, rfl⟩
  obtain ⟨m, rfl⟩ : ∃ l : List UInt8, b = ⟨l.toArray⟩ := ⟨b.data.toList, rfl⟩
  have hs2 : s.length ≤ 140737488351232 := by simpa [ByteArray.size] using ha
  have hn2 : m.length ≤ 140737488351232 := by simpa [ByteArray.size] using hb
  have hr := u32_range wn
  obtain ⟨i, rfl⟩ : ∃ i : Nat, n = i := ⟨n.toNat, by omega⟩
  by_cases h : 3000 < s.length ∨ 300 < m.length
  · exact tell_far s m i w (by simp only [maxLen]; omega) (by simp only [maxLen]; omega) h
  · exact tell_near s m i w (by omega) (by omega) (by omega)
end Go.Proofs.Ytmidoghjacmdcaa
