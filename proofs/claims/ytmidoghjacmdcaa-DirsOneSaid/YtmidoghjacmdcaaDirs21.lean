/- Layer 10 (dirs): Del, Trim. -/
import Derived.Test.YtmidoghjacmdcaaDirs20
import Derived.Test.YtmidoghjacmdcaaDirs11
import Derived.Deep.RegionHeld3
namespace Go.Proofs.Ytmidoghjacmdcaa
open Go.RowKit Go.Lib
set_option linter.unusedVariables false
set_option linter.unusedSimpArgs false
set_option maxRecDepth 10000
theorem cell_aft {W W' : World} {g o : Nat} {a : Value} (h : W.cell? ⟨g, o, none⟩ = some a) (hb : Below W.heap.size W W') : W'.cell? ⟨g, o, none⟩ = some a :=
  (hb.cell (p := ⟨g, o, none⟩) (World.block_lt_of_cell? W _ h)).trans h
set_option maxRecDepth 100000 in
set_option maxHeartbeats 4000000 in
theorem del_any (s n : List UInt8) (w : World) (hs : s.length ≤ maxLen) :
    Calls Try.prog 11 #[str s, str n] w fun e w' => e = .returned (.tuple #[str (delT s n), .int .u32 (delI s n : Nat), .int .i64 (delE s n : Nat)]) ∧ Below w.heap.size w w' := by
  have hR := fun W => read_any s W hs
  have hL := pad72_length (ents_le s)
  obtain ⟨hzr, hsz⟩ := zero_of_info entsInfo
  have Hsz := Lib.hid hsz
  clear hsz
  have hZ72 : (List.replicate 72 En.free).length = 72 := by simp
  generalize List.replicate 72 En.free = Z at *
  by_cases h0 : chk s = 0
  · rw [h0] at hR
    have HR := Lib.hid hR
    clear hR
    cases hl : look (ents s) n with
    | none =>
      obtain ⟨h1, h2, h3⟩ := del_none h0 hl
      have H1 := Lib.hid h1
      have H2 := Lib.hid h2
      have H3 := Lib.hid h3
      have HPl := Lib.hid fun g W (hW : EntAt W g (pad72 (ents s))) => by
        have := place_any g _ n W hW
        rw [look_pad72, hl] at this
        exact this
      clear h0 h1 h2 h3 hl
      generalize pad72 (ents s) = L at *
      go_enter Try.func11, Try.ntmps11
      go_wp2_with fail
      refine (HR.out _).mono ?_
      rintro e w1 ⟨rfl, hb1⟩
      have HB1 := Lib.hid hb1
      clear hb1 HR
      obtain ⟨w2, hst, ha, hb2, hsz2⟩ := arr_laid w1 Z L hZ72 hL
      have HB2 := Lib.hid (HB1.out.trans (hb2.mono HB1.out.size))
      have HPl2 := Lib.hid (HPl.out _ _ ha)
      clear ha hb2 hsz2 HPl
      go_wp2_with fail
      refine HPl2.out.mono ?_
      rintro e w3 ⟨rfl, hb3⟩
      have HB3 := Lib.hid (HB2.out.trans (hb3.mono HB2.out.size))
      clear hb3 HPl2
      dsimp only [optI]
      go_wp2_with fail
      go_ret3
      exact ⟨by rw [H1.out, H2.out, H3.out]; rfl, HB3.out⟩
    | some k =>
      obtain ⟨hne, x, hx, hxn, -⟩ := look_some hl
      obtain ⟨h1, h2, h3⟩ := del_some h0 hl hx
      have hkl := look_lt hl
      have h72 := ents_le s
      have hk72 : (k : Int) < 72 := by omega
      obtain ⟨l1, l2, l3⟩ := ents_len h0
      have H1 := Lib.hid h1
      have H2 := Lib.hid h2
      have H3 := Lib.hid h3
      have HPl := Lib.hid fun g W (hW : EntAt W g (pad72 (ents s))) => by
        have := place_any g _ n W hW
        rw [look_pad72, hl] at this
        exact this
      have Hx := Lib.hid (pad72_get hx)
      have hc : ∀ W, Calls Try.prog 31 #[str s, .int .i64 (k : Int), .agg #[.string ⟨#[]⟩, .int .u32 0]] W fun e w' => e = .returned (str (chg s k freeL)) ∧ Below W.heap.size W w' := fun W => by
        have := change_in s k En.free W l2 (by omega) (by decide) (by decide)
        rw [slotL_free] at this
        exact this
      have HC := Lib.hid hc
      clear h0 h1 h2 h3 hl hx hxn hne l1 l2 l3 hc
      generalize pad72 (ents s) = L at *
      generalize freeL = F at *
      go_enter Try.func11, Try.ntmps11
      go_wp2_with fail
      refine (HR.out _).mono ?_
      rintro e w1 ⟨rfl, hb1⟩
      have HB1 := Lib.hid hb1
      clear hb1 HR
      obtain ⟨w2, hst, ha, hb2, hsz2⟩ := arr_laid w1 Z L hZ72 hL
      have HB2 := Lib.hid (HB1.out.trans (hb2.mono HB1.out.size))
      have HPl2 := Lib.hid (HPl.out _ _ ha)
      have HA := Lib.hid ha
      clear ha hb2 hsz2 HPl
      go_wp2_with fail
      refine HPl2.out.mono ?_
      rintro e w3 ⟨rfl, hb3⟩
      have HB3 := Lib.hid (HB2.out.trans (hb3.mono HB2.out.size))
      obtain ⟨c0, c1⟩ := (HA.out.after hb3).cells Hx.out
      clear hb3 HPl2 c0
      dsimp only [optI]
      go_wp2_with fail
      have HBd := Lib.hid HB3.out.drew
      go_region_held3 (fun W => W.cell? ⟨w1.heap.size, k * 2 + 1, none⟩ = some (.int .u32 (x.i : Int)))
        (first | exact c1 | exact cell_aft (by assumption) hb4)
        (first | (go_at_call 31; ((with_reducible refine (HC.out _).mono ?_); rintro e w4 ⟨rfl, hb4⟩; have HBd := Lib.hid (HBd.out.trans (hb4.mono HBd.out.size)))))
      go_wp2_with fail
      go_ret3
      exact ⟨by rw [H1.out, H2.out, H3.out]; rfl, HBd.out⟩
  · obtain ⟨h1, h2, h3⟩ := del_bad (n := n) h0
    have q := chk_ne h0
    have H1 := Lib.hid h1
    have H2 := Lib.hid h2
    have H3 := Lib.hid h3
    have HR := Lib.hid hR
    clear h0 h1 h2 h3 hR
    generalize pad72 (ents s) = L at *
    generalize chk s = z at *
    go_enter Try.func11, Try.ntmps11
    go_wp2_with fail
    refine (HR.out _).mono ?_
    rintro e w1 ⟨rfl, hb1⟩
    have HB1 := Lib.hid hb1
    clear hb1 HR
    obtain ⟨w2, hst, ha, hb2, hsz2⟩ := arr_laid w1 Z L hZ72 hL
    have HB2 := Lib.hid (HB1.out.trans (hb2.mono HB1.out.size))
    clear ha hb2 hsz2
    go_wp2_with fail
    go_ret3
    exact ⟨by rw [H1.out, H2.out, H3.out]; rfl, HB2.out⟩
/-- The text without the noughts at its end, padded to whole sectors. -/
theorem trim_pad {s : List UInt8} (hs : s.length % 64 = 0) : s.take (64 * (((bareL s).length + 63) / 64)) = bareL s ++ List.replicate (64 * (((bareL s).length + 63) / 64) - (bareL s).length) 0 := by
  obtain ⟨h1, h2⟩ := bareL_back s
  generalize bareL s = b at h1 h2 ⊢
  obtain ⟨m, hm⟩ : ∃ m, 64 * ((b.length + 63) / 64) = b.length + m := ⟨64 * ((b.length + 63) / 64) - b.length, by omega⟩
  have hms : b.length + m ≤ s.length := by omega
  rw [hm]
  conv => lhs; rw [← h2]
  rw [List.take_append, List.take_of_length_le (by omega), List.take_replicate]
  congr 2
  omega
set_option maxHeartbeats 2000000 in
theorem trim_any (s : List UInt8) (w : World) (hs : s.length ≤ maxLen) :
    Calls Try.prog 13 #[str s] w fun e w' => e = .returned (.tuple #[str (trimT s), .int .i64 (chk s : Nat)]) ∧ Below w.heap.size w w' := by
  have HC := Lib.hid fun W => check_any s W hs
  by_cases h0 : chk s = 0
  · obtain ⟨l1, l2, l3⟩ := ents_len h0
    have hm64 : s.length % 64 = 0 := by omega
    have hT := trim_ok h0
    rw [trim_pad hm64] at hT
    have HB := Lib.hid fun W => bare_any s W hs
    obtain ⟨hbl, -⟩ := bareL_back s
    obtain ⟨m, hmm⟩ : ∃ m, m = ((bareL s).length + 63) / 64 := ⟨_, rfl⟩
    have hp : ∀ W, Calls Try.prog 36 #[str (bareL s), .int .i64 ((((bareL s).length : Int) + 63) / 64 * 64)] W fun e w' => e = .returned (.tuple #[str (bareL s ++ List.replicate (64 * m - (bareL s).length) 0), .int .i64 0]) ∧ Below W.heap.size W w' := fun W => pad_ok (bareL s) (64 * m - (bareL s).length) _ W (by omega) (by omega)
    have HP := Lib.hid hp
    rw [← hmm] at hT
    have HT := Lib.hid hT
    rw [h0] at HC
    have H0 := Lib.hid h0
    have hmb : (m : Int) = ((bareL s).length + 63) / 64 := by omega
    have hm36 : m ≤ 36 := by omega
    have hb2304 : (bareL s).length ≤ 2304 := by omega
    clear h0 l1 l3 hm64 hT hmm hbl hp hmb
    generalize bareL s = b at *
    have e1 : IntKind.i64.wrap ((b.length : Int) + 64) = (b.length : Int) + 64 := IntWalk.i64_in _ ⟨by omega, by omega⟩
    have e2 : IntKind.i64.wrap ((b.length : Int) + 64 - 1) = (b.length : Int) + 63 := by rw [IntWalk.i64_in _ ⟨by omega, by omega⟩]; omega
    go_enter Try.func13, Try.ntmps13
    go_wp2_with fail
    refine (HC.out _).mono ?_
    rintro e w1 ⟨rfl, hb1⟩
    have HB1 := Lib.hid hb1
    clear hb1 HC
    go_wp2_with fail
    refine (HB.out _).mono ?_
    rintro e w2 ⟨rfl, hb2⟩
    have HB2 := Lib.hid (HB1.out.trans (hb2.mono HB1.out.size))
    clear hb2 HB
    go_wp2_with fail
    refine (HP.out _).mono ?_
    rintro e w3 ⟨rfl, hb3⟩
    have HB3 := Lib.hid (HB2.out.trans (hb3.mono HB2.out.size))
    clear hb3 HP
    go_wp2_with fail
    go_ret2
    exact ⟨by rw [HT.out, H0.out]; rfl, HB3.out⟩
  · have q := chk_ne h0
    have HT := Lib.hid (trim_bad h0)
    clear h0
    generalize chk s = z at *
    go_enter Try.func13, Try.ntmps13
    go_wp2_with fail
    refine (HC.out _).mono ?_
    rintro e w1 ⟨rfl, hb1⟩
    have HB1 := Lib.hid hb1
    clear hb1 HC
    go_wp2_with fail
    go_ret2
    exact ⟨by rw [HT.out]; rfl, HB1.out⟩
end Go.Proofs.Ytmidoghjacmdcaa
