/- Layer 4 (journal): the chapter's examples, walked. -/
import Derived.Test.YtgkdabjflagnlaaGreatM16
namespace Go.Proofs.YtgkdabjflagnlaaGreat
open Go.RowKit Go.Maps
set_option linter.unusedVariables false
set_option linter.unusedSimpArgs false
set_option maxRecDepth 10000
section
variable {F n : Nat} {w W : World} {b : Nat} {M : Dv} {js : List (Nat × Nat)} {vs : Rows3}
/-- A journal, opened where nothing is to be recovered. -/
theorem law_open_new {g : Nat} {f : Nat → List UInt8} (h : Law F n w W b M js vs) (h4 : 4 ≤ n) (h256 : n ≤ 256) (hF : F + n ≤ M.n) (hc : M.calm) (hd : M.down = false) (hw : M.wr + 8192 ≤ 1099511627776) (hS : StA M.n F n g f M.dur) :
    Calls Tryz.prog 14 #[devp b, .int .i64 (F : Int), .int .i64 (n : Int)] W fun e w' => ∃ jb, e = .returned (.tuple #[devp jb, .int .i64 0]) ∧ Law F n w w' b M ((jb, 0) :: js) vs := by
  refine (jopen_clean h.held F n h4 h256 hF hd (by omega) (by rw [calm_cur M hc]; exact hS.pend)).mono ?_
  rintro e w' ⟨jb, rfl, hjb, hj, hb, hH⟩
  exact ⟨jb, rfl, h.addJ jb 0 (h.held.keeps.below hb) hj hH⟩
/-- A commit on a device without a fuse. -/
theorem law_commit_free {jb rec g : Nat} {v : Value} {l : PutL} {f : Nat → List UInt8} (h : Law F n w W b M js vs) (hj : (jb, rec) ∈ js) (hv : Puts W v (castL l)) (h4 : 4 ≤ n) (h256 : n ≤ 256) (hF : F + n ≤ M.n) (hw : M.wr + 16384 ≤ 1099511627776)
    (hwhy : whyL M.n F n (castL l) = 0) (hc : M.calm) (hA : StA M.n F n g f M.dur) (hg : g + 1 < 18446744073709551616) (hd : M.down = false) (hl : M.left = 0) :
    Calls Tryz.prog 9 #[devp jb, v] W fun e w' =>
      e = .returned (.tuple #[.int .u64 ((g : Int) + 1), .int .i64 0]) ∧ ∃ M2, Law F n w w' b M2 js vs ∧ M2.n = M.n ∧ M2.down = false ∧ M2.left = 0 ∧ M2.calm ∧ M2.wr ≤ M.wr + (2 * l.length + (l.length + 31) / 32 + 2) ∧ StA M.n F n (g + 1) (laid f l) M2.dur := by
  have hT := tr_last hwhy h4 hF h.fine.n
  obtain ⟨h1, h2, h3, h5, h6⟩ := commit_all hT rfl hc (by omega) hA
  obtain ⟨h7, h8⟩ := h6 hd hl
  obtain ⟨h9, h10⟩ := h5 h7
  refine (law_commit h hj hv h4 h256 hF hw hwhy hc hA hg).mono ?_
  rintro e w' ⟨⟨r1, r2, rfl, hr⟩, hL⟩
  obtain ⟨rfl, rfl⟩ := hr h7
  rw [laid_lastL] at h10
  have := lastL_length l
  exact ⟨rfl, _, hL, h1, h7, h8, h9, by omega, h10⟩
theorem law_refused {jb rec : Nat} {v : Value} {l : PutI} (h : Law F n w W b M js vs) (hj : (jb, rec) ∈ js) (hv : Puts W v l) (hl : l.length ≤ maxLen) (hd : ∀ p ∈ l, p.2.length ≤ 140737488351232) (h4 : 4 ≤ n) (h256 : n ≤ 256) (hF : F ≤ 4096) (hwhy : whyL M.n F n l ≠ 0) :
    Calls Tryz.prog 9 #[devp jb, v] W fun e w' => e = .returned (.tuple #[.int .u64 0, .int .i64 (whyL M.n F n l)]) ∧ Law F n w w' b M js vs :=
  (commit_bad jb b F n rec M.n v l W (JOn.of h.held (h.jat _ hj)) hv hl hd hF h4 h256 h.fine.n hwhy).mono fun e w' hx => ⟨hx.1, h.below hx.2⟩
theorem law_read (h : Law F n w W b M js vs) (hd : M.down = false) (hw : M.wr ≤ 1099511627776) (i : Nat) (hi : i < M.n) :
    Calls Tryz.prog 30 #[devp b, .int .i64 (i : Int)] W fun e w' => e = .returned (.tuple #[str (M.cur i), .int .i64 0]) ∧ Law F n w w' b M js vs := h.step (held_read h.held hd hw i hi)
theorem law_max {jb rec : Nat} (h : Law F n w W b M js vs) (hj : (jb, rec) ∈ js) (h4 : 4 ≤ n) (h256 : n ≤ 256) :
    Calls Tryz.prog 10 #[devp jb] W fun e w' => e = .returned (.int .i64 (capL n : Int)) ∧ W = w' := max_any jb b F n rec W (h.jat _ hj) h4 h256
end
theorem puts_lit' (w : World) (s : Nat) (d : List UInt8) (n : Int) (hn : n = s) : Puts (w.alloc (.cells #[.int .i64 n, str d] 60)) (.slice (some ⟨w.heap.size, 0, none⟩) 1 1) (castL [(s, d)]) := by
  subst hn
  exact puts_lit w (s : Int) d
def exPut : PutL := [(20, secOf [97])]
theorem exFacts : whyL 32 2 8 (castL exPut) = 0 ∧ whyL 32 2 8 (castL [(9, secOf [97])]) = 40 ∧ capL 8 = 6 ∧ laid (fun _ => List.replicate 64 0) exPut 20 = secOf [97] := by
  decide +kernel
set_option maxRecDepth 100000 in
set_option maxHeartbeats 2000000 in
theorem jalive_any (w : World) : Calls Tryz.prog 8 #[] w fun e w' => e = .returned (.bool true) ∧ Below w.heap.size w w' := by
  obtain ⟨f1, f2, f3, f4⟩ := exFacts
  have g1 := Lib.hid f1
  have g2 := Lib.hid f2
  have g3 := Lib.hid f3
  have g4 := Lib.hid f4
  clear f1 f2 f3 f4
  go_enter Tryz.func8, Tryz.ntmps8
  go_wp2_with fail
  refine (law_new (F := 2) (n := 8) 32 (by decide) (by decide) w).mono ?_
  rintro e w1 ⟨b, rfl, hL⟩
  have H1 := Lib.hid hL
  clear hL
  go_wp2_with fail
  refine (law_open_new H1.out (by decide) (by decide) (by decide) (fun _ => rfl) rfl (by decide) (sta_new (n := 8) (F := 2) 32)).mono ?_
  rintro e w2 ⟨jb, rfl, hL⟩
  have H2 := Lib.hid hL
  clear hL H1
  go_wp2_with fail
  refine (jopen_nil 2 8 _).mono ?_
  rintro e w3 ⟨rfl, rfl⟩
  go_wp2_with fail
  refine (sector_any [97] _ (by decide)).mono ?_
  rintro e w3 ⟨rfl, hb⟩
  have H3 := Lib.hid (H2.out.below hb)
  clear hb H2
  go_wp2_with fail
  refine (law_commit_free (l := exPut) (g := 0) (H3.out.below ((Below.refl _ _).alloc (Nat.le_refl _) _)) (List.mem_cons_self ..) (puts_lit' w3 20 _ 20 rfl) (by decide) (by decide) (by decide) (by decide) g1.out (fun _ => rfl) (sta_new (n := 8) (F := 2) 32) (by decide) rfl rfl).mono ?_
  rintro e w4 ⟨rfl, M2, hL, hn, hd, hl, hc, hw, hS⟩
  have H4 := Lib.hid hL
  clear hL H3
  go_wp2_with fail
  refine (sector_any [97] _ (by decide)).mono ?_
  rintro e w5 ⟨rfl, hb⟩
  have H5 := Lib.hid (H4.out.below hb)
  clear hb H4
  go_wp2_with fail
  have hb6 := law_refused (l := castL [(9, secOf [97])]) (v := .slice (some ⟨w5.heap.size, 0, none⟩) 1 1) (H5.out.below ((Below.refl _ _).alloc (Nat.le_refl _) (.cells #[.int .i64 9, str (secOf [97])] 60))) (List.mem_cons_self ..) (puts_lit' w5 9 _ 9 rfl) (by decide) (by decide +kernel) (by decide) (by decide) (by decide) (by rw [hn]; show whyL 32 2 8 _ ≠ 0; rw [g2.out]; decide)
  rw [hn, show whyL (dev0 32).n 2 8 (castL [(9, secOf [97])]) = 40 from g2.out] at hb6
  refine hb6.mono ?_
  clear hb6
  rintro e w6 ⟨rfl, hL⟩
  have H6 := Lib.hid hL
  clear hL H5
  go_wp2_with fail
  refine (law_crash H6.out (by have : (dev0 32).wr = 0 := rfl; have : exPut.length = 1 := rfl; omega) [1, 1, 1] (by decide)).mono ?_
  rintro e w7 ⟨rfl, hL⟩
  have H7 := Lib.hid hL
  clear hL H6
  have hcd := crash_dur M2 hc [1, 1, 1]
  have hw7 : (M2.crash [1, 1, 1]).wr ≤ 1099511627776 := by show M2.wr ≤ _; have : (dev0 32).wr = 0 := rfl; have : exPut.length = 1 := rfl; omega
  have hr := law_read H7.out rfl hw7 20 (by show 20 < M2.n; rw [hn]; decide)
  rw [calm_cur _ (crash_calm M2 _), hcd, hS.out 20 ⟨by decide, by decide⟩, show laid (fun _ => List.replicate 64 0) exPut 20 = secOf [97] from g4.out] at hr
  have HR := Lib.hid hr
  clear hr
  go_wp2_with fail
  refine HR.out.mono ?_
  rintro e w8 ⟨rfl, hL⟩
  have H8 := Lib.hid hL
  clear hL H7 HR
  have hm := law_max H8.out (List.mem_cons_self ..) (by decide) (by decide)
  rw [g3.out] at hm
  have HM := Lib.hid hm
  clear hm
  go_wp2_with fail
  refine HM.out.mono ?_
  rintro e w9 ⟨rfl, rfl⟩
  clear HM
  go_wp2_with fail
  refine (sector_any [97] _ (by decide)).mono ?_
  rintro e w9 ⟨rfl, hb⟩
  have H9 := Lib.hid (H8.out.below hb)
  clear hb H8
  go_wp2_with fail
  refine (law_gen H9.out (List.mem_cons_self ..) (by show 2 < M2.n; rw [hn]; decide) hw7 (crash_calm M2 _) (by rw [hcd]; exact hS)).mono ?_
  rintro e w10 ⟨rfl, hL⟩
  have H10 := Lib.hid hL
  clear hL H9
  go_wp2_with fail
  go_ret
  exact ⟨rfl, H10.out.all⟩
end Go.Proofs.YtgkdabjflagnlaaGreat
