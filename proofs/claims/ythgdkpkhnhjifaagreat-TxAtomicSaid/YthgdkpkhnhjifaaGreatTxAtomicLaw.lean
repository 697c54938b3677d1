/- Layer 8 (tx): a transaction that was cut off. -/
import Derived.Test.YthgdkpkhnhjifaaGreatTxL7
namespace Go.Proofs.YthgdkpkhnhjifaaGreat
open Go.RowKit Go.Maps
set_option linter.unusedVariables false
set_option linter.unusedSimpArgs false
set_option maxRecDepth 10000
theorem byte8 {a : Int} (h : (Lit.int .u8 a).wf = true) : ∃ n : Nat, a = (n : Int) ∧ n < 256 := by
  have : 0 ≤ a ∧ a < 256 := by
    simp [Lit.wf, IntKind.min, IntKind.max, IntKind.signed, IntKind.bits] at h
    omega
  exact ⟨a.toNat, by omega, by omega⟩
/-- The things of this statement. -/
abbrev atRs (b jb tb rb : Nat) (v : Value) (L : PutL) : List Res := [devR b (dev0 40), jourR jb b 4 12 0, txR tb b jb 40 L, txtR v (secs 40 (dev0 40).cur), refR rb v L (capL 12)]
structure AtI (w W : World) (b jb tb rb : Nat) (v : Value) (L : PutL) : Prop where
  both : Both w W (atRs b jb tb rb v L) 2 0 1 4 3 tb b jb rb 0 v (dev0 40) L
  ours : oursB L = true
theorem AtI.below {w W : World} {b jb tb rb : Nat} {v : Value} {L : PutL} (h : AtI w W b jb tb rb v L) {W' : World} (hb : Below W.heap.size W W') : AtI w W' b jb tb rb v L := ⟨h.both.below hb, h.ours⟩
theorem at_write {w W : World} {b jb tb rb : Nat} {v : Value} {L : PutL} (h : AtI w W b jb tb rb v L) (k : Nat) (hk : 16 ≤ k) (s : List UInt8) (hs : s.length ≤ 140737488351232) :
    Calls Tryz.prog 24 #[devp tb, .int .i64 (k : Int), str s] W fun e w' => (∃ r, e = .returned (.int .i64 r)) ∧ ∃ L', oursB L' = true ∧ L' = wrL 40 (capL 12) L (k : Int) s ∧ Half w w' [devR b (dev0 40), jourR jb b 4 12 0, txR tb b jb 40 L', txtR v (secs 40 (dev0 40).cur), refR rb v L (capL 12)] 2 0 1 4 3 tb b jb rb 0 v (dev0 40) L L' :=
  (both_write h.both (k : Int) s hs).mono fun e w' hx => ⟨⟨_, hx.1⟩, _, ours_wr h.ours 40 (capL 12) k s hk, rfl, hx.2⟩
theorem at_write2 {w W : World} {b jb tb rb : Nat} {v : Value} {L L' : PutL} (h : Half w W [devR b (dev0 40), jourR jb b 4 12 0, txR tb b jb 40 L', txtR v (secs 40 (dev0 40).cur), refR rb v L (capL 12)] 2 0 1 4 3 tb b jb rb 0 v (dev0 40) L L') (ho : oursB L' = true) (k : Nat) (s : List UInt8) (hL : L' = wrL 40 (capL 12) L (k : Int) s) (hs : s.length ≤ 140737488351232) :
    Calls Tryz.prog 25 #[devp rb, .int .i64 (k : Int), str s] W fun e w' => (∃ r, e = .returned (.int .i64 r)) ∧ AtI w w' b jb tb rb v L' :=
  (half_write h (k : Int) s hs hL).mono fun e w' hx => ⟨⟨_, hx.1⟩, hx.2, ho⟩
set_option maxRecDepth 100000 in
set_option maxHeartbeats 4000000 in
theorem walk_TxAtomic' (w : World) (v : Value) (l : List TSt) (fuse : Nat) (keep : List UInt8) (hv : TSteps w v l) (hs : ∀ x ∈ l, fineT x) (hn : l.length ≤ maxLen) (hf : fuse < 256) (hk : keep.length ≤ 140737488351232) :
    Calls Tryz.prog 4 #[v, .int .u8 (fuse : Int), str keep] w fun e w' => e = .returned (.bool true) ∧ Below w.heap.size w w' := by
  have HLong := Lib.hid (long8_any v l w hv hs hn)
  unfold maxLen at hn
  obtain ⟨A, cp, rfl, hc⟩ := hv
  have HC := Lib.hid hc
  have HS := Lib.hid hs
  clear hc hs
  have alive : ∀ W, Below w.heap.size w W → Calls Tryz.prog 8 #[] W fun e w' => e = .returned (.bool true) ∧ Below w.heap.size w w' := fun W hW => (alive8_any W).mono fun e w' hx => ⟨hx.1, hW.trans (hx.2.mono hW.size)⟩
  have HAl := Lib.hid alive
  clear alive
  obtain ⟨kf, hkf, hkf60⟩ : ∃ kf : Nat, (fuse : Int) % 60 = (kf : Int) ∧ kf < 60 := ⟨fuse % 60, by omega, Nat.mod_lt _ (by decide)⟩
  go_enter Tryz.func4, Tryz.ntmps4
  go_wp2_with fail
  refine HLong.out.mono ?_
  rintro e w1 ⟨⟨r, rfl, hr⟩, rfl⟩
  cases r
  case true =>
    go_wp2_with fail
    refine (HAl.out _ (Below.refl _ _)).mono ?_
    rintro e w2 ⟨rfl, hb⟩
    have HB := Lib.hid hb
    clear hb
    go_wp2_with fail
    go_ret
    exact ⟨rfl, HB.out⟩
  have hl120 := hr rfl
  clear hr
  by_cases hk1000 : 1000 < keep.length
  · have d1 : decide ((1000 : Int) < (keep.length : Int)) = true := decide_eq_true (by omega)
    go_wp2_with fail
    refine (HAl.out _ (Below.refl _ _)).mono ?_
    rintro e w2 ⟨rfl, hb⟩
    have HB := Lib.hid hb
    clear hb
    go_wp2_with fail
    go_ret
    exact ⟨rfl, HB.out⟩
  have d1 : decide ((1000 : Int) < (keep.length : Int)) = false := decide_eq_false (by omega)
  go_wp2_with fail
  refine (sys_made (Sys.start w) 40 (by decide) (by decide)).mono ?_
  rintro e w2 ⟨b, jb, rfl, h2⟩
  have H2 := Lib.hid (show Sys w w2 [devR b (dev0 40), jourR jb b 4 12 0] from h2)
  clear h2
  go_wp2_with fail
  refine (sys_begin H2.out b jb 40 (by decide)).mono ?_
  rintro e w3 ⟨tb, rfl, h3⟩
  have H3 := Lib.hid (show Sys w w3 [devR b (dev0 40), jourR jb b 4 12 0, txR tb b jb 40 []] from h3)
  clear h3 H2
  go_wp2_with fail
  refine (sys_sectors (i := 0) H3.out rfl rfl (Nat.zero_le _) 40 rfl).mono ?_
  rintro e w4 ⟨v1, rfl, h4⟩
  have H4 := Lib.hid (show Sys w w4 [devR b (dev0 40), jourR jb b 4 12 0, txR tb b jb 40 [], txtR v1 (secs 40 (dev0 40).cur)] from h4)
  clear h4 H3
  obtain ⟨A1, cp1, rfl⟩ := H4.out.row (i := 3) rfl
  go_wp2_with fail
  refine (sys_max (j := 1) H4.out rfl (by decide) (by decide)).mono ?_
  rintro e w4 ⟨rfl, rfl⟩
  have hr0 := ref_new H4.out (.slice A1 40 cp1) (capL 12)
  obtain ⟨rb, hrb⟩ : ∃ rb, rb = w4.heap.size := ⟨_, rfl⟩
  rw [← hrb] at hr0
  have h5 : AtI w (w4.alloc (.cells #[(.slice A1 40 cp1), .slice none 0 0, .int .i64 (capL 12 : Int), .bool false] 39)) b jb tb rb (.slice A1 40 cp1) [] := ⟨⟨⟨hr0, rfl, rfl, rfl, by decide, by decide, by decide, rfl, Nat.zero_le _, by decide, by decide, WrOk.nil _ _⟩, ⟨hr0, rfl, rfl, by decide, by decide, by decide, WrOk.nil _ _, fun i hi => (H4.out.fine (i := 0) (M := dev0 40) rfl).cur hi⟩, by decide, by decide, by decide, by decide⟩, rfl⟩
  have H5 := Lib.hid h5
  clear h5 hr0
  go_wp2_with fail
  rw [← hrb]
  clear hrb H4
  go_loopw [13] (fun q wr => ∃ (k : Nat) (L : PutL), k ≤ l.length ∧ q = .int .i64 k ∧ AtI w wr b jb tb rb (.slice A1 40 cp1) L) (fun q _ => l.length - (intOf q).toNat)
  case atStart => exact ⟨0, _, Nat.zero_le _, rfl, H5.out⟩
  case round =>
    clear H5
    obtain ⟨k, L, hk, rfl, hI⟩ := hrel
    have HI := Lib.hid hI
    clear hI
    by_cases hlt : k < l.length
    · obtain ⟨a, rfl, x0, x1, x2, x3, x4⟩ := HC.out k _ (List.getElem?_eq_getElem hlt)
      have hfine := (HS.out l[k] (List.getElem_mem _)).1
      have y1 := (HI.out.both.tx.sys.all.cell (World.block_lt_of_cell? w _ x1)).trans x1
      have y3 := (HI.out.both.tx.sys.all.cell (World.block_lt_of_cell? w _ x3)).trans x3
      unfold behind at y1 y3
      clear x0 x1 x2 x3 x4
      generalize l[k] = x at *
      obtain ⟨dv, xn, xf, s, raw⟩ := x
      simp only at y1 y3 hfine
      have hI2 : (k : Int) < (l.length : Int) := by omega
      have HT := Lib.hid (show ∀ V, Calls Tryz.prog 23 #[.agg #[.int .i64 0, .int .i64 0, .int .i64 0, str s, .bool false]] V fun e w' => e = .returned (str (fullT s)) ∧ Below V.heap.size V w' from fun V => text_any ⟨0, 0, 0, s, false⟩ V hfine)
      have hfl := fullT_length s
      generalize fullT s = tx at *
      obtain ⟨hnn, hn16, hn40⟩ := secN_any xn
      generalize secN xn = nn at *
      go_wp2_with fail
      refine (HT.out _).mono ?_
      rintro e w6 ⟨rfl, hb⟩
      have H6 := Lib.hid (HI.out.below hb)
      clear hb
      go_wp2_with fail
      refine (at_write H6.out nn hn16 tx (by omega)).mono ?_
      rintro e w7 ⟨⟨e1, rfl⟩, L', ho, hL', h7⟩
      have H7 := Lib.hid h7
      have HL' := Lib.hid hL'
      have HO := Lib.hid ho
      clear h7 hL' ho H6
      go_wp2_with fail
      refine (at_write2 H7.out HO.out nn tx HL'.out (by omega)).mono ?_
      rintro e w8 ⟨⟨e2, rfl⟩, h8⟩
      have H8 := Lib.hid h8
      clear h8 H7
      go_wp2_with fail
      go_roundw
      case rel => exact ⟨k + 1, L', by omega, by simp, H8.out⟩
      case measure => simp [intOf]; omega
    · obtain rfl : k = l.length := by omega
      have hR : Rest (dev0 40) 0 := Rest.new 40
      have ho := HI.out.ours
      have hok := HI.out.both.tx.ok
      have hcur : (dev0 40).cur = (dev0 40).dur := hR.cur
      have HR := Lib.hid hR
      have HO := Lib.hid ho
      have HK := Lib.hid hok
      have hmod : (fuse : Int).tmod 60 = (kf : Int) := by rw [Int.tmod_eq_emod_of_nonneg (by omega)]; exact hkf
      clear hR ho hok
      go_wp2_with fail
      refine (sys_sectors (i := 0) HI.out.both.tx.sys rfl rfl (Nat.zero_le _) 40 rfl).mono ?_
      rintro e w6 ⟨v2, rfl, h6⟩
      have H6 := Lib.hid (show Sys w w6 [devR b (dev0 40), jourR jb b 4 12 0, txR tb b jb 40 L, txtR (.slice A1 40 cp1) (secs 40 (dev0 40).cur), refR rb (.slice A1 40 cp1) L (capL 12), txtR v2 (secs 40 (dev0 40).cur)] from h6)
      clear h6
      obtain ⟨A2, cp2, rfl⟩ := H6.out.row (i := 5) rfl
      go_wp2_with fail
      refine (outside_any 40 _ _ _ _ _ (H6.out.mem (i := 3) rfl) (H6.out.mem (i := 5) rfl) (by decide)).mono ?_
      rintro e w7 ⟨⟨r, rfl, hr⟩, hb⟩
      obtain rfl := hr fun i _ _ => rfl
      have H7 := Lib.hid (H6.out.below hb)
      clear hb hr H6
      go_wp2_with fail
      refine (sys_refCommit (r := 4) (q := 3) ⟨H7.out, rfl, rfl, by decide, by decide, by decide, HK.out, fun i hi => (H7.out.fine (i := 0) (M := dev0 40) rfl).cur hi⟩ (by decide)).mono ?_
      rintro e w8 ⟨v3, rfl, h8⟩
      have H8 := Lib.hid (show Sys w w8 [devR b (dev0 40), jourR jb b 4 12 0, txR tb b jb 40 L, txtR (.slice A1 40 cp1) (secs 40 (dev0 40).cur), deadR rb, txtR (.slice A2 40 cp2) (secs 40 (dev0 40).cur), txtR v3 (secs 40 (laid (dev0 40).cur L))] from h8)
      clear h8 H7
      obtain ⟨A3, cp3, rfl⟩ := H8.out.row (i := 6) rfl
      go_wp2_with fail
      refine (sys_fuse (i := 0) H8.out rfl kf (by omega)).mono ?_
      rintro e w9 ⟨rfl, h9⟩
      have H9 := Lib.hid (show Sys w w9 [devR b ((dev0 40).fuse kf), jourR jb b 4 12 0, txR tb b jb 40 L, txtR (.slice A1 40 cp1) (secs 40 (dev0 40).cur), deadR rb, txtR (.slice A2 40 cp2) (secs 40 (dev0 40).cur), txtR (.slice A3 40 cp3) (secs 40 (laid (dev0 40).cur L))] from h9)
      clear h9 H8
      go_wp2_with fail
      refine (fuse_commit (t := 2) (i := 0) (j := 1) (M := dev0 40) (k := kf) H9.out rfl rfl rfl (by decide) (by decide) (by decide) HR.out HK.out HO.out (by decide) (by decide) (by decide)).mono ?_
      rintro e w10 ⟨r1, E, M1, rfl, h10, hn1, hw1, hor⟩
      have H10 := Lib.hid (show Sys w w10 [devR b M1, jourR jb b 4 12 0, doneR tb, txtR (.slice A1 40 cp1) (secs 40 (dev0 40).cur), deadR rb, txtR (.slice A2 40 cp2) (secs 40 (dev0 40).cur), txtR (.slice A3 40 cp3) (secs 40 (laid (dev0 40).cur L))] from h10)
      have HOr := Lib.hid hor
      rw [show (dev0 40).n = 40 from rfl] at hn1
      clear h10 H9 hor
      go_wp2_with fail
      refine (sys_crash (i := 0) H10.out rfl (by omega) keep (by omega)).mono ?_
      rintro e w11 ⟨rfl, h11⟩
      have H11 := Lib.hid (show Sys w w11 [devR b (M1.crash keep), jourR jb b 4 12 0, doneR tb, txtR (.slice A1 40 cp1) (secs 40 (dev0 40).cur), deadR rb, txtR (.slice A2 40 cp2) (secs 40 (dev0 40).cur), txtR (.slice A3 40 cp3) (secs 40 (laid (dev0 40).cur L))] from h11)
      clear h11 H10
      have hcn : (M1.crash keep).n = 40 := hn1
      have hcw : (M1.crash keep).wr = M1.wr := rfl
      rcases HOr.out with ⟨rfl, hcalm, hpend, hdur⟩ | ⟨rfl, hTr, hcap, hwhy, hA⟩
      · have hcd := crash_dur M1 hcalm keep
        have hcc := crash_calm M1 keep
        have hsame : ∀ i, i < 40 → (i < 4 ∨ 16 ≤ i) → (M1.crash keep).cur i = laid (dev0 40).cur L i := fun i h1 h2 => by
          rw [calm_cur _ hcc, hcd, hcur]
          exact hdur i h1 h2
        have HSame := Lib.hid hsame
        have hp2 : (hd ((M1.crash keep).cur 4)).pend = false := by rw [calm_cur _ hcc, hcd]; exact hpend
        have HP := Lib.hid hp2
        have hup : (M1.crash keep).down = false := rfl
        clear hsame hdur hpend hcalm hcd hcc hp2 HOr hcur
        generalize M1.crash keep = M2 at *
        go_wp2_with fail
        refine (sys_open (i := 0) H11.out rfl 4 12 (by decide) (by decide) (by omega) hup (by omega) HP.out).mono ?_
        rintro e w12 ⟨jb2, rfl, h12⟩
        have H12 := Lib.hid h12
        clear h12
        go_wp2_with fail
        refine (sys_sectors (i := 0) H12.out rfl hup (by omega) 40 hcn).mono ?_
        rintro e w13 ⟨v4, rfl, h13⟩
        have H13 := Lib.hid (show Sys w w13 [devR b M2, jourR jb b 4 12 0, doneR tb, txtR (.slice A1 40 cp1) (secs 40 (dev0 40).cur), deadR rb, txtR (.slice A2 40 cp2) (secs 40 (dev0 40).cur), txtR (.slice A3 40 cp3) (secs 40 (laid (dev0 40).cur L)), jourR jb2 b 4 12 0, txtR v4 (secs 40 M2.cur)] from h13)
        clear h13 H12 H11
        obtain ⟨A4, cp4, rfl⟩ := H13.out.row (i := 8) rfl
        go_wp2_with fail
        refine (outside_any 40 _ _ _ _ _ (H13.out.mem (i := 8) rfl) (H13.out.mem (i := 6) rfl) (by decide)).mono ?_
        rintro e w14 ⟨⟨r, rfl, hr⟩, hb⟩
        obtain rfl := hr HSame.out
        have H14 := Lib.hid (H13.out.below hb)
        clear hb hr H13
        go_wp2_with fail
        refine (HAl.out _ H14.out.all).mono ?_
        rintro e w15 ⟨rfl, hb⟩
        have HB := Lib.hid hb
        clear hb H14
        go_wp2_with fail
        go_ret
        exact ⟨rfl, HB.out⟩
      · have hcc := crash_calm M1 keep
        have hAk := hA keep
        have hup : (M1.crash keep).down = false := rfl
        have hlf : (M1.crash keep).left = 0 := rfl
        rw [show (dev0 40).n = 40 from rfl] at hTr hwhy hAk
        have hop := fun (W : World) (h : Sys w W [devR b (M1.crash keep), jourR jb b 4 12 0, doneR tb, txtR (.slice A1 40 cp1) (secs 40 (dev0 40).cur), deadR rb, txtR (.slice A2 40 cp2) (secs 40 (dev0 40).cur), txtR (.slice A3 40 cp3) (secs 40 (laid (dev0 40).cur L))]) =>
          sys_open_any (i := 0) (g := 0) (f := (dev0 40).dur) (L := lastL L) (M := M1.crash keep) h rfl (by rw [hcn]; exact hTr) hcap (by rw [hcn]; exact hwhy) (by decide) (by decide) hcc hup hlf (by omega) (by rw [hcn]; exact hAk) (by decide)
        have HOp := Lib.hid hop
        clear hop hA hAk hTr hwhy hcap hcc HOr
        generalize M1.crash keep = M2 at *
        go_wp2_with fail
        refine (HOp.out _ H11.out).mono ?_
        rintro e w12 ⟨jb2, M3, rec2, g2, f2, rfl, h12, hn3, hw3, hup3, hc3, hS3, hor3⟩
        have H12 := Lib.hid h12
        rw [hcn] at hn3 hS3
        have hcase : (∀ i, i < 40 → (i < 4 ∨ 16 ≤ i) → M3.cur i = laid (dev0 40).cur L i) ∨ (∀ i, i < 40 → (i < 4 ∨ 16 ≤ i) → M3.cur i = (dev0 40).cur i) := by
          rcases hor3 with ⟨-, e⟩ | ⟨-, e⟩
          · refine .inr fun i h1 h2 => ?_
            rw [calm_cur _ hc3, hS3.out i ⟨h1, by omega⟩, e, hcur]
          · refine .inl fun i h1 h2 => ?_
            rw [calm_cur _ hc3, hS3.out i ⟨h1, by omega⟩, e, laid_lastL, hcur]
        have HCase := Lib.hid hcase
        clear h12 hS3 hor3 hcase HOp hc3
        go_wp2_with fail
        refine (sys_sectors (i := 0) H12.out rfl hup3 (by omega) 40 hn3).mono ?_
        rintro e w13 ⟨v4, rfl, h13⟩
        have H13 := Lib.hid (show Sys w w13 [devR b M3, jourR jb b 4 12 0, doneR tb, txtR (.slice A1 40 cp1) (secs 40 (dev0 40).cur), deadR rb, txtR (.slice A2 40 cp2) (secs 40 (dev0 40).cur), txtR (.slice A3 40 cp3) (secs 40 (laid (dev0 40).cur L)), jourR jb2 b 4 12 rec2, txtR v4 (secs 40 M3.cur)] from h13)
        clear h13 H12 H11
        obtain ⟨A4, cp4, rfl⟩ := H13.out.row (i := 8) rfl
        go_wp2_with fail
        refine (outside_any 40 _ _ _ _ _ (H13.out.mem (i := 8) rfl) (H13.out.mem (i := 6) rfl) (by decide)).mono ?_
        rintro e w14 ⟨⟨r, rfl, hr⟩, hb⟩
        have H14 := Lib.hid (H13.out.below hb)
        have HRr := Lib.hid hr
        clear hb hr H13
        cases r
        · have hwas := HCase.out.resolve_left fun h => by have := HRr.out h; cases this
          have HWas := Lib.hid hwas
          clear hwas
          go_wp2_with fail
          refine (outside_any 40 _ _ _ _ _ (H14.out.mem (i := 8) rfl) (H14.out.mem (i := 3) rfl) (by decide)).mono ?_
          rintro e w15 ⟨⟨r, rfl, hr⟩, hb⟩
          obtain rfl := hr HWas.out
          have H15 := Lib.hid (H14.out.below hb)
          clear hb hr H14
          go_wp2_with fail
          refine (HAl.out _ H15.out.all).mono ?_
          rintro e w16 ⟨rfl, hb⟩
          have HB := Lib.hid hb
          clear hb H15
          go_wp2_with fail
          go_ret
          exact ⟨rfl, HB.out⟩
        · go_wp2_with fail
          refine (HAl.out _ H14.out.all).mono ?_
          rintro e w16 ⟨rfl, hb⟩
          have HB := Lib.hid hb
          clear hb H14
          go_wp2_with fail
          go_ret
          exact ⟨rfl, HB.out⟩
theorem walk_TxAtomic (W : World) (v0 : Value) (a0 : List TSt) (a1 : Int) (a2 : ByteArray) (w0 : TSteps W v0 a0) (y0 : ∀ x ∈ a0, fineT x) (z0 : a0.length ≤ maxLen) (w1 : (Lit.int .u8 a1).wf = true) (z2 : a2.size ≤ 140737488351232) :
    Calls Tryz.prog 4 #[v0, .int .u8 a1, .string a2] W fun e w' => e = .returned (.bool true) ∧ Below W.heap.size W w' := by
  obtain ⟨n, rfl, hn⟩ := byte8 w1
  rw [str_of a2]
  exact walk_TxAtomic' W v0 a0 n a2.data.toList w0 y0 z0 hn (by simpa using z2)
end Go.Proofs.YthgdkpkhnhjifaaGreat
