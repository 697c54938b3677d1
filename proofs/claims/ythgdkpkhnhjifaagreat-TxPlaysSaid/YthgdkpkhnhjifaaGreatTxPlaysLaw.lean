/- Layer 8 (tx): transactions one behind the other. -/
import Derived.Test.YthgdkpkhnhjifaaGreatTxL8
namespace Go.Proofs.YthgdkpkhnhjifaaGreat
open Go.RowKit Go.Maps
set_option linter.unusedVariables false
set_option linter.unusedSimpArgs false
set_option maxRecDepth 10000
section
variable {w W : World} {rs : List Res}
/-- Some of the things, in an order of one's own. -/
theorem Sys.pick (h : Sys w W rs) (is : List Nat) (hn : is.Nodup) (qs : List Res) (hl : qs.length = is.length) (hq : ∀ j (hj : j < is.length), qs[j]? = rs[is[j]]?) : Sys w W qs := by
  obtain ⟨S, h⟩ := h
  have hget : ∀ j, j < is.length → is.getD j 0 = is[j]! := fun j hj => by simp [hj]
  have hlt : ∀ j (hj : j < is.length), is[j] < rs.length := fun j hj => by
    have h1 := hq j hj
    rw [List.getElem?_eq_getElem (by omega)] at h1
    exact idx_lt h1.symm
  have hS : ∀ j (hj : j < is.length), S (is.getD j 0) = S is[j] := fun j hj => by rw [List.getD_eq_getElem?_getD, List.getElem?_eq_getElem hj]; rfl
  refine ⟨fun j => S (is.getD j 0), h.keeps, fun j r hj => ?_, fun j hj k hk => ?_, fun a b ha hb hne k hk hk2 => ?_⟩
  · have hjl : j < is.length := by have := idx_lt hj; omega
    rw [hS j hjl]
    exact h.at_ _ _ ((hq j hjl).symm.trans hj)
  · have hjl : j < is.length := by omega
    rw [hS j hjl] at hk
    exact h.new _ (hlt j hjl) k hk
  · have h1 : a < is.length := by omega
    have h2 : b < is.length := by omega
    rw [hS a h1] at hk
    rw [hS b h2] at hk2
    refine h.apart _ _ (hlt a h1) (hlt b h2) (fun e => hne ?_) k hk hk2
    have hp := List.pairwise_iff_getElem.1 (List.nodup_iff_pairwise_ne.1 hn)
    rcases Nat.lt_or_gt_of_ne hne with h3 | h3
    · exact absurd e (hp a b h1 h2 h3)
    · exact absurd e.symm (hp b a h2 h1 h3)
theorem list5 {rs : List Res} {a b c d e : Res} (hl : rs.length = 5) (h0 : rs[0]? = some a) (h1 : rs[1]? = some b) (h2 : rs[2]? = some c) (h3 : rs[3]? = some d) (h4 : rs[4]? = some e) : rs = [a, b, c, d, e] := by
  apply List.ext_getElem?
  intro i
  match i with
  | 0 => exact h0
  | 1 => exact h1
  | 2 => exact h2
  | 3 => exact h3
  | 4 => exact h4
  | i + 5 => rw [List.getElem?_eq_none (by omega)]; rfl
theorem ref_on {r rb most : Nat} {v : Value} {L : PutL} (h : Sys w W rs) (hr : rs[r]? = some (refR rb v L most)) : ∃ A c, RefIn W rb v (.slice A L.length c) L most := by
  obtain ⟨S, ⟨u, hR, -⟩, -⟩ := h.use hr
  obtain ⟨A, c, rfl, -⟩ := hR.row
  exact ⟨A, c, hR⟩
theorem Sys.row1 (h : Sys w W rs) {i N : Nat} {v : Value} {f : Nat → List UInt8} (hi : rs[i]? = some (txtR v (secs N f))) (hN : 0 < N) : ∃ g c, v = .slice (some ⟨g, 0, none⟩) N c := by
  obtain ⟨A, c, e, hc⟩ := Txt.at (h.mem hi)
  obtain ⟨g, rfl, -⟩ := hc 0 (by rw [secs_length]; exact hN)
  rw [secs_length] at e
  exact ⟨g, c, e⟩
end
/-- The things of this statement. -/
abbrev plRs (n b jb tb rb : Nat) (v : Value) (M : Dv) (L : PutL) : List Res := [devR b M, jourR jb b 4 12 0, txR tb b jb n L, txtR v (secs n M.cur), refR rb v L (capL 12)]
/-- What a round keeps. -/
structure PlI (w W : World) (n b jb tb rb : Nat) (v : Value) (M : Dv) (g : Nat) (L : PutL) (k : Nat) : Prop where
  sys : Sys w W (plRs n b jb tb rb v M L)
  ok : WrOk n (capL 12) L
  rest : Rest M g
  hn : M.n = n
  gk : g ≤ k
  wk : M.wr ≤ 100 * k
section
variable {w W : World} {n b jb tb rb g k : Nat} {v : Value} {M : Dv} {L : PutL}
theorem PlI.both (h : PlI w W n b jb tb rb v M g L k) (h60 : n ≤ 60) (hk : k ≤ 1000) : Both w W (plRs n b jb tb rb v M L) 2 0 1 4 3 tb b jb rb 0 v M L := by
  obtain ⟨hs, hok, hr, rfl, hg, hw⟩ := h
  exact ⟨⟨hs, rfl, rfl, rfl, by decide, by decide, by decide, hr.up, by omega, by decide, by decide, hok⟩, ⟨hs, rfl, rfl, by decide, by omega, by decide, hok, fun i hi => (hs.fine (i := 0) rfl).cur hi⟩, by decide, by decide, by decide, by decide⟩
theorem PlI.below (h : PlI w W n b jb tb rb v M g L k) {W' : World} (hb : Below W.heap.size W W') : PlI w W' n b jb tb rb v M g L k := { h with sys := h.sys.below hb }
theorem pl_does (h : PlI w W n b jb tb rb v M g L k) (h60 : n ≤ 60) (hk : k ≤ 1000) (x : TSt) (hs : x.s.length ≤ 140737488351232) :
    Calls Tryz.prog 14 #[devp tb, devp rb, x.v] W fun e w' => e = .returned (.bool true) ∧ ∃ L', PlI w w' n b jb tb rb v M g L' (k + 1) := by
  refine (does_any (h.both h60 hk) x hs).mono ?_
  rintro e w' ⟨rfl, L', rs', hB, hl, hsame⟩
  have hn := h.hn
  have ht := hB.tx.ht
  rw [hn] at ht
  have hrs : rs' = plRs n b jb tb rb v M L' := list5 hl hB.tx.hi hB.tx.hj ht (hsame 3 (by decide) (by decide)) hB.ref.hr
  have hok := hB.tx.ok
  rw [hn] at hok
  have hsy := hB.tx.sys
  rw [hrs] at hsy
  exact ⟨rfl, L', hsy, hok, h.rest, hn, by have := h.gk; omega, by have := h.wk; omega⟩
theorem pl_touched (h : PlI w W n b jb tb rb v M g L k) (h60 : n ≤ 60) (hk : k ≤ 1000) : Calls Tryz.prog 15 #[devp tb, devp rb] W fun e w' => e = .returned (.bool true) ∧ PlI w w' n b jb tb rb v M g L k := by
  refine (touched8_any (h.both h60 hk)).mono ?_
  rintro e w' ⟨rfl, hB⟩
  exact ⟨rfl, { h with sys := hB.tx.sys }⟩
theorem pl_tx (h : PlI w W n b jb tb rb v M g L k) (h60 : n ≤ 60) (hk : k ≤ 1000) : TxSys w W (plRs n b jb tb rb v M L) 2 0 1 tb b jb 4 12 0 M L := (h.both h60 hk).tx
theorem pl_gen (h : PlI w W n b jb tb rb v M g L k) (h20 : 20 ≤ n) (hk : k ≤ 1000) : Calls Tryz.prog 16 #[devp jb] W fun e w' => e = .returned (.int .u64 (g : Int)) ∧ Below W.heap.size W w' := by
  obtain ⟨K, ⟨-, S, hS, -⟩, -⟩ := h.sys.dev (i := 0) rfl
  have := gen_any jb 4 12 0 hS (h.sys.mem (i := 1) rfl) (by rw [h.hn]; omega) (by have := h.wk; omega)
  rw [h.rest.head] at this
  exact this
end
/-! The walk (tools/gentxplays.py). -/
theorem gen_at {w W : World} {rs : List Res} {b jb g : Nat} {M : Dv} (h : Sys w W rs) (hi : rs[0]? = some (devR b M)) (hj : rs[1]? = some (jourR jb b 4 12 0)) (hR : Rest M g) (hn : 20 ≤ M.n) (hw : M.wr ≤ 1099511627776) :
    Calls Tryz.prog 16 #[devp jb] W fun e w' => e = .returned (.int .u64 (g : Int)) ∧ Below W.heap.size W w' := by
  obtain ⟨K, ⟨-, S, hS, -⟩, -⟩ := h.dev hi
  have := gen_any jb 4 12 0 hS (h.mem hj) (by omega) hw
  rw [hR.head] at this
  exact this
theorem slice_nil (g n c : Nat) (W : World) : (binOp BinOp.eql 33 (.slice (some ⟨g, 0, none⟩) n c) (.slice none 0 0)).run Tryz.prog W = .ok (.bool false) W := by kernel_rfl
set_option maxRecDepth 100000 in
set_option maxHeartbeats 8000000 in
theorem walk_TxPlays (w : World) (a0 : Int) (v : Value) (l : List TSt) (hw0 : (Lit.int .i64 a0).wf = true) (hv : TSteps w v l) (hs : ∀ x ∈ l, fineT x) (hnl : l.length ≤ maxLen) :
    Calls Tryz.prog 3 #[.int .i64 a0, v] w fun e w' => e = .returned (.bool true) ∧ Below w.heap.size w w' := by
  clear hw0
  have HLong := Lib.hid (long8_any v l w hv hs hnl)
  unfold maxLen at hnl
  obtain ⟨A, cp, rfl, hc⟩ := hv
  have HC := Lib.hid hc
  have HS := Lib.hid hs
  clear hc hs
  have alive : ∀ W, Below w.heap.size w W → Calls Tryz.prog 8 #[] W fun e w' => e = .returned (.bool true) ∧ Below w.heap.size w w' := fun W hW => (alive8_any W).mono fun e w' hx => ⟨hx.1, hW.trans (hx.2.mono hW.size)⟩
  have HAl := Lib.hid alive
  clear alive
  go_enter Tryz.func3, Tryz.ntmps3
  go_wp2_with fail
  refine HLong.out.mono ?_
  rintro e w1 ⟨⟨r, rfl, hr⟩, rfl⟩
  cases r
  case true =>
    go_wp2_with fail
    refine (HAl.out _ (Below.refl _ _)).mono ?_
    rintro e w2 ⟨rfl, hb⟩
    have HB := Lib.hid hb
    clear hb
    go_wp2_with fail
    go_ret
    exact ⟨rfl, HB.out⟩
  have hl120 := hr rfl
  clear hr
  by_cases h20 : a0 < 20
  · have d1 : decide (a0 < 20) = true := decide_eq_true h20
    go_wp2_with fail
    refine (HAl.out _ (Below.refl _ _)).mono ?_
    rintro e w2 ⟨rfl, hb⟩
    have HB := Lib.hid hb
    clear hb
    go_wp2_with fail
    go_ret
    exact ⟨rfl, HB.out⟩
  have d1 : decide (a0 < 20) = false := decide_eq_false h20
  by_cases h60 : 60 < a0
  · have d2 : decide (60 < a0) = true := decide_eq_true h60
    go_wp2_with fail
    refine (HAl.out _ (Below.refl _ _)).mono ?_
    rintro e w2 ⟨rfl, hb⟩
    have HB := Lib.hid hb
    clear hb
    go_wp2_with fail
    go_ret
    exact ⟨rfl, HB.out⟩
  have d2 : decide (60 < a0) = false := decide_eq_false h60
  obtain ⟨n, rfl, n20, n60⟩ : ∃ n : Nat, a0 = (n : Int) ∧ 20 ≤ n ∧ n ≤ 60 := ⟨a0.toNat, by omega, by omega, by omega⟩
  clear h20 h60
  go_wp2_with fail
  refine (sys_made (Sys.start w) n (by omega) (by omega)).mono ?_
  rintro e w2 ⟨b, jb, rfl, h2⟩
  have H2 := Lib.hid (show Sys w w2 [devR b (dev0 n), jourR jb b 4 12 0] from h2)
  clear h2
  go_wp2_with fail
  refine (sys_begin H2.out b jb n (by omega)).mono ?_
  rintro e w3 ⟨tb0, rfl, h3⟩
  have H3 := Lib.hid (show Sys w w3 [devR b (dev0 n), jourR jb b 4 12 0, txR tb0 b jb n []] from h3)
  clear h3 H2
  go_wp2_with fail
  refine (nothing_any _).mono ?_
  rintro e w4 ⟨rfl, hb⟩
  have H4 := Lib.hid (H3.out.below hb)
  clear hb H3
  go_wp2_with fail
  refine (sys_sectors (i := 0) H4.out rfl rfl (Nat.zero_le _) n rfl).mono ?_
  rintro e w5 ⟨v1, rfl, h5⟩
  have H5 := Lib.hid (show Sys w w5 [devR b (dev0 n), jourR jb b 4 12 0, txR tb0 b jb n [], txtR v1 (secs n (dev0 n).cur)] from h5)
  clear h5 H4
  obtain ⟨gn, cn, rfl⟩ := H5.out.row1 (i := 3) rfl (by omega)
  go_wp2_with fail
  refine (sys_max (j := 1) H5.out rfl (by decide) (by decide)).mono ?_
  rintro e w5 ⟨rfl, rfl⟩
  have hr0 := ref_new H5.out (.slice (some ⟨gn, 0, none⟩) n cn) (capL 12)
  have h6 : PlI w (w5.alloc (.cells #[.slice (some ⟨gn, 0, none⟩) n cn, .slice none 0 0, .int .i64 (capL 12 : Int), .bool false] 39)) n b jb tb0 w5.heap.size (.slice (some ⟨gn, 0, none⟩) n cn) (dev0 n) 0 [] 0 := ⟨hr0, WrOk.nil _ _, Rest.new n, rfl, Nat.le_refl _, Nat.le_refl _⟩
  have H6 := Lib.hid h6
  clear h6 hr0 H5
  go_wp2_with fail
  go_loopw [7, 9, 10, 11] (fun vt vnow vr q wr => ∃ (k tb rb g gn cn : Nat) (M : Dv) (L : PutL), k ≤ l.length ∧ vt = devp tb ∧ vnow = .slice (some ⟨gn, 0, none⟩) n cn ∧ vr = devp rb ∧ q = .int .i64 k ∧ PlI w wr n b jb tb rb (.slice (some ⟨gn, 0, none⟩) n cn) M g L k) (fun _ _ _ q _ => l.length - (intOf q).toNat)
  case atStart => exact ⟨0, _, _, _, _, _, _, _, Nat.zero_le _, rfl, rfl, rfl, rfl, H6.out⟩
  case round =>
    clear H6
    obtain ⟨k, tb, rb, g, gn, cn, M, L, hk, rfl, rfl, rfl, rfl, hI⟩ := hrel
    have HI := Lib.hid hI
    have hMn := hI.hn
    have hgk := hI.gk
    have hwk := hI.wk
    have HRest := Lib.hid hI.rest
    have HOk := Lib.hid hI.ok
    have hgenM : (M.headOf 4).gen = g := by rw [hI.rest.head]
    have HEach := Lib.hid (show ∀ i, i < n → (M.cur i).length = 64 from fun i hi => (hI.sys.fine (i := 0) rfl).cur (by rw [hMn]; exact hi))
    clear hI
    by_cases hlt : k < l.length
    · obtain ⟨a, rfl, x0, x1, x2, x3, x4⟩ := HC.out k _ (List.getElem?_eq_getElem hlt)
      have hfine := (HS.out l[k] (List.getElem_mem _)).1
      have y0 := (HI.out.sys.all.cell (World.block_lt_of_cell? w _ x0)).trans x0
      have y1 := (HI.out.sys.all.cell (World.block_lt_of_cell? w _ x1)).trans x1
      have y2 := (HI.out.sys.all.cell (World.block_lt_of_cell? w _ x2)).trans x2
      have y3 := (HI.out.sys.all.cell (World.block_lt_of_cell? w _ x3)).trans x3
      have y4 := (HI.out.sys.all.cell (World.block_lt_of_cell? w _ x4)).trans x4
      unfold behind at y1 y2 y3 y4
      clear x0 x1 x2 x3 x4
      generalize l[k] = x at *
      obtain ⟨dv, xn, xf, s, raw⟩ := x
      simp only at y0 y1 y2 y3 y4 hfine
      have hI2 : (k : Int) < (l.length : Int) := by omega
      have k0 : (wr.alloc (.cells #[.int .i64 dv, .int .i64 xn, .int .i64 xf, str s, .bool raw] 41)).cell? ⟨wr.heap.size, 0, none⟩ = some (.int .i64 dv) := cell_of_row _ _ 0 _ _ _ (heap_alloc_new wr _)
      by_cases hd3 : dv = 3
      · subst hd3
        by_cases hne : L = []
        · subst hne
          go_wp2_with fail
          refine (pl_gen (HI.out.below ((Below.refl _ wr).alloc (Nat.le_refl _) _)) n20 (by omega)).mono ?_
          rintro e w6 ⟨rfl, hb⟩
          have q0 := (hb.cell (p := ⟨wr.heap.size, 0, none⟩) (by simp)).trans k0
          have H6 := Lib.hid ((HI.out.below ((Below.refl _ wr).alloc (Nat.le_refl _) _)).below hb)
          clear hb HI
          go_wp2_with fail
          refine (sys_txCommit_nil (t := 2) (i := 0) (j := 1) H6.out.sys rfl rfl rfl (by decide) (by decide) (by omega) (by omega)).mono ?_
          rintro e w7 ⟨rfl, h7⟩
          have H7 := Lib.hid (show Sys w w7 [devR b M, jourR jb b 4 12 0, doneR tb, txtR (.slice (some ⟨gn, 0, none⟩) n cn) (secs n M.cur), refR rb (.slice (some ⟨gn, 0, none⟩) n cn) [] (capL 12)] from h7)
          rw [hgenM]
          clear h7 H6
          obtain ⟨A1, c1, hR1⟩ := ref_on (r := 4) H7.out rfl
          have kk := hR1.c1
          have HRf := Lib.hid hR1
          rw [List.length_nil] at kk
          clear hR1
          go_wp2_with fail
          refine (gen_at H7.out rfl rfl HRest.out (by omega) (by omega)).mono ?_
          rintro e w8 ⟨rfl, hb⟩
          have H8 := Lib.hid (H7.out.below hb)
          have HRg := Lib.hid (HRf.out.below hb)
          have kk := HRg.out.c1
          rw [List.length_nil] at kk
          clear hb H7 HRf
          go_wp2_with fail
          refine (ours_any HRg.out).mono ?_
          rintro e w9 ⟨rfl, rfl⟩
          rw [show oursB [] = true from rfl]
          go_wp2_with fail
          refine (ours_any HRg.out).mono ?_
          rintro e w9 ⟨rfl, rfl⟩
          rw [show oursB [] = true from rfl]
          go_wp2_with fail
          refine (sys_refCommit (r := 4) (q := 3) ⟨H8.out, rfl, rfl, by decide, by omega, by decide, HOk.out, HEach.out⟩ (by omega)).mono ?_
          rintro e w10 ⟨v3, rfl, h10⟩
          have HT0 := Lib.hid (show Sys w w10 [devR b M, jourR jb b 4 12 0, doneR tb, txtR (.slice (some ⟨gn, 0, none⟩) n cn) (secs n M.cur), deadR rb, txtR v3 (secs n (laid M.cur []))] from h10)
          clear h10 H8 HRg kk
          obtain ⟨g3, c3, rfl⟩ := HT0.out.row1 (i := 5) rfl (by omega)
          go_wp2_with fail
          refine (sys_sectors (i := 0) HT0.out rfl HRest.out.up (by omega) n hMn).mono ?_
          rintro e wa ⟨v2, rfl, ha⟩
          have HA := Lib.hid (show Sys w wa [devR b M, jourR jb b 4 12 0, doneR tb, txtR (.slice (some ⟨gn, 0, none⟩) n cn) (secs n M.cur), deadR rb, txtR (.slice (some ⟨g3, 0, none⟩) n c3) (secs n (laid M.cur [])), txtR v2 (secs n M.cur)] from ha)
          clear ha HT0
          obtain ⟨g2, c2, rfl⟩ := HA.out.row1 (i := 6) rfl (by omega)
          have hnil := slice_nil g2 n c2
          go_wp2_with fail
          refine (keep8_any n _ _ _ _ _ (HA.out.mem (i := 5) rfl) (HA.out.mem (i := 6) rfl) (by omega) (fun i _ _ => rfl)).mono ?_
          rintro e wb ⟨rfl, hb⟩
          have HBb := Lib.hid (HA.out.below hb)
          clear hb HA
          go_wp2_with fail
          refine (over8_any tb _ (HBb.out.mem (i := 2) rfl)).mono ?_
          rintro e wc ⟨rfl, hb⟩
          have HCc := Lib.hid (HBb.out.below hb)
          clear hb HBb
          go_wp2_with fail
          refine (sys_begin HCc.out b jb n (by omega)).mono ?_
          rintro e wd ⟨tb2, rfl, hd⟩
          have HDd := Lib.hid hd
          clear hd HCc
          go_wp2_with fail
          refine (sys_max (j := 1) HDd.out rfl (by decide) (by decide)).mono ?_
          rintro e wd ⟨rfl, rfl⟩
          have hr0 := ref_new HDd.out (.slice (some ⟨g2, 0, none⟩) n c2) (capL 12)
          have hfin : PlI w (wd.alloc (.cells #[.slice (some ⟨g2, 0, none⟩) n c2, .slice none 0 0, .int .i64 (capL 12 : Int), .bool false] 39)) n b jb tb2 wd.heap.size (.slice (some ⟨g2, 0, none⟩) n c2) M g [] (k + 1) := by
            refine ⟨hr0.pick [0, 1, 7, 6, 8] (by decide) _ rfl (fun j hj => ?_), WrOk.nil _ _, HRest.out, hMn, by omega, by omega⟩
            match j, hj with
            | 0, _ => rfl
            | 1, _ => rfl
            | 2, _ => rfl
            | 3, _ => rfl
            | 4, _ => rfl
          have HFin := Lib.hid hfin
          clear hfin hr0 HDd
          go_wp2_with fail
          go_roundw
          case rel => exact ⟨k + 1, tb2, _, _, _, _, _, _, by omega, rfl, rfl, rfl, by simp, HFin.out⟩
          case measure => simp [intOf]; omega
        · have hpos : ((L.length : Int) == 0) = false := by
            have : L.length ≠ 0 := fun e => hne (List.length_eq_zero_iff.1 e)
            simp; omega
          have hpos2 : decide ((0 : Int) < (L.length : Int)) = true := by
            have : L.length ≠ 0 := fun e => hne (List.length_eq_zero_iff.1 e)
            exact decide_eq_true (by omega)
          have hpos3 : 0 < L.length := Nat.pos_of_ne_zero fun e => hne (List.length_eq_zero_iff.1 e)
          have hpos4 : decide (0 < L.length) = true := decide_eq_true hpos3
          have hgw : IntKind.u64.wrap ((g : Int) + 1) = (g : Int) + 1 := u64_wrap _ (by omega) (by omega)
          cases ho : oursB L
          ·
            go_wp2_with fail
            refine (pl_gen (HI.out.below ((Below.refl _ wr).alloc (Nat.le_refl _) _)) n20 (by omega)).mono ?_
            rintro e w6 ⟨rfl, hb⟩
            have q0 := (hb.cell (p := ⟨wr.heap.size, 0, none⟩) (by simp)).trans k0
            have H6 := Lib.hid ((HI.out.below ((Below.refl _ wr).alloc (Nat.le_refl _) _)).below hb)
            clear hb HI
            go_wp2_with fail
            have hbad := sys_txCommit_bad (t := 2) (i := 0) (j := 1) H6.out.sys rfl rfl rfl (by decide) (by decide) hne (by have := HOk.out.cap; have : capL 12 = 10 := (by decide); omega) (fun p hp => (HOk.out.ok p hp).2) (by decide) (by decide) (by decide) (by rw [hMn, why_theirs HOk.out ho]; decide)
            rw [hMn, why_theirs HOk.out ho] at hbad
            refine hbad.mono ?_
            clear hbad
            rintro e w7 ⟨rfl, h7⟩
            have H7 := Lib.hid (show Sys w w7 [devR b M, jourR jb b 4 12 0, doneR tb, txtR (.slice (some ⟨gn, 0, none⟩) n cn) (secs n M.cur), refR rb (.slice (some ⟨gn, 0, none⟩) n cn) L (capL 12)] from h7)
            clear h7 H6
            obtain ⟨A1, c1, hR1⟩ := ref_on (r := 4) H7.out rfl
            have kk := hR1.c1
            have HRg := Lib.hid hR1
            clear hR1
            go_wp2_with fail
            refine (ours_any HRg.out).mono ?_
            rintro e w9 ⟨rfl, rfl⟩
            rw [ho]
            go_wp2_with fail
            refine (ours_any HRg.out).mono ?_
            rintro e w9 ⟨rfl, rfl⟩
            rw [ho]
            go_wp2_with fail
            refine (ours_any HRg.out).mono ?_
            rintro e w9 ⟨rfl, rfl⟩
            rw [ho]
            go_wp2_with fail
            have HT0 := H7
            clear kk HRg
            refine (sys_sectors (i := 0) HT0.out rfl HRest.out.up (by omega) n hMn).mono ?_
            rintro e wa ⟨v2, rfl, ha⟩
            have HA := Lib.hid (show Sys w wa [devR b M, jourR jb b 4 12 0, doneR tb, txtR (.slice (some ⟨gn, 0, none⟩) n cn) (secs n M.cur), refR rb (.slice (some ⟨gn, 0, none⟩) n cn) L (capL 12), txtR v2 (secs n M.cur)] from ha)
            clear ha HT0
            obtain ⟨g2, c2, rfl⟩ := HA.out.row1 (i := 5) rfl (by omega)
            have hnil := slice_nil g2 n c2
            go_wp2_with fail
            refine (keep8_any n _ _ _ _ _ (HA.out.mem (i := 3) rfl) (HA.out.mem (i := 5) rfl) (by omega) (fun i _ _ => rfl)).mono ?_
            rintro e wb ⟨rfl, hb⟩
            have HBb := Lib.hid (HA.out.below hb)
            clear hb HA
            go_wp2_with fail
            refine (over8_any tb _ (HBb.out.mem (i := 2) rfl)).mono ?_
            rintro e wc ⟨rfl, hb⟩
            have HCc := Lib.hid (HBb.out.below hb)
            clear hb HBb
            go_wp2_with fail
            refine (sys_begin HCc.out b jb n (by omega)).mono ?_
            rintro e wd ⟨tb2, rfl, hd⟩
            have HDd := Lib.hid hd
            clear hd HCc
            go_wp2_with fail
            refine (sys_max (j := 1) HDd.out rfl (by decide) (by decide)).mono ?_
            rintro e wd ⟨rfl, rfl⟩
            have hr0 := ref_new HDd.out (.slice (some ⟨g2, 0, none⟩) n c2) (capL 12)
            have hfin : PlI w (wd.alloc (.cells #[.slice (some ⟨g2, 0, none⟩) n c2, .slice none 0 0, .int .i64 (capL 12 : Int), .bool false] 39)) n b jb tb2 wd.heap.size (.slice (some ⟨g2, 0, none⟩) n c2) M g [] (k + 1) := by
              refine ⟨hr0.pick [0, 1, 6, 5, 7] (by decide) _ rfl (fun j hj => ?_), WrOk.nil _ _, HRest.out, hMn, by omega, by omega⟩
              match j, hj with
              | 0, _ => rfl
              | 1, _ => rfl
              | 2, _ => rfl
              | 3, _ => rfl
              | 4, _ => rfl
            have HFin := Lib.hid hfin
            clear hfin hr0 HDd
            go_wp2_with fail
            go_roundw
            case rel => exact ⟨k + 1, tb2, _, _, _, _, _, _, by omega, rfl, rfl, rfl, by simp, HFin.out⟩
            case measure => simp [intOf]; omega
          ·
            go_wp2_with fail
            refine (pl_gen (HI.out.below ((Below.refl _ wr).alloc (Nat.le_refl _) _)) n20 (by omega)).mono ?_
            rintro e w6 ⟨rfl, hb⟩
            have q0 := (hb.cell (p := ⟨wr.heap.size, 0, none⟩) (by simp)).trans k0
            have H6 := Lib.hid ((HI.out.below ((Below.refl _ wr).alloc (Nat.le_refl _) _)).below hb)
            clear hb HI
            go_wp2_with fail
            refine (rest_commit (pl_tx H6.out n60 (by omega)) HRest.out (by omega) (by omega) (by omega) (by omega) hne ho).mono ?_
            rintro e w7 ⟨rfl, M2, h7, hR2, hn2, hw2, hd2⟩
            have H7 := Lib.hid (show Sys w w7 [devR b M2, jourR jb b 4 12 0, doneR tb, txtR (.slice (some ⟨gn, 0, none⟩) n cn) (secs n M.cur), refR rb (.slice (some ⟨gn, 0, none⟩) n cn) L (capL 12)] from h7)
            have HRest2 := Lib.hid hR2
            rw [hMn] at hn2 hd2
            have hk2 : ∀ i, i < n → (i < 4 ∨ 16 ≤ i) → laid M.cur L i = M2.cur i := fun i h1 h2 => by rw [hR2.cur, hd2 i h1 h2, HRest.out.cur]
            have HKeep := Lib.hid hk2
            clear h7 H6 hR2 hd2 hk2
            obtain ⟨A1, c1, hR1⟩ := ref_on (r := 4) H7.out rfl
            have kk := hR1.c1
            have HRg := Lib.hid hR1
            clear hR1
            go_wp2_with fail
            refine (ours_any HRg.out).mono ?_
            rintro e w9 ⟨rfl, rfl⟩
            rw [ho]
            go_wp2_with fail
            refine (ours_any HRg.out).mono ?_
            rintro e w9 ⟨rfl, rfl⟩
            rw [ho]
            go_wp2_with fail
            refine (ours_any HRg.out).mono ?_
            rintro e w9 ⟨rfl, rfl⟩
            rw [ho]
            go_wp2_with fail
            refine (sys_refCommit (r := 4) (q := 3) ⟨H7.out, rfl, rfl, by decide, by omega, by decide, HOk.out, HEach.out⟩ (by omega)).mono ?_
            rintro e w10 ⟨v3, rfl, h10⟩
            have HT0 := Lib.hid (show Sys w w10 [devR b M2, jourR jb b 4 12 0, doneR tb, txtR (.slice (some ⟨gn, 0, none⟩) n cn) (secs n M.cur), deadR rb, txtR v3 (secs n (laid M.cur L))] from h10)
            clear h10 H7 HRg kk
            obtain ⟨g3, c3, rfl⟩ := HT0.out.row1 (i := 5) rfl (by omega)
            go_wp2_with fail
            refine (sys_sectors (i := 0) HT0.out rfl HRest2.out.up (by omega) n hn2).mono ?_
            rintro e wa ⟨v2, rfl, ha⟩
            have HA := Lib.hid (show Sys w wa [devR b M2, jourR jb b 4 12 0, doneR tb, txtR (.slice (some ⟨gn, 0, none⟩) n cn) (secs n M.cur), deadR rb, txtR (.slice (some ⟨g3, 0, none⟩) n c3) (secs n (laid M.cur L)), txtR v2 (secs n M2.cur)] from ha)
            clear ha HT0
            obtain ⟨g2, c2, rfl⟩ := HA.out.row1 (i := 6) rfl (by omega)
            have hnil := slice_nil g2 n c2
            go_wp2_with fail
            refine (keep8_any n _ _ _ _ _ (HA.out.mem (i := 5) rfl) (HA.out.mem (i := 6) rfl) (by omega) HKeep.out).mono ?_
            rintro e wb ⟨rfl, hb⟩
            have HBb := Lib.hid (HA.out.below hb)
            clear hb HA
            go_wp2_with fail
            refine (over8_any tb _ (HBb.out.mem (i := 2) rfl)).mono ?_
            rintro e wc ⟨rfl, hb⟩
            have HCc := Lib.hid (HBb.out.below hb)
            clear hb HBb
            go_wp2_with fail
            refine (sys_begin HCc.out b jb n (by omega)).mono ?_
            rintro e wd ⟨tb2, rfl, hd⟩
            have HDd := Lib.hid hd
            clear hd HCc
            go_wp2_with fail
            refine (sys_max (j := 1) HDd.out rfl (by decide) (by decide)).mono ?_
            rintro e wd ⟨rfl, rfl⟩
            have hr0 := ref_new HDd.out (.slice (some ⟨g2, 0, none⟩) n c2) (capL 12)
            have hfin : PlI w (wd.alloc (.cells #[.slice (some ⟨g2, 0, none⟩) n c2, .slice none 0 0, .int .i64 (capL 12 : Int), .bool false] 39)) n b jb tb2 wd.heap.size (.slice (some ⟨g2, 0, none⟩) n c2) M2 (g + 1) [] (k + 1) := by
              refine ⟨hr0.pick [0, 1, 7, 6, 8] (by decide) _ rfl (fun j hj => ?_), WrOk.nil _ _, HRest2.out, hn2, by omega, by omega⟩
              match j, hj with
              | 0, _ => rfl
              | 1, _ => rfl
              | 2, _ => rfl
              | 3, _ => rfl
              | 4, _ => rfl
            have HFin := Lib.hid hfin
            clear hfin hr0 HDd
            go_wp2_with fail
            go_roundw
            case rel => exact ⟨k + 1, tb2, _, _, _, _, _, _, by omega, rfl, rfl, rfl, by simp, HFin.out⟩
            case measure => simp [intOf]; omega
      have e3 : (dv != 3) = true := by simpa using hd3
      by_cases hd4 : dv = 4
      ·
        subst hd4
        go_wp2_with fail
        refine (pl_gen (HI.out.below ((Below.refl _ wr).alloc (Nat.le_refl _) _)) n20 (by omega)).mono ?_
        rintro e w6 ⟨rfl, hb⟩
        have q0 := (hb.cell (p := ⟨wr.heap.size, 0, none⟩) (by simp)).trans k0
        have H6 := Lib.hid ((HI.out.below ((Below.refl _ wr).alloc (Nat.le_refl _) _)).below hb)
        clear hb HI
        go_wp2_with fail
        refine (sys_txAbort (t := 2) H6.out.sys rfl).mono ?_
        rintro e w7 ⟨rfl, h7⟩
        have H7 := Lib.hid (show Sys w w7 [devR b M, jourR jb b 4 12 0, doneR tb, txtR (.slice (some ⟨gn, 0, none⟩) n cn) (secs n M.cur), refR rb (.slice (some ⟨gn, 0, none⟩) n cn) L (capL 12)] from h7)
        clear h7 H6
        go_wp2_with fail
        refine (gen_at H7.out rfl rfl HRest.out (by omega) (by omega)).mono ?_
        rintro e w8 ⟨rfl, hb⟩
        have HT0 := Lib.hid (H7.out.below hb)
        clear hb H7
        go_wp2_with fail
        refine (sys_sectors (i := 0) HT0.out rfl HRest.out.up (by omega) n hMn).mono ?_
        rintro e wa ⟨v2, rfl, ha⟩
        have HA := Lib.hid (show Sys w wa [devR b M, jourR jb b 4 12 0, doneR tb, txtR (.slice (some ⟨gn, 0, none⟩) n cn) (secs n M.cur), refR rb (.slice (some ⟨gn, 0, none⟩) n cn) L (capL 12), txtR v2 (secs n M.cur)] from ha)
        clear ha HT0
        obtain ⟨g2, c2, rfl⟩ := HA.out.row1 (i := 5) rfl (by omega)
        have hnil := slice_nil g2 n c2
        go_wp2_with fail
        refine (keep8_any n _ _ _ _ _ (HA.out.mem (i := 3) rfl) (HA.out.mem (i := 5) rfl) (by omega) (fun i _ _ => rfl)).mono ?_
        rintro e wb ⟨rfl, hb⟩
        have HBb := Lib.hid (HA.out.below hb)
        clear hb HA
        go_wp2_with fail
        refine (over8_any tb _ (HBb.out.mem (i := 2) rfl)).mono ?_
        rintro e wc ⟨rfl, hb⟩
        have HCc := Lib.hid (HBb.out.below hb)
        clear hb HBb
        go_wp2_with fail
        refine (sys_begin HCc.out b jb n (by omega)).mono ?_
        rintro e wd ⟨tb2, rfl, hd⟩
        have HDd := Lib.hid hd
        clear hd HCc
        go_wp2_with fail
        refine (sys_max (j := 1) HDd.out rfl (by decide) (by decide)).mono ?_
        rintro e wd ⟨rfl, rfl⟩
        have hr0 := ref_new HDd.out (.slice (some ⟨g2, 0, none⟩) n c2) (capL 12)
        have hfin : PlI w (wd.alloc (.cells #[.slice (some ⟨g2, 0, none⟩) n c2, .slice none 0 0, .int .i64 (capL 12 : Int), .bool false] 39)) n b jb tb2 wd.heap.size (.slice (some ⟨g2, 0, none⟩) n c2) M g [] (k + 1) := by
          refine ⟨hr0.pick [0, 1, 6, 5, 7] (by decide) _ rfl (fun j hj => ?_), WrOk.nil _ _, HRest.out, hMn, by omega, by omega⟩
          match j, hj with
          | 0, _ => rfl
          | 1, _ => rfl
          | 2, _ => rfl
          | 3, _ => rfl
          | 4, _ => rfl
        have HFin := Lib.hid hfin
        clear hfin hr0 HDd
        go_wp2_with fail
        go_roundw
        case rel => exact ⟨k + 1, tb2, _, _, _, _, _, _, by omega, rfl, rfl, rfl, by simp, HFin.out⟩
        case measure => simp [intOf]; omega
      · have e4 : (dv != 4) = true := by simpa using hd4
        go_wp2_with fail
        refine (pl_does (HI.out.below ((Below.refl _ wr).alloc (Nat.le_refl _) _)) n60 (by omega) ⟨dv, xn, xf, s, raw⟩ hfine).mono ?_
        rintro e w6 ⟨rfl, L', h6⟩
        have H6 := Lib.hid h6
        clear h6 HI
        go_wp2_with fail
        refine (pl_touched H6.out n60 (by omega)).mono ?_
        rintro e w7 ⟨rfl, h7⟩
        have H7 := Lib.hid h7
        clear h7 H6
        go_wp2_with fail
        go_roundw
        case rel => exact ⟨k + 1, tb, rb, g, gn, cn, M, L', by omega, rfl, rfl, rfl, by simp, H7.out⟩
        case measure => simp [intOf]; omega
    · obtain rfl : k = l.length := by omega
      go_wp2_with fail
      refine (HAl.out _ HI.out.sys.all).mono ?_
      rintro e w6 ⟨rfl, hb⟩
      have HB := Lib.hid hb
      clear hb
      go_wp2_with fail
      go_ret
      exact ⟨rfl, HB.out⟩
end Go.Proofs.YthgdkpkhnhjifaaGreat
