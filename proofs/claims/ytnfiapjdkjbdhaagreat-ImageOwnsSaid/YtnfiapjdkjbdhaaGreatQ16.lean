import Derived.Test.YtnfiapjdkjbdhaaGreatQ15
namespace Go.Proofs.YtnfiapjdkjbdhaaGreat
open Go.RowKit Go.Maps Go.Lib
set_option linter.unusedVariables false
set_option linter.unusedSimpArgs false
set_option maxRecDepth 10000
attribute [local go_sem ↓] ino_store_fold
def small11 : Gm := ⟨8, 16, 40⟩
theorem small11_ok : small11.ok := by decide
abbrev small11V : Value := .agg #[.int .i64 8, .int .i64 16, .int .i64 40]
set_option maxHeartbeats 400000 in
theorem small11_any (w : World) : Calls Tryz.prog 32 #[] w fun e w' => e = .returned small11V ∧ Below w.heap.size w w' := by
  go_enter Tryz.func32, Tryz.ntmps32
  go_wp2
  refine bodyPost_ret (v := small11V) ?_ rfl ⟨rfl, (Below.refl _ _).alloc (Nat.le_refl _) _⟩
  exact results_cell_row rfl _ _ w.heap.size 23 _ (0, 0) _ rfl (heap_alloc_new _ _) Tryz.underlying23 rfl (by kernel_rfl)
set_option maxHeartbeats 1000000 in
theorem full11_any (s : List UInt8) (W : World) (hs : s.length ≤ 140737488351232) : Calls Tryz.prog 15 #[str s] W fun e w' => e = .returned (str (fullT s)) ∧ Below W.heap.size W w' := by
  have hmk : (Instr.makeSlice 53 (.int .i64 64) (.int .i64 64)).run Tryz.prog W = .ok (.slice (some ⟨W.heap.size, 0, none⟩) 64 64) (W.alloc (.cells (byteCells (List.replicate 64 0)) 5)) := make_noughts 64 (by omega) W
  have hg := heap_alloc_new W (.cells (byteCells (List.replicate 64 (0 : UInt8))) 5)
  have hby : Bytes (W.alloc (.cells (byteCells (List.replicate 64 0)) 5)) W.heap.size (List.replicate 64 0) := bytes_made hg
  have hcv := fun (V : World) (l : List UInt8) (hl : l.length = 64) (h : Bytes V W.heap.size l) => string_of_bytes (P := Tryz.prog) 53 9 5 Tryz.underlying53 Tryz.underlying5 Tryz.underlying9 V W.heap.size 64 l h
  have HC := Lib.hid hcv
  have HB0 := Lib.hid hby
  have hB := Lib.hid ((Below.refl W.heap.size W).alloc (Nat.le_refl _) (.cells (byteCells (List.replicate 64 0)) 5))
  clear hcv hby hg
  by_cases h0 : s = []
  · subst h0
    have hc := HC.out _ _ (by simp) HB0.out
    rw [List.length_replicate] at hc
    have hF : fullT [] = List.replicate 64 0 := rfl
    rw [hF]
    clear hF HB0
    generalize List.replicate 64 (0 : UInt8) = Z at *
    go_enter Tryz.func15, Tryz.ntmps15
    go_wp2_with fail
    go_loopw [4] (fun i wr => i = .int .i64 0 ∧ wr = W.alloc (.cells (byteCells Z) 5)) (fun i _ => 0)
    case atStart => exact ⟨rfl, rfl⟩
    case round =>
      obtain ⟨rfl, rfl⟩ := hrel
      go_wp2_with fail
      go_ret
      exact ⟨rfl, hB.out⟩
  · have hne : fullT s = fillT s 64 := if_neg h0
    have hpos : 0 < s.length := List.length_pos_iff.2 h0
    have hemp : s.isEmpty = false := by simpa using h0
    rw [hne]
    clear hne
    go_enter Tryz.func15, Tryz.ntmps15
    go_wp2_with fail
    go_loopw [4] (fun i wr => ∃ k : Nat, k ≤ 64 ∧ i = .int .i64 k ∧ Bytes wr W.heap.size (fillT s k) ∧ Below W.heap.size W wr) (fun i _ => 64 - (Go.RowKit.intOf i).toNat)
    case atStart => exact ⟨0, by omega, rfl, by simpa [fillT] using HB0.out, hB.out⟩
    case round =>
      obtain ⟨k, hk, rfl, hby, hb⟩ := hrel
      have HBy := Lib.hid hby
      have HBw := Lib.hid hb
      clear hb hby
      by_cases hlt : k < 64
      · have hset := fillT_set s k hlt
        have hlen := fillT_length s k hk
        obtain ⟨c, f⟩ := HBy.out k (by omega)
        have hm : k % s.length < s.length := Nat.mod_lt _ hpos
        have hmod : (k : Int).tmod (s.length : Int) = ((k % s.length : Nat) : Int) := by rw [← Int.ofNat_tmod]
        have hgd : s.getD (k % s.length) 0 = s[k % s.length] := by rw [List.getD_eq_getElem?_getD, List.getElem?_eq_getElem hm]; rfl
        rw [hgd] at hset
        have HS := Lib.hid hset
        clear hset hgd
        generalize (fillT s k)[k]'(by omega) = y at c
        go_wp2_with fail
        go_roundw
        case rel => exact ⟨k + 1, by omega, by simp, by rw [← HS.out]; exact HBy.out.set k _ _ rfl (by omega), HBw.out.setCell (by simp) _⟩
        case measure => simp [Go.RowKit.intOf]; omega
      · obtain rfl : k = 64 := by omega
        have hc := HC.out _ _ (fillT_length s 64 (Nat.le_refl _)) HBy.out
        rw [fillT_length s 64 (Nat.le_refl _)] at hc
        go_wp2_with fail
        go_ret
        exact ⟨rfl, HBw.out⟩
set_option maxHeartbeats 400000 in
theorem file11_any (w : World) : Calls Tryz.prog 13 #[] w fun e w' => e = .returned fileI.v ∧ Below w.heap.size w w' := by
  obtain ⟨w2, hs, hx, hb⟩ := ino_fresh w fileI
  have HX := Lib.hid hx
  have HB := Lib.hid hb
  have hs2 : (inoStore (.pointer (some ⟨w.heap.size, 0, none⟩)) (.agg #[.int .u8 1, .int .u16 1, .int .u32 0, .int .u16 0, .int .u16 0, .int .u16 0, .int .u16 0, .int .u16 0])).run Tryz.prog (w.alloc (.cells #[.int .u8 0, .int .u16 0, .int .u32 0, .int .u16 0, .int .u16 0, .int .u16 0, .int .u16 0, .int .u16 0] 41)) = .ok () w2 := hs
  clear hs hx hb
  go_enter Tryz.func13, Tryz.ntmps13
  go_wp2_with fail
  refine bodyPost_ret (v := fileI.v) ?_ rfl ⟨rfl, HB.out⟩
  exact results_cell_row rfl _ _ w.heap.size 41 _ (0, 0) _ rfl HX.out Tryz.underlying41 rfl (by kernel_rfl)
set_option maxHeartbeats 400000 in
theorem format_nil (G : Gm) (w : World) : Calls Tryz.prog 35 #[.pointer none, gv G] w fun e w' => e = .returned (.int .i64 1) ∧ Below w.heap.size w w' := by
  go_enter Tryz.func35, Tryz.ntmps35
  go_wp2_with fail
  go_ret
  exact ⟨rfl, (Below.refl _ _).alloc (Nat.le_refl _) _⟩
theorem pick_two_free {m : Nat} {l : List UInt8} {a c : Nat} (hac : a ≠ c) (ha : a < m) (hc : c < m) (h1 : Bits.bitL l a = false) (h2 : Bits.bitL l c = false) (hm : m ≤ 8 * l.length) : pickL m 2 l ≠ none := by
  intro h
  cases hl : Bits.leastL l false m with
  | none =>
    have := (Bits.leastL_none _ _ _).1 hl a ha
    rw [h1] at this; cases this
  | some d =>
    obtain ⟨hd, -, -⟩ := Bits.leastL_some _ _ _ _ hl
    rw [pickL_some hl] at h
    cases hl2 : Bits.leastL (Bits.setL l d true) false m with
    | some e => rw [pickL_some hl2] at h; cases h
    | none =>
      have hn := (Bits.leastL_none _ _ _).1 hl2
      by_cases e : d = a
      · have := hn c hc
        rw [Bits.setL_bit _ _ _ _ (by omega), if_neg (by omega), h2] at this; cases this
      · have := hn a ha
        rw [Bits.setL_bit _ _ _ _ (by omega), if_neg (by omega), h1] at this; cases this
theorem small11_sm : Sm small11 := ⟨small11_ok, by decide, by decide, by decide⟩
theorem wE_zero {cap : Nat} {L : PutL} (k : Nat) (h : L.length + 1 ≤ cap) : wE cap L k = 0 := by
  rcases wE_cases cap L k with e | ⟨-, h2⟩
  · exact e
  · omega
theorem count_one (l : List UInt8) (h0 : Bits.bitL l 0 = true) (h : ∀ c, 1 ≤ c → c ≤ 16 → (Bits.bitL l c = true ↔ c = 1)) : leftV l 16 = 15 := by
  have hc : ∀ n, n ≤ 17 → Bits.countL l n = Bits.countL (Bits.setL bits1 1 true) n := fun n hn => Bits.countL_congr _ _ _ fun j hj => by
    rw [Bits.setL_bit _ _ _ _ (by decide), bits1_bit]
    by_cases e0 : j = 0
    · subst e0; rw [h0]; rfl
    · by_cases e1 : j = 1
      · subst e1; rw [(h 1 (by omega) (by omega)).2 rfl]; rfl
      · rw [if_neg e1, decide_eq_false e0]
        cases hb : Bits.bitL l j with
        | false => rfl
        | true => exact absurd ((h j (by omega) (by omega)).1 hb) e1
  unfold leftV
  rw [hc 17 (by omega), hc 1 (by omega)]
  decide
set_option maxHeartbeats 4000000 in
set_option maxRecDepth 50000 in
theorem alive11_any (w : World) : Calls Tryz.prog 9 #[] w fun e w' => e = .returned (.bool true) ∧ Below w.heap.size w w' := by
  have hG := small11_sm
  have HSm := Lib.hid fun V => small11_any V
  have HDk := Lib.hid fun V => disk_any small11 hG V
  have HFi := Lib.hid fun V => file11_any V
  have HFu := Lib.hid fun V => full11_any [120] V (by simp)
  have HFn := Lib.hid fun V => format_nil small11 V
  have hcap : capL small11.j = 37 := by decide
  have r2 : Rg small11 2 := ⟨by decide, by decide⟩
  go_enter Tryz.func9, Tryz.ntmps9
  go_wp2_with fail
  refine (HSm.out _).mono ?_
  rintro e w1 ⟨rfl, hb⟩
  have HB := Lib.hid hb
  clear hb
  go_wp2_with fail
  refine (HDk.out _).mono ?_
  rintro e w2 ⟨b, jb, tb, mb, rfl, h2⟩
  have hd := fmt_disk small11 hG
  have H2 := Lib.hid h2
  have HD := Lib.hid hd
  have hf := free11_any h2
  have hd2 : vw (fmtD small11).cur [] (small11.off 2) = bits2 := hd.im
  have hb3 := hd.own.bit
  have hfr : leftV (vw (fmtD small11).cur [] (small11.off 3)) small11.b = 16 := by decide
  rw [hfr, hd2, count_fmt2 _ (by decide) (by decide)] at hf
  have HF := Lib.hid (show Calls Tryz.prog 27 #[devp mb] w2 fun e w' => e = .returned (.tuple #[.int .i64 7, .int .i64 16, .int .i64 0]) ∧ Below w2.heap.size w2 w' from hf)
  clear h2 hd hf hd2 hb3 hfr
  go_wp2_with fail
  refine HF.out.mono ?_
  rintro e w3 ⟨rfl, hb⟩
  have h3 := H2.out.below hb
  have ht := take11_any h3 2 r2 false (by rw [HD.out.im]; decide)
  have hv1 := vw_wL (f := (fmtD small11).cur) (s := Bits.setL (vw (fmtD small11).cur [] (small11.off 2)) 2 true) (wE_zero (cap := capL small11.j) (L := []) (small11.off 2) (by rw [hcap]; decide))
  have hl1 := wL_len (cap := capL small11.j) h3.asc (small11.off 2) (Bits.setL (vw (fmtD small11).cur [] (small11.off 2)) 2 true)
  have he1 := wE_zero (cap := capL small11.j) (L := []) (small11.off 2) (by rw [hcap]; decide)
  have hd1 := HD.out.take hG 2
  obtain ⟨L1, hL1⟩ : ∃ L1, L1 = wL (capL small11.j) [] (small11.off 2) (Bits.setL (vw (fmtD small11).cur [] (small11.off 2)) 2 true) := ⟨_, rfl⟩
  rw [← hL1] at hv1 hl1
  have ht2 : Calls Tryz.prog 11 #[devp mb, .int .u32 2] w3 fun e w' => e = .returned (.int .i64 0) ∧ ISys w1 w' b jb tb mb 0 small11 (fmtD small11) L1 [] := by
    refine ht.mono fun e w' hx => ?_
    rw [if_neg (by decide), if_neg (by decide), he1, ← hL1] at hx
    exact ⟨hx.1, hx.2⟩
  rw [← hv1] at hd1
  have HT := Lib.hid ht2
  have HD1 := Lib.hid hd1
  have HL1 := Lib.hid (show L1.length ≤ 1 from hl1)
  clear hb h3 ht hv1 hl1 he1 hd1 hL1 ht2
  go_wp2_with fail
  refine HT.out.mono ?_
  rintro e w4 ⟨rfl, h4⟩
  have H4 := Lib.hid h4
  clear h4
  go_wp2_with fail
  refine (HFi.out _).mono ?_
  rintro e w5 ⟨rfl, hb⟩
  have h5 := H4.out.below hb
  have hs := setInode_ok h5 2 r2 fileI fileI_fits fileI_may
  have he2 := wE_zero (cap := capL small11.j) (L := L1) (sI small11 2) (by have := HL1.out; rw [hcap]; omega)
  have hv2 := vw_wL (f := (fmtD small11).cur) (s := over (vw (fmtD small11).cur L1 (sI small11 2)) (pI 2) fileI.putL) he2
  have hl2 := wL_len (cap := capL small11.j) h5.asc (sI small11 2) (over (vw (fmtD small11).cur L1 (sI small11 2)) (pI 2) fileI.putL)
  have hd2 := HD1.out.file hG r2 (fmtTab_bl 2) (y := fileI) rfl fileI_fits fileI_may
  obtain ⟨L2, hL2⟩ : ∃ L2, L2 = wL (capL small11.j) L1 (sI small11 2) (over (vw (fmtD small11).cur L1 (sI small11 2)) (pI 2) fileI.putL) := ⟨_, rfl⟩
  rw [← hL2] at hs hv2 hl2
  rw [he2] at hs
  rw [← hv2] at hd2
  have HSI := Lib.hid (show Calls Tryz.prog 12 #[devp mb, .int .u32 2, .agg #[.int .u8 1, .int .u16 1, .int .u32 0, .int .u16 0, .int .u16 0, .int .u16 0, .int .u16 0, .int .u16 0]] w5 fun e w' => e = .returned (.int .i64 0) ∧ ISys w1 w' b jb tb mb 0 small11 (fmtD small11) L2 [] from hs)
  have HD2 := Lib.hid hd2
  have HL2 := Lib.hid (show L2.length ≤ 2 by have := HL1.out; omega)
  clear hb h5 hs he2 hv2 hl2 hd2 hL2
  go_wp2_with fail
  refine HSI.out.mono ?_
  rintro e w6 ⟨rfl, h6⟩
  have hrz := resize11_ok h6 HD2.out r2 (by rw [upd_same]; decide) 65 (by omega) (by rw [upd_same]; intro h; exact absurd h (by decide))
  have HRZ := Lib.hid (show Calls Tryz.prog 16 #[devp mb, .int .u32 2, .int .u32 65] w6 fun e w' => ∃ r L', e = .returned (.int .i64 r) ∧ ResPost small11 (capL small11.j) (fmtD small11).cur (Bits.setL bits2 2 true) (upd fmtTab 2 fileI) 2 65 L2 L' r ∧ ISys w1 w' b jb tb mb 0 small11 (fmtD small11) L' [] from hrz)
  clear h6 hrz
  go_wp2_with fail
  refine HRZ.out.mono ?_
  rintro e w7 ⟨r7, L3, rfl, hp7, h7⟩
  have hl2 := HL2.out
  rcases hp7 with ⟨-, hf⟩ | ⟨rfl, ⟨y3, hy3⟩, hl3⟩
  · exact absurd hf (by rw [hcap]; omega)
  · have htab : upd (upd fmtTab 2 fileI) 2 y3 = upd fmtTab 2 y3 := upd_twice _ _ _ _
    have hd3 := hy3.disk
    rw [htab] at hd3
    have hpg0 : (pgV small11 (vw (fmtD small11).cur L2) (upd fmtTab 2 fileI 2)) = List.replicate 36 0 := by rw [upd_same]; exact (plain_pg _ _ rfl).1
    have hpg3 : pgV small11 (vw (fmtD small11).cur L3) y3 = List.replicate 36 0 := by rw [hy3.pg, hpg0]; decide
    have hi3 : y3.i = 0 := by rw [hy3.i]; rfl
    have hk3 : y3.k = 1 := by rw [hy3.k, upd_same]; rfl
    have hown3 : ownV small11 (vw (fmtD small11).cur L3) y3 = [] := by unfold ownV inV; rw [hpg3, if_pos hi3]; rfl
    have hno : ∀ c, 1 ≤ c → c ≤ 16 → Bits.bitL (vw (fmtD small11).cur L3 (small11.off 3)) c = false := fun c h1 h2 => by
      cases hb : Bits.bitL (vw (fmtD small11).cur L3 (small11.off 3)) c with
      | false => rfl
      | true =>
        rcases (hd3.own.bit c ⟨h1, h2⟩).1 hb with e | ⟨j, hj, e⟩
        · simp at e
        · by_cases ej : j = 2
          · rw [ej, upd_same, hown3] at e; simp at e
          · rw [upd_other _ _ ej, plain_own _ _ (fmtTab_bl j)] at e; simp at e
    have hpk : pickL (small11.b + 1) 2 (vw (fmtD small11).cur L3 (small11.off 3)) ≠ none := pick_two_free (a := 1) (c := 2) (by decide) (by decide) (by decide) (hno 1 (by omega) (by omega)) (hno 2 (by omega) (by omega)) (by rw [hd3.own.bits hG]; decide)
    have hls : Bits.leastL (vw (fmtD small11).cur L3 (small11.off 3)) false (small11.b + 1) = some 1 := Bits.leastL_is _ _ _ _ (by decide) (hno 1 (by omega) (by omega)) fun j hj => by
      have : j = 0 := by omega
      subst this
      exact hd3.own.bit0
    have hsp := setPage_ok h7 hd3 r2 (p := 1) (by omega) (by rw [upd_same, hy3.zz]; decide) (by rw [upd_same, hk3]; decide) (fullT [120]) (fullT_length _)
    have HSP := Lib.hid (show Calls Tryz.prog 14 #[devp mb, .int .u32 2, .int .i64 1, str (fullT [120])] w7 fun e w' => ∃ r L', e = .returned (.int .i64 r) ∧ SetPost small11 (capL small11.j) (fmtD small11).cur (Bits.setL bits2 2 true) (upd fmtTab 2 y3) 2 1 (fullT [120]) L3 L' r ∧ ISys w1 w' b jb tb mb 0 small11 (fmtD small11) L' [] from hsp)
    have HSPB := Lib.hid fun V (hV : ISys w1 V b jb tb mb 0 small11 (fmtD small11) L3 []) => setPage_ok hV hd3 r2 (p := 1) (by omega) (by rw [upd_same, hy3.zz]; decide) (by rw [upd_same, hk3]; decide) (fullT [120]) (fullT_length _)
    have H7 := Lib.hid h7
    have HPK := Lib.hid hpk
    have HLS := Lib.hid hls
    have HPG3 := Lib.hid hpg3
    have HI3 := Lib.hid hi3
    have HL3 := Lib.hid hl3
    clear h7 hsp hpk hls hpg3 hi3 hk3 hown3 hno hpg0 htab hy3 hd3 HSP
    go_wp2_with fail
    refine (HFu.out _).mono ?_
    rintro e w8 ⟨rfl, hb⟩
    have h8 := H7.out.below hb
    have HSP := Lib.hid (show Calls Tryz.prog 14 #[devp mb, .int .u32 2, .int .i64 1, str (fullT [120])] w8 fun e w' => ∃ r L', e = .returned (.int .i64 r) ∧ SetPost small11 (capL small11.j) (fmtD small11).cur (Bits.setL bits2 2 true) (upd fmtTab 2 y3) 2 1 (fullT [120]) L3 L' r ∧ ISys w1 w' b jb tb mb 0 small11 (fmtD small11) L' [] from HSPB.out _ h8)
    clear hb h8 hl2 hl3
    go_wp2_with fail
    refine HSP.out.mono ?_
    rintro e w9 ⟨r9, L4, rfl, hp9, h9⟩
    have hl2 := HL2.out
    have hl3 := HL3.out
    rcases hp9 with ⟨-, hf | hf⟩ | ⟨rfl, ⟨y4, hy4⟩, hl4⟩
    · exact absurd hf (by rw [hcap]; omega)
    · exact absurd hf HPK.out
    · have htab : upd (upd fmtTab 2 y3) 2 y4 = upd fmtTab 2 y4 := upd_twice _ _ _ _
      have hd4 := hy4.disk
      rw [htab] at hd4
      have hpg3' : pgV small11 (vw (fmtD small11).cur L3) (upd fmtTab 2 y3 2) = List.replicate 36 0 := by rw [upd_same]; exact HPG3.out
      obtain ⟨hi4, c, hc, hpg4⟩ := hy4.way (by omega) (by rw [hpg3']; rfl)
      rw [HLS.out] at hc
      obtain rfl : 1 = c := Option.some.inj hc
      rw [hpg3'] at hpg4
      rw [upd_same, HI3.out] at hi4
      have hown4 : ownV small11 (vw (fmtD small11).cur L4) y4 = [1] := by unfold ownV inV; rw [hpg4, if_pos hi4]; decide
      have hb4 : ∀ c, 1 ≤ c → c ≤ 16 → (Bits.bitL (vw (fmtD small11).cur L4 (small11.off 3)) c = true ↔ c = 1) := fun c h1 h2 => by
        rw [hd4.own.bit c ⟨h1, h2⟩]
        constructor
        · rintro (e | ⟨j, hj, e⟩)
          · simp at e
          · by_cases ej : j = 2
            · rw [ej, upd_same, hown4] at e; simpa using e
            · rw [upd_other _ _ ej, plain_own _ _ (fmtTab_bl j)] at e; simp at e
        · rintro rfl
          exact .inr ⟨2, r2, by rw [upd_same, hown4]; simp⟩
      have hbk := blocks11_ok h9 hd4 r2
      rw [upd_same, hown4] at hbk
      have HBK := Lib.hid (show Calls Tryz.prog 33 #[devp mb, .int .u32 2] w9 fun e w' => ∃ v, e = .returned (.tuple #[v, .int .i64 0]) ∧ U16s w' v [1] ∧ Below w9.heap.size w9 w' from hbk)
      have H9 := Lib.hid h9
      have hfr := fun V (hV : ISys w1 V b jb tb mb 0 small11 (fmtD small11) L4 []) => free11_any hV
      have e2 : leftV (vw (fmtD small11).cur L4 (small11.off 2)) small11.i = 6 := by rw [hd4.im]; decide
      have e3 : leftV (vw (fmtD small11).cur L4 (small11.off 3)) small11.b = 15 := count_one _ hd4.own.bit0 hb4
      rw [e2, e3] at hfr
      have HFR := Lib.hid hfr
      have htk := fun V (hV : ISys w1 V b jb tb mb 0 small11 (fmtD small11) L4 []) => take11_any hV 2 r2 true (by rw [hd4.im]; decide)
      have HTK := Lib.hid (fun V (hV : ISys w1 V b jb tb mb 0 small11 (fmtD small11) L4 []) => show Calls Tryz.prog 11 #[devp mb, .int .u32 2] V fun e w' => e = .returned (.int .i64 9) ∧ ISys w1 w' b jb tb mb 0 small11 (fmtD small11) L4 [] from htk V hV)
      clear h9 hd4 hpg3' hi4 hc hpg4 hown4 hb4 hbk hfr e2 e3 htk htab hl2 hl3 hl4 hy4
      go_wp2_with fail
      refine HBK.out.mono ?_
      rintro e wa ⟨v, rfl, hu, hb⟩
      have HA := Lib.hid (H9.out.below hb)
      have HU := Lib.hid hu
      clear hb hu
      go_wp2_with fail
      refine (HFR.out _ HA.out).mono ?_
      rintro e wb ⟨rfl, hb⟩
      have HBb := Lib.hid (HA.out.below hb)
      have HUb := Lib.hid (HU.out.below hb)
      clear hb
      have hal : Below wb.heap.size wb (wb.alloc (.cells #[w16 1] 38)) := (Below.refl _ _).alloc (Nat.le_refl _) _
      have HC := Lib.hid (HBb.out.below hal)
      have HSa := Lib.hid (sameNums_any [1] v (.slice (some ⟨wb.heap.size, 0, none⟩) 1 1) _ (HUb.out.below hal) (u16s_box (heap_alloc_new wb _)) (by simp))
      clear hal
      go_wp2_with fail
      refine HSa.out.mono ?_
      rintro e wc ⟨rfl, hb⟩
      have HD := Lib.hid (HC.out.below hb)
      clear hb
      go_wp2_with fail
      refine (HTK.out _ HD.out).mono ?_
      rintro e wd ⟨rfl, hE⟩
      have HE := Lib.hid hE
      clear hE
      go_wp2_with fail
      refine (HSm.out _).mono ?_
      rintro e we ⟨rfl, hb⟩
      have HF2 := Lib.hid (HE.out.all.trans (hb.mono HE.out.all.size))
      clear hb
      go_wp2_with fail
      refine (HFn.out _).mono ?_
      rintro e wf ⟨rfl, hb⟩
      have HG2 := Lib.hid (HF2.out.trans (hb.mono HF2.out.size))
      clear hb
      go_wp2_with fail
      go_ret
      exact ⟨rfl, HB.out.trans (HG2.out.mono HB.out.size)⟩
end Go.Proofs.YtnfiapjdkjbdhaaGreat
/- Layer 11 (image): a directory's content. -/
namespace Go.Proofs.YtnfiapjdkjbdhaaGreat
open Go.RowKit Go.Maps Go.Lib
set_option linter.unusedVariables false
set_option linter.unusedSimpArgs false
set_option maxRecDepth 10000
attribute [local go_sem ↓] ino_store_fold
def textV (G : Gm) (v : Nat → List UInt8) (x : Im) (n : Nat) : List UInt8 := ((List.range n).map (datV G v x)).flatten
theorem textV_succ (G : Gm) (v : Nat → List UInt8) (x : Im) (n : Nat) : textV G v x (n + 1) = textV G v x n ++ datV G v x n := by
  unfold textV
  rw [List.range_succ, List.map_append, List.flatten_append]
  simp
section
variable {w W : World} {b jb tb mb rec : Nat} {G : Gm} {M : Dv} {L : PutL} {qs : List Res} {im : List UInt8} {tab : Nat → Im}
theorem datV_len {v : Nat → List UInt8} {x : Im} (hx : Fit G v x) (hl : ∀ k, k < G.all → (v k).length = 64) (p : Nat) : (datV G v x p).length = 64 := by
  unfold datV
  split
  · rfl
  · rename_i h
    exact hl _ (secB_all ⟨by omega, hx.le _ (getD_mem h)⟩)
theorem textV_len {v : Nat → List UInt8} {x : Im} (hx : Fit G v x) (hl : ∀ k, k < G.all → (v k).length = 64) : ∀ n, (textV G v x n).length = 64 * n
  | 0 => rfl
  | n + 1 => by rw [textV_succ, List.length_append, textV_len hx hl n, datV_len hx hl]; omega
set_option maxHeartbeats 2000000 in
theorem text11_dead (k : Int) (x : Im) (e0 : Int) (he : e0 ≠ 0)
    (hl : Calls Tryz.prog 45 #[devp mb, .int .u32 k] W fun e w' => e = .returned (.tuple #[x.v, .int .i64 e0]) ∧ Below W.heap.size W w') :
    Calls Tryz.prog 29 #[devp mb, .int .u32 k] W fun e w' => e = .returned (.tuple #[str [], .int .i64 e0]) ∧ Below W.heap.size W w' := by
  have HL := Lib.hid hl
  have hne : (e0 != 0) = true := by simpa using he
  clear hl he
  go_enter Tryz.func29, Tryz.ntmps29
  go_wp2_with fail
  refine HL.out.mono ?_
  rintro e w1 ⟨rfl, hb⟩
  obtain ⟨w2, hs1, -, hb2⟩ := ino_fresh w1 x
  have HB2 := Lib.hid (hb.trans (hb2.mono hb.size))
  clear hb hb2
  go_wp2_with fail
  go_ret2
  exact ⟨rfl, HB2.out⟩
set_option maxHeartbeats 2000000 in
theorem text11_file (k : Int) (x : Im) (hk : x.k ≠ 2)
    (hl : Calls Tryz.prog 45 #[devp mb, .int .u32 k] W fun e w' => e = .returned (.tuple #[x.v, .int .i64 0]) ∧ Below W.heap.size W w') :
    Calls Tryz.prog 29 #[devp mb, .int .u32 k] W fun e w' => e = .returned (.tuple #[str [], .int .i64 180]) ∧ Below W.heap.size W w' := by
  have HL := Lib.hid hl
  have hkb : ((x.k : Int) != 2) = true := by simp; omega
  clear hl hk
  go_enter Tryz.func29, Tryz.ntmps29
  go_wp2_with fail
  refine HL.out.mono ?_
  rintro e w1 ⟨rfl, hb⟩
  obtain ⟨w2, hs1, hx2, hb2⟩ := ino_fresh w1 x
  have HB2 := Lib.hid (hb.trans (hb2.mono hb.size))
  obtain ⟨x0, x1, x2, x3, x4, x5, x6, x7⟩ := Boxes.cells hx2
  clear hb hb2 hx2
  go_wp2_with fail
  go_ret2
  exact ⟨rfl, HB2.out⟩
set_option maxHeartbeats 4000000 in
theorem text11_ok (h : ISys w W b jb tb mb rec G M L qs) (hd : Disk11 G (vw M.cur L) im tab) {j : Nat} (hj : Rg G j) (hk : (tab j).k = 2) :
    Calls Tryz.prog 29 #[devp mb, .int .u32 (j : Int)] W fun e w' => e = .returned (.tuple #[str (textV G (vw M.cur L) (tab j) (pagesN (tab j).z)), .int .i64 0]) ∧ Below W.heap.size W w' := by
  have hx := (hd.own.ino j hj).fit11
  have hl := live_ok h j hj (tab j) (hd.fits hj) (hd.may hj) (hd.tab.zero hj)
  rw [if_neg (by omega)] at hl
  have hz : (tab j).z ≤ 2304 := by
    have hm := hd.may hj
    unfold Im.may at hm
    rw [if_neg (by omega)] at hm
    exact hm.2.2.1
  have hlens := textV_len hx hd.own.len
  have hdl := datV_len hx hd.own.len
  obtain ⟨x, hxe⟩ : ∃ x, x = tab j := ⟨_, rfl⟩
  rw [← hxe] at hx hl hk hz hlens hdl ⊢
  have hpn : pagesN x.z ≤ 36 := by unfold pagesN; omega
  have HL := Lib.hid hl
  have HP := Lib.hid fun V => pages_any x.z V (by omega)
  have HC := Lib.hid fun p (hp : p < 36) V (hV : Below W.heap.size W V) => content_in (h.below hV) hx hp
  have hkb : ((x.k : Int) != 2) = false := by simp; omega
  have HLE := Lib.hid hlens
  have HDL := Lib.hid hdl
  have HSU := Lib.hid fun n => textV_succ G (vw M.cur L) x n
  have hz0 : textV G (vw M.cur L) x 0 = [] := rfl
  generalize pagesN x.z = n at *
  generalize textV G (vw M.cur L) x = T at *
  generalize datV G (vw M.cur L) x = D at *
  clear h hd hl hk hxe hlens hdl hz hx
  go_enter Tryz.func29, Tryz.ntmps29
  go_wp2_with fail
  refine HL.out.mono ?_
  rintro e w1 ⟨rfl, hb⟩
  obtain ⟨w2, hs1, hx2, hb2⟩ := ino_fresh w1 x
  have HB2 := Lib.hid (hb.trans (hb2.mono hb.size))
  have HX2 := Lib.hid hx2
  obtain ⟨x0, x1, x2, x3, x4, x5, x6, x7⟩ := Boxes.cells hx2
  clear hb hb2 hx2
  go_wp2_with fail
  refine (HP.out _).mono ?_
  rintro e w3 ⟨rfl, rfl⟩
  go_wp2_with fail
  go_loopw [8, 29] (fun s i wr => ∃ k : Nat, k ≤ n ∧ i = .int .i64 k ∧ s = str (T k) ∧ Below w3.heap.size w3 wr) (fun _ i _ => n - (Go.RowKit.intOf i).toNat)
  case atStart => exact ⟨0, Nat.zero_le _, rfl, by rw [hz0], Below.refl _ _⟩
  case round =>
    obtain ⟨k, hk, rfl, rfl, hb⟩ := hrel
    have HBr := Lib.hid hb
    have HXr := Lib.hid (HX2.out.keep hb)
    clear hb x0 x1 x2 x3 x4 x5 x6 x7
    obtain ⟨x0, x1, x2, x3, x4, x5, x6, x7⟩ := Boxes.cells HXr.out
    by_cases hlt : k < n
    · have HCk := Lib.hid (HC.out k (by omega) wr (HB2.out.trans (HBr.out.mono HB2.out.size)))
      have h1 := HLE.out k
      have h2 := HDL.out k
      have HT := Lib.hid (HSU.out k)
      generalize hTk : T k = A at *
      generalize D k = B at *
      have hA : A.length ≤ 2304 := by omega
      have hB : B.length ≤ 64 := by omega
      clear hTk h1 h2
      go_wp2_with fail
      refine HCk.out.mono ?_
      rintro e w4 ⟨rfl, hb⟩
      have HB4 := Lib.hid (HBr.out.trans (hb.mono HBr.out.size))
      clear hb
      go_wp2_with fail
      go_roundw
      case rel => exact ⟨k + 1, by omega, by go_num, by rw [HT.out], HB4.out⟩
      case measure => simp [Go.RowKit.intOf]; omega
    · have : k = n := by omega
      subst this
      go_wp2_with fail
      go_ret2
      exact ⟨rfl, HB2.out.trans (HBr.out.mono HB2.out.size)⟩
end
end Go.Proofs.YtnfiapjdkjbdhaaGreat
/- Layer 11 (image): what the statements let go; which device a formatted disk is on. -/
namespace Go.Proofs.YtnfiapjdkjbdhaaGreat
open Go.RowKit Go.Maps Go.Lib
set_option linter.unusedVariables false
set_option linter.unusedSimpArgs false
set_option maxRecDepth 10000
set_option maxHeartbeats 1000000 in
theorem large_no (G : Gm) (h : G.i ≤ 30 ∧ G.b ≤ 60 ∧ G.j ≤ 60) (w : World) : Calls Tryz.prog 8 #[gv G] w fun e w' => e = .returned (.bool false) ∧ Below w.heap.size w w' := by
  obtain ⟨h1, h2, h3⟩ := h
  have hg := GeoAt.cells (heap_alloc_new w (.cells #[.int .i64 (G.i : Int), .int .i64 (G.b : Int), .int .i64 (G.j : Int)] 23) : GeoAt _ w.heap.size G.i G.b G.j)
  obtain ⟨g0, g1, g2⟩ := hg
  have i1 : ¬ (60 : Int) < (G.b : Int) := by omega
  have i2 : ¬ (30 : Int) < (G.i : Int) := by omega
  have i3 : ¬ (60 : Int) < (G.j : Int) := by omega
  go_enter Tryz.func8, Tryz.ntmps8
  go_wp2_with fail
  go_ret
  exact ⟨rfl, (Below.refl _ _).alloc (Nat.le_refl _) _⟩
set_option maxHeartbeats 1000000 in
theorem large_yes (G : Gm) (h : ¬ (G.i ≤ 30 ∧ G.b ≤ 60 ∧ G.j ≤ 60)) (w : World) : Calls Tryz.prog 8 #[gv G] w fun e w' => e = .returned (.bool true) ∧ Below w.heap.size w w' := by
  have hg := GeoAt.cells (heap_alloc_new w (.cells #[.int .i64 (G.i : Int), .int .i64 (G.b : Int), .int .i64 (G.j : Int)] 23) : GeoAt _ w.heap.size G.i G.b G.j)
  obtain ⟨g0, g1, g2⟩ := hg
  by_cases h1 : G.b ≤ 60
  · have i1 : ¬ (60 : Int) < (G.b : Int) := by omega
    by_cases h2 : G.i ≤ 30
    · have i2 : ¬ (30 : Int) < (G.i : Int) := by omega
      have i3 : (60 : Int) < (G.j : Int) := by omega
      clear h h1 h2
      go_enter Tryz.func8, Tryz.ntmps8
      go_wp2_with fail
      go_ret
      exact ⟨rfl, (Below.refl _ _).alloc (Nat.le_refl _) _⟩
    · have i2 : (30 : Int) < (G.i : Int) := by omega
      clear h h1 h2
      go_enter Tryz.func8, Tryz.ntmps8
      go_wp2_with fail
      go_ret
      exact ⟨rfl, (Below.refl _ _).alloc (Nat.le_refl _) _⟩
  · have i1 : (60 : Int) < (G.b : Int) := by omega
    clear h h1
    go_enter Tryz.func8, Tryz.ntmps8
    go_wp2_with fail
    go_ret
    exact ⟨rfl, (Below.refl _ _).alloc (Nat.le_refl _) _⟩
theorem sm_of {G : Gm} (hG : G.ok) (h : G.i ≤ 30 ∧ G.b ≤ 60 ∧ G.j ≤ 60) : Sm G := ⟨hG, h.1, h.2.1, h.2.2⟩
section
variable {w W : World} {rs : List Res}
end
end Go.Proofs.YtnfiapjdkjbdhaaGreat
