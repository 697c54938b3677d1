/- Layer 11 (image): what was set is read, page by page: the walk. -/
import Derived.Test.YtnfiapjdkjbdhaaGreatImgPg2
import Derived.Test.YtnfiapjdkjbdhaaGreatImgArgs
namespace Go.Proofs.YtnfiapjdkjbdhaaGreat
open Go.RowKit Go.Maps Go.Lib
set_option linter.unusedVariables false
set_option linter.unusedSimpArgs false
set_option maxRecDepth 10000
theorem u64N (x : Int) (d : Nat) (h0 : 0 < d) : (IntKind.u64.wrap x).tmod (d : Int) = (((IntKind.u64.wrap x).tmod (d : Int)).toNat : Int) ∧ ((IntKind.u64.wrap x).tmod (d : Int)).toNat < d := by
  have h1 : 0 ≤ IntKind.u64.wrap x := by rw [IntKind.wrap_u64]; omega
  have h2 : (IntKind.u64.wrap x).tmod (d : Int) = (IntKind.u64.wrap x) % (d : Int) := Int.tmod_eq_emod_of_nonneg h1
  rw [h2]
  have h3 := Int.emod_nonneg (IntKind.u64.wrap x) (show (d : Int) ≠ 0 by omega)
  have h4 := Int.emod_lt_of_pos (IntKind.u64.wrap x) (show (0 : Int) < (d : Int) by omega)
  omega
section
variable {w W : World} {b jb tb mb n z : Nat} {D : Nat → List UInt8} {L : PutL} {qs : List Res}
theorem PgB.all (h : PgB w W b jb tb n z D qs) : Below w.heap.size w W := by
  obtain ⟨M, g, im, tab, h1, -⟩ := h
  exact h1.all
theorem pg_take (h : ISys w W b jb tb mb 0 pgG (fmtD pgG) [] []) :
    Calls Tryz.prog 11 #[devp mb, .int .u32 2] W fun e w' => e = .returned (.int .i64 0) ∧ ∃ L1 im, ISys w w' b jb tb mb 0 pgG (fmtD pgG) L1 [] ∧ L1.length ≤ 1 ∧ Disk11 pgG (vw (fmtD pgG).cur L1) im fmtTab := by
  have hd := fmt_disk pgG pgG_sm
  have ht := take11_any h 2 pg_r2 false (by rw [hd.im]; decide)
  have hv1 := vw_wL (f := (fmtD pgG).cur) (s := Bits.setL (vw (fmtD pgG).cur [] (pgG.off 2)) 2 true) (wE_zero (cap := capL pgG.j) (L := []) (pgG.off 2) (by rw [pg_cap]; decide))
  have hl1 := wL_len (cap := capL pgG.j) h.asc (pgG.off 2) (Bits.setL (vw (fmtD pgG).cur [] (pgG.off 2)) 2 true)
  have he1 := wE_zero (cap := capL pgG.j) (L := []) (pgG.off 2) (by rw [pg_cap]; decide)
  have hd1 := hd.take pgG_sm 2
  refine ht.mono ?_
  rintro e w' ⟨rfl, hs⟩
  rw [if_neg (by decide)] at hs
  rw [if_neg (by decide), he1]
  refine ⟨rfl, _, Bits.setL bits2 2 true, hs, hl1, ?_⟩
  rw [hv1]
  exact hd1
theorem pg_put {L1 : PutL} {im : List UInt8} (h : ISys w W b jb tb mb 0 pgG (fmtD pgG) L1 []) (hl : L1.length ≤ 1) (hd : Disk11 pgG (vw (fmtD pgG).cur L1) im fmtTab) :
    Calls Tryz.prog 12 #[devp mb, .int .u32 2, fileI.v] W fun e w' => e = .returned (.int .i64 0) ∧ ∃ L2, PgD w w' b jb tb mb 0 0 (fun _ => z64) L2 [] ∧ L2.length ≤ 2 := by
  have hs := setInode_ok h 2 pg_r2 fileI fileI_fits fileI_may
  have he2 := wE_zero (cap := capL pgG.j) (L := L1) (sI pgG 2) (by rw [pg_cap]; omega)
  have hv2 := vw_wL (f := (fmtD pgG).cur) (s := over (vw (fmtD pgG).cur L1 (sI pgG 2)) (pI 2) fileI.putL) he2
  have hl2 := wL_len (cap := capL pgG.j) h.asc (sI pgG 2) (over (vw (fmtD pgG).cur L1 (sI pgG 2)) (pI 2) fileI.putL)
  have hd2 := hd.file pgG_sm pg_r2 (fmtTab_bl 2) (y := fileI) rfl fileI_fits fileI_may
  refine hs.mono ?_
  rintro e w' ⟨rfl, hs'⟩
  rw [he2]
  refine ⟨rfl, _, ⟨_, 0, im, upd fmtTab 2 fileI, hs', ⟨Rest11.new pgG pgG_sm, by show pgG.all ≤ _; decide, by decide, by decide, rfl⟩, ?_⟩, by omega⟩
  rw [hv2]
  refine ⟨hd2, by rw [upd_same]; rfl, by rw [upd_same]; rfl, fun j hj => by rw [upd_other _ _ hj]; exact fmtTab_bl j, fun q hq => ?_⟩
  rw [upd_same]
  unfold datV
  rw [(plain_pg _ _ (x := fileI) rfl).1, if_pos]
  rw [List.getD_eq_getElem?_getD, List.getElem?_replicate]
  split <;> rfl
theorem chunk_zero (q : Nat) (hq : q < 36) : chunk (List.replicate 2304 0) q = z64 := by
  unfold chunk z64
  rw [List.drop_replicate, List.take_replicate]
  congr 1
  omega
theorem PgD.addB (h : PgD w W b jb tb mb n z D L []) (B : List UInt8) : PgD w (W.alloc (.cells (byteCells B) 5)) b jb tb mb n z D L [rowBR W.heap.size B] := by
  obtain ⟨M, g, im, tab, h1, h2, h3⟩ := h
  have hs := h1.tx.sys.addMem ((Below.refl _ W).alloc (Nat.le_refl _) (.cells (byteCells B) 5)) (p := fun W' => RowB W' W.heap.size B) (own := fun k => k = W.heap.size) (hp := fun W W' h hb => (hb _ rfl).trans h) (heap_alloc_new W _) fun k hk => by rw [hk]; exact ⟨Nat.le_refl _, by simp⟩
  exact ⟨M, g, im, tab, h1.front hs, h2, h3⟩
end
theorem only_setCells (g : Nat) : ∀ (vs : List Value) (o : Nat) (W : World), Only (fun k => k = g) W (W.setCells g o vs)
  | [], _, W => Only.refl _ _
  | v :: r, o, W => (Only.setCell (fun k => k = g) W ⟨g, o, none⟩ v rfl).trans (only_setCells g r (o + 1) _) fun j hj => .inl hj
theorem PgD.copied {w W : World} {b jb tb mb bb n z : Nat} {D : Nat → List UInt8} {L : PutL} {B s : List UInt8} (h : PgD w W b jb tb mb n z D L [rowBR bb B]) (o f : Nat) (he : o = f) (hs : f + s.length ≤ B.length) : PgD w (W.setCells bb o (byteL s)) b jb tb mb n z D L [rowBR bb (over B f s)] := by
  subst he
  exact h.turnB (only_setCells bb _ o W) ((h.rowB (i := 0) rfl).over o s hs)
/-- At a step's beginning: the bytes stand beside the pages. -/
structure PgL (w W : World) (b jb tb mb bb n z : Nat) (B : List UInt8) (L : PutL) (c : Nat) : Prop where
  d : PgD w W b jb tb mb n z (chunk B) L [rowBR bb B]
  len : B.length = 2304
  tail : TailZ B z
  z : z ≤ 2304
  l : L.length ≤ c
theorem PgL.below {w W : World} {b jb tb mb bb n z c : Nat} {B : List UInt8} {L : PutL} (h : PgL w W b jb tb mb bb n z B L c) {W' : World} (hb : Below W.heap.size W W') : PgL w W' b jb tb mb bb n z B L c := { h with d := h.d.below hb }
/-- A step's own world. -/
structure PgStart (w w1 W : World) (gb b jb tb mb bb : Nat) (L : PutL) : Prop where
  l : PgL w1 W b jb tb mb bb 0 0 (List.replicate 2304 0) L 45
  geo : GeoAt w1 gb 4 50 60
  below : Below w.heap.size w w1
set_option maxHeartbeats 8000000 in
set_option maxRecDepth 100000 in
theorem walk_ImagePages (w : World) (v : Value) (l : List ISt) (hv : ISteps w v l) (hs : ∀ x ∈ l, fineI x) (hn : l.length ≤ maxLen ∧ l.length * 72 ≤ 140737488351232) :
    Calls Tryz.prog 4 #[v] w fun e w' => e = .returned (.bool true) ∧ Below w.heap.size w w' := by
  have HLong := Lib.hid (long11_any v l w hv hs hn.1)
  obtain ⟨A, cp, rfl, hc⟩ := hv
  have HC := Lib.hid hc
  have HS := Lib.hid hs
  have HAl := Lib.hid (fun V => alive11_any V)
  have HDk := Lib.hid fun V => disk_any pgG pgG_sm V
  have HFi := Lib.hid fun V => file11_any V
  have hmax := hn.1
  unfold maxLen at hmax
  clear hc hs hn
  go_enter Tryz.func4, Tryz.ntmps4
  go_wp2_with fail
  refine HLong.out.mono ?_
  rintro e w1 ⟨⟨r, rfl, hr⟩, rfl⟩
  clear HLong
  cases r
  case true =>
    go_wp2_with fail
    refine (HAl.out _).mono ?_
    rintro e w1 ⟨rfl, hb⟩
    have HB := Lib.hid hb
    clear hb
    go_wp2_with fail
    go_ret
    exact ⟨rfl, HB.out⟩
  have hlen := (hr rfl).1
  clear hr
  have hg0 : GeoAt (w.alloc (.cells #[.int .i64 4, .int .i64 50, .int .i64 60] 23)) w.heap.size 4 50 60 := heap_alloc_new w _
  have HB0 := Lib.hid ((Below.refl w.heap.size w).alloc (Nat.le_refl _) (.cells #[.int .i64 4, .int .i64 50, .int .i64 60] 23))
  obtain ⟨g0, g1, g2⟩ := hg0.cells
  have HG := Lib.hid hg0
  have HDv := Lib.hid (show ∀ V, Calls Tryz.prog 10 #[.agg #[.int .i64 4, .int .i64 50, .int .i64 60]] V fun e w' => ∃ b jb tb mb, e = .returned (.tuple #[devp b, devp jb, devp tb, devp mb]) ∧ ISys V w' b jb tb mb 0 pgG (fmtD pgG) [] [] from HDk.out)
  clear hg0 HDk
  go_wp2_with fail
  refine (HDv.out _).mono ?_
  rintro e w3 ⟨b, jb, tb0, mb0, rfl, h3⟩
  have HT := Lib.hid (pg_take h3)
  clear h3 g0 g1 g2 HDv
  go_wp2_with fail
  refine HT.out.mono ?_
  rintro e w4 ⟨rfl, L1, im, h4, hl1, hd1⟩
  have H4 := Lib.hid h4
  have HL1 := Lib.hid hl1
  have HD1 := Lib.hid hd1
  clear h4 hl1 hd1 HT
  go_wp2_with fail
  refine (HFi.out _).mono ?_
  rintro e w5 ⟨rfl, hb⟩
  have HP := Lib.hid (pg_put (H4.out.below hb) HL1.out HD1.out)
  have HP : Hid (Calls Tryz.prog 12 #[devp mb0, .int .u32 2, .agg #[.int .u8 1, .int .u16 1, .int .u32 0, .int .u16 0, .int .u16 0, .int .u16 0, .int .u16 0, .int .u16 0]] w5 fun e w' => e = .returned (.int .i64 0) ∧ ∃ L2, PgD (w.alloc (.cells #[.int .i64 4, .int .i64 50, .int .i64 60] 23)) w' b jb tb0 mb0 0 0 (fun _ => z64) L2 [] ∧ L2.length ≤ 2) := HP
  clear hb H4 HL1 HD1
  go_wp2_with fail
  refine HP.out.mono ?_
  rintro e w6 ⟨rfl, L2, h6, hl2⟩
  have hmk : (Instr.makeSlice 53 (.int .i64 2304) (.int .i64 2304)).run Tryz.prog w6 = .ok (.slice (some ⟨w6.heap.size, 0, none⟩) 2304 2304) (w6.alloc (.cells (byteCells (List.replicate 2304 0)) 5)) := make_noughts 2304 (by omega) w6
  have HI := Lib.hid (PgL.mk ((h6.addB (List.replicate 2304 0)).dats fun q hq => (chunk_zero q hq).symm) (by simp) (fun i _ hi => by rw [List.getElem?_replicate, if_pos hi]) (Nat.zero_le _) (show L2.length ≤ 45 by omega))
  clear h6 hl2 HP
  obtain ⟨Z0, hZ0⟩ : ∃ Z0, Z0 = List.replicate 2304 (0 : UInt8) := ⟨_, rfl⟩
  rw [← hZ0] at hmk HI
  clear hZ0
  obtain ⟨w1, hw1⟩ : ∃ w1, w1 = (w.alloc (.cells #[.int .i64 4, .int .i64 50, .int .i64 60] 23)) := ⟨_, rfl⟩
  rw [← hw1] at HI HG HB0
  clear hw1
  go_upto_region 9 with fail
  obtain ⟨W0, hW0⟩ : ∃ W0, W0 = (w6.alloc (.cells (byteCells Z0) 5)) := ⟨_, rfl⟩
  rw [← hW0] at HI ⊢
  clear hW0 hmk
  generalize w6.heap.size = bb at *
  go_wp2_with fail
  go_loopw [6, 7, 9, 10] (fun s6 s7 s9 s10 wr => ∃ (k z tb mb : Nat) (B : List UInt8) (L : PutL), k ≤ l.length ∧ s6 = devp tb ∧ s7 = devp mb ∧ s9 = .int .i64 z ∧ s10 = .int .i64 k ∧ PgL w1 wr b jb tb mb bb k z B L 45) (fun _ _ _ i _ => l.length - (Go.RowKit.intOf i).toNat)
  case atStart => exact ⟨0, 0, tb0, mb0, Z0, L2, Nat.zero_le _, rfl, rfl, rfl, rfl, HI.out⟩
  case round =>
    clear HI
    obtain ⟨k, z, tb, mb, B, L, hk, rfl, rfl, rfl, rfl, hP⟩ := hrel
    have HP := Lib.hid hP
    clear hP
    by_cases hlt : k < l.length
    · obtain ⟨aa, rfl, x0, x1, x2, x3, x4⟩ := HC.out k _ (List.getElem?_eq_getElem hlt)
      have hfine := HS.out l[k] (List.getElem_mem _)
      have hsl := hfine.1
      clear x2 x3 hfine
      unfold behindI at x1 x4
      generalize l[k] = s at *
      have hall := HB0.out.trans (HP.out.d.all.mono HB0.out.size)
      have hkI : (k : Int) < (l.length : Int) := by omega
      have hzI : (z : Int) ≤ 2304 := by have := HP.out.z; omega
      have y0 := (hall.cell (World.block_lt_of_cell? w _ x0)).trans x0
      have y1 := (hall.cell (World.block_lt_of_cell? w _ x1)).trans x1
      have y4 := (hall.cell (World.block_lt_of_cell? w _ x4)).trans x4
      have HX4 := Lib.hid x4
      clear x0 x1 x4 hall
      have HSL := Lib.hid hsl
      clear hsl
      obtain ⟨do_, num, si, sto, txt⟩ := s
      simp only at y0 y1 y4 HSL HX4
      go_upto_if 74 with fail
      go_cut [9] from 63 to 219 (fun s9 wx => ∃ (z' : Nat) (B' : List UInt8) (L' : PutL), s9 = .int .i64 z' ∧ PgL w1 wx b jb tb mb bb k z' B' L' 57)
      case first =>
        by_cases hdo : do_ = 6
        · subst hdo
          obtain ⟨n1, n2⟩ := u64N num 2305 (by decide)
          have n1 : (IntKind.u64.wrap num).tmod 2305 = (((IntKind.u64.wrap num).tmod 2305).toNat : Int) := n1
          have HN := Lib.hid (show ((IntKind.u64.wrap num).tmod 2305).toNat ≤ 2304 by have : ((IntKind.u64.wrap num).tmod 2305).toNat < 2305 := n2; omega)
          clear n2
          generalize ((IntKind.u64.wrap num).tmod 2305).toNat = m at *
          have hmI : (m : Int) ≤ 2304 := by have := HN.out; omega
          have HR := Lib.hid (pg_resize HP.out.d HP.out.l m HN.out)
          go_wp2_with fail
          refine HR.out.mono ?_
          rintro e w5 ⟨rfl, L5, h5, hl5⟩
          have H5 := Lib.hid h5
          have HL5 := Lib.hid hl5
          clear h5 hl5 HR y0 y1 y4
          go_wp2_with fail
          go_loopw [12] (fun s12 wr => ∃ j : Nat, m ≤ j ∧ j ≤ max m z ∧ s12 = .int .i64 j ∧ PgD w1 wr b jb tb mb k m (cutDat (chunk B) m) L5 [rowBR bb (wipe B m j)]) (fun i _ => z - (Go.RowKit.intOf i).toNat)
          case atStart => exact ⟨m, Nat.le_refl _, by omega, rfl, by rw [wipe_self B (by have := HP.out.len; have := HN.out; omega)]; exact H5.out⟩
          case round =>
            clear H5
            obtain ⟨j, hj1, hj2, rfl, h6⟩ := hrel
            have H6 := Lib.hid h6
            have hz := HP.out.z
            have hbl := HP.out.len
            have hwl : (wipe B m j).length = 2304 := by have := HN.out; rw [wipe_length hj1 (by omega), hbl]
            clear h6
            by_cases hjz : j < z
            · obtain ⟨cl, fr⟩ := (H6.out.rowB (i := 0) rfl).bytes j (by rw [hwl]; omega)
              have hws := Lib.hid (wipe_set (B := B) (n := m) (k := j) hj1 (by omega))
              generalize (wipe B m j)[j]'(by rw [hwl]; omega) = y at cl
              have hjI : (j : Int) < (z : Int) := by omega
              have hj23 : (j : Int) < 2304 := by omega
              clear hwl hbl hz
              go_wp2_with fail
              go_roundw
              case rel => exact ⟨j + 1, by omega, by omega, by simp, by rw [← hws.out]; exact H6.out.setB j 0⟩
              case measure => simp [Go.RowKit.intOf]; omega
            · obtain rfl : j = max m z := by omega
              have hjI : ¬ ((max m z : Nat) : Int) < (z : Int) := by omega
              have HM := Lib.hid (wipe_cut HP.out.len HP.out.z HN.out HP.out.tail)
              have HW := Lib.hid hwl
              generalize max m z = j at *
              clear hwl hbl hz
              go_wp2_with fail
              go_meet
              exact ⟨m, wipe B m j, L5, rfl, H6.out.dats fun q hq => (HM.out.2 q hq).symm, HW.out, HM.out.1, HN.out, HL5.out⟩
        · have hdb : (do_ == 6) = false := by simp [hdo]
          clear hdo
          obtain ⟨n1, n2⟩ := u64N num 36 (by decide)
          have n1 : (IntKind.u64.wrap num).tmod 36 = (((IntKind.u64.wrap num).tmod 36).toNat : Int) := n1
          have HN := Lib.hid (show ((IntKind.u64.wrap num).tmod 36).toNat < 36 from n2)
          clear n2
          generalize ((IntKind.u64.wrap num).tmod 36).toNat = p at *
          have hpI : (p : Int) < 36 := by have := HN.out; omega
          have HFu := Lib.hid fun V => full11_any txt V HSL.out
          have hfl := fullT_length txt
          generalize fullT txt = fs at *
          have HFL := Lib.hid hfl
          clear hfl
          by_cases hpz : 64 * p < z
          · have HPZ := Lib.hid hpz
            have hpzI : (p : Int) * 64 < (z : Int) := by omega
            have HSP := Lib.hid fun V hb => pg_set (HP.out.d.below (W' := V) hb) HP.out.l p HN.out hpz fs HFL.out
            clear hpz
            go_wp2_with fail
            refine (HFu.out _).mono ?_
            rintro e w5 ⟨rfl, hb⟩
            have HSP1 := Lib.hid (HSP.out _ hb)
            clear hb
            go_wp2_with fail
            refine HSP1.out.mono ?_
            rintro e w6 ⟨rfl, L6, h6, hl6⟩
            have H6 := Lib.hid h6
            have HL6 := Lib.hid hl6
            clear h6 hl6 HSP HSP1 y0 y1 y4
            have y4 := ((HB0.out.trans (H6.out.all.mono HB0.out.size)).cell (World.block_lt_of_cell? w _ HX4.out)).trans HX4.out
            go_upto_region 26 with fail
            go_cut [] from 63 to 219 (fun wx => PgD w1 wx b jb tb mb k z (fun q => if q = p then padL (fs.take (min (z - 64 * p) 64)) else chunk B q) L6 [rowBR bb (over B (64 * p) fs)])
            case first =>
              obtain ⟨f, hf⟩ : ∃ f, f = 64 * p := ⟨_, rfl⟩
              have hp36 := HN.out
              have hw1 : IntKind.i64.wrap ((p : Int) * 64) = (f : Int) := by rw [IntWalk.i64_in _ (by omega)]; omega
              have hfI : (f : Int) ≤ 2304 := by omega
              have hfn : ¬ 2304 = f := by omega
              have HF := Lib.hid hf
              clear hf hp36
              go_region_law (first
                | (go_simp; go_at_call 15; refine (HFu.out _).mono ?_; rintro e w7 ⟨rfl, hb⟩; have H7 := Lib.hid (H6.out.below (below_of_drew hb)); have HCF := Lib.hid (fun o (ho : o + 64 ≤ 2304) => show (∀ j, j < 64 → (w7.cell? ⟨bb, o + j, none⟩).isSome = true) ∧ (∀ j, j < 64 → w7.frozen? ⟨bb, o + j, none⟩ = false) from ⟨fun j hj => by rw [((H7.out.rowB (i := 0) rfl).bytes (o + j) (by rw [HP.out.len]; omega)).1]; rfl, fun j hj => ((H7.out.rowB (i := 0) rfl).bytes (o + j) (by rw [HP.out.len]; omega)).2⟩); clear hb)
                | (refine step_copy_string rfl _ _ _ _ rfl 5 Tryz.underlying53 (fun w => by kernel_rfl) bb _ _ _ rfl _ rfl (by show fs.length ≤ 2304 - f; have := HFL.out; have := HF.out; have := HN.out; omega) (fun j hj => (HCF.out f (by have := HF.out; have := HN.out; omega)).1 j (by have h : j < fs.length := hj; have := HFL.out; omega)) (fun j hj => (HCF.out f (by have := HF.out; have := HN.out; omega)).2 j (by have h : j < fs.length := hj; have := HFL.out; omega)) ?_))
              all_goals
                go_wp2_with fail
                go_meet
                exact H7.out.copied f (64 * p) HF.out (by have := HFL.out; have := HN.out; have := HP.out.len; omega)
            case rest =>
              clear H6 y4
              have H7c := Lib.hid hcut
              have BL1 := Lib.hid (show (over B (64 * p) fs).length = 2304 by rw [over_len (by have := HFL.out; have := HN.out; have := HP.out.len; omega)]; exact HP.out.len)
              clear hcut
              go_wp2_with fail
              go_loopw [15] (fun s15 wr => ∃ j : Nat, z ≤ j ∧ j ≤ 2304 ∧ s15 = .int .i64 j ∧ PgD w1 wr b jb tb mb k z (fun q => if q = p then padL (fs.take (min (z - 64 * p) 64)) else chunk B q) L6 [rowBR bb (wipe (over B (64 * p) fs) z j)]) (fun i _ => 2304 - (Go.RowKit.intOf i).toNat)
              case atStart => exact ⟨z, Nat.le_refl _, HP.out.z, rfl, by rw [wipe_self _ (by rw [BL1.out]; exact HP.out.z)]; exact H7c.out⟩
              case round =>
                clear H7c
                obtain ⟨j, hj1, hj2, rfl, h7⟩ := hrel
                have H7 := Lib.hid h7
                have hbl := BL1.out
                have hwl : (wipe (over B (64 * p) fs) z j).length = 2304 := by rw [wipe_length hj1 (by omega), hbl]
                clear h7
                by_cases hjz : j < 2304
                · obtain ⟨cl, fr⟩ := (H7.out.rowB (i := 0) rfl).bytes j (by rw [hwl]; omega)
                  have hws := Lib.hid (wipe_set (B := (over B (64 * p) fs)) (n := z) (k := j) hj1 (by omega))
                  generalize (wipe (over B (64 * p) fs) z j)[j]'(by rw [hwl]; omega) = y at cl
                  have hjI : (j : Int) < 2304 := by omega
                  clear hwl hbl
                  go_wp2_with fail
                  go_roundw
                  case rel => exact ⟨j + 1, by omega, by omega, by simp, by rw [← hws.out]; exact H7.out.setB j 0⟩
                  case measure => simp [Go.RowKit.intOf]; omega
                · obtain rfl : j = 2304 := by omega
                  have HW := Lib.hid hwl
                  clear hwl hbl
                  go_wp2_with fail
                  go_meet
                  exact ⟨z, _, L6, rfl, H7.out.dats fun q hq => (wipe_page HP.out.len HFL.out HP.out.z HN.out HPZ.out HP.out.tail q hq).symm, HW.out, wipe_tail BL1.out HP.out.z, HP.out.z, HL6.out⟩
          · have HPZ := Lib.hid hpz
            have hpzI : ¬ (p : Int) * 64 < (z : Int) := by omega
            have HSP := Lib.hid fun V hb => pg_setBad (HP.out.d.below (W' := V) hb) p (by omega) fs HFL.out
            clear hpz
            go_wp2_with fail
            refine (HFu.out _).mono ?_
            rintro e w5 ⟨rfl, hb⟩
            have HSP1 := Lib.hid (HSP.out _ hb)
            clear hb
            go_wp2_with fail
            refine HSP1.out.mono ?_
            rintro e w6 ⟨r6, rfl, hr6, h6⟩
            have H6 := Lib.hid h6
            have hr6b : (r6 == 0) = false := by simpa using hr6
            have HBL := Lib.hid HP.out.len
            clear h6 HSP HSP1 y0 y1 y4 hr6
            go_wp2_with fail
            go_loopw [15] (fun s15 wr => ∃ j : Nat, z ≤ j ∧ j ≤ 2304 ∧ s15 = .int .i64 j ∧ PgD w1 wr b jb tb mb k z (chunk B) L [rowBR bb (wipe B z j)]) (fun i _ => 2304 - (Go.RowKit.intOf i).toNat)
            case atStart => exact ⟨z, Nat.le_refl _, HP.out.z, rfl, by rw [wipe_self _ (by rw [HBL.out]; exact HP.out.z)]; exact H6.out⟩
            case round =>
              clear H6
              obtain ⟨j, hj1, hj2, rfl, h7⟩ := hrel
              have H7 := Lib.hid h7
              have hbl := HBL.out
              have hwl : (wipe B z j).length = 2304 := by rw [wipe_length hj1 (by omega), hbl]
              clear h7
              by_cases hjz : j < 2304
              · obtain ⟨cl, fr⟩ := (H7.out.rowB (i := 0) rfl).bytes j (by rw [hwl]; omega)
                have hws := Lib.hid (wipe_set (B := B) (n := z) (k := j) hj1 (by omega))
                generalize (wipe B z j)[j]'(by rw [hwl]; omega) = y at cl
                have hjI : (j : Int) < 2304 := by omega
                clear hwl hbl
                go_wp2_with fail
                go_roundw
                case rel => exact ⟨j + 1, by omega, by omega, by simp, by rw [← hws.out]; exact H7.out.setB j 0⟩
                case measure => simp [Go.RowKit.intOf]; omega
              · obtain rfl : j = 2304 := by omega
                have HW := Lib.hid hwl
                clear hwl hbl
                go_wp2_with fail
                go_meet
                exact ⟨z, wipe B z 2304, L, rfl, H7.out.dats fun q hq => by rw [wipe_same HP.out.len HP.out.z HP.out.tail], HW.out, wipe_tail HBL.out HP.out.z, HP.out.z, by have := HP.out.l; omega⟩
      case rest =>
        obtain ⟨z', B', L', rfl, hP⟩ := hcut
        have HQ := Lib.hid hP
        clear hP y0 y1 y4 HX4 HSL HP hzI
        go_wp2_with fail
        refine (pg_room HQ.out.d).mono ?_
        rintro e w5 ⟨rfl, hb⟩
        have HR := Lib.hid (HQ.out.below hb)
        clear hb HQ
        have hlI : (L'.length : Int) ≤ 57 := by have := HR.out.l; omega
        go_upto_if 147 with fail
        go_cut [6, 7] from 63 to 219 (fun s6 s7 wx => ∃ (tb' mb' : Nat) (L2 : PutL), s6 = devp tb' ∧ s7 = devp mb' ∧ PgL w1 wx b jb tb' mb' bb (k + 1) z' B' L2 45)
        case first =>
          by_cases h46 : 46 ≤ L'.length
          · have hri : (57 : Int) - (L'.length : Int) < 12 := by omega
            have HCm := Lib.hid (pg_commit HR.out.d (by intro e; subst e; simp at h46) (by omega))
            have HL := Lib.hid (And.intro HR.out.len (And.intro HR.out.tail HR.out.z))
            clear h46 HR
            go_wp2_with fail
            refine HCm.out.mono ?_
            rintro e w6 ⟨gg, rfl, hC⟩
            have HBg := Lib.hid (pg_begin hC)
            clear hC HCm
            go_wp2_with fail
            refine HBg.out.mono ?_
            rintro e w7 ⟨tb2, rfl, hB⟩
            have HNw := Lib.hid (pg_new hB)
            have HNw : Hid (Calls Tryz.prog 23 #[devp tb2, .agg #[.int .i64 4, .int .i64 50, .int .i64 60]] w7 fun e w' => ∃ mb, e = .returned (.tuple #[devp mb, .int .i64 0]) ∧ PgD w1 w' b jb tb2 mb (k + 1) z' (chunk B') [] [rowBR bb B']) := HNw
            obtain ⟨g0, g1, g2⟩ := (HG.out.below hB.all).cells
            clear hB HBg
            go_wp2_with fail
            refine HNw.out.mono ?_
            rintro e w8 ⟨mb2, rfl, hD⟩
            have HD := Lib.hid hD
            clear hD HNw g0 g1 g2
            go_wp2_with fail
            go_meet
            exact ⟨tb2, mb2, [], rfl, rfl, HD.out, HL.out.1, HL.out.2.1, HL.out.2.2, by simp⟩
          · have hri : ¬ (57 : Int) - (L'.length : Int) < 12 := by omega
            have HL45 := Lib.hid (show L'.length ≤ 45 by omega)
            clear h46
            go_wp2_with fail
            go_meet
            exact ⟨tb, mb, L', rfl, rfl, HR.out.d.up (by omega) (by omega), HR.out.len, HR.out.tail, HR.out.z, HL45.out⟩
        case rest =>
          obtain ⟨tb', mb', L2, rfl, rfl, hS⟩ := hcut
          have HS4 := Lib.hid hS
          clear hS HR hlI
          go_wp2_with fail
          go_loopw [22] (fun s22 wr => ∃ q : Nat, q ≤ 36 ∧ s22 = .int .i64 q ∧ PgL w1 wr b jb tb' mb' bb (k + 1) z' B' L2 45) (fun i _ => 36 - (Go.RowKit.intOf i).toNat)
          case atStart => exact ⟨0, Nat.zero_le _, rfl, HS4.out⟩
          case round =>
            clear HS4
            obtain ⟨q, hq, rfl, h7⟩ := hrel
            have H7 := Lib.hid h7
            clear h7
            by_cases hqz : 64 * q < z'
            · have hq36 : q < 36 := by have := H7.out.z; omega
              have hqI : (q : Int) * 64 < (z' : Int) := by omega
              have hz2 : (z' : Int) ≤ 2304 := by have := H7.out.z; omega
              have hcl := chunk_length H7.out.len hq36
              have HPg := Lib.hid (pg_page H7.out.d q hq36)
              have HCL := Lib.hid hcl
              clear hcl
              go_wp2_with fail
              refine HPg.out.mono ?_
              rintro e w6 ⟨rfl, hb⟩
              have H8 := Lib.hid (H7.out.below hb)
              clear hb HPg
              go_upto_region 44 with fail
              obtain ⟨to_, hto_⟩ : ∃ t, t = min 64 (z' - 64 * q) := ⟨_, rfl⟩
              have hto : (if (z' : Int) - (q : Int) * 64 < 64 then (z' : Int) - (q : Int) * 64 else 64) = (to_ : Int) := by rw [hto_]; split <;> omega
              have hto2 : min (64 : Int) ((z' : Int) - (q : Int) * 64) = (to_ : Int) := by rw [hto_]; omega
              first | rw [hto] | rw [hto2]
              obtain ⟨f, hf⟩ : ∃ f, f = 64 * q := ⟨_, rfl⟩
              obtain ⟨e, he⟩ : ∃ e, e = f + to_ := ⟨_, rfl⟩
              have hzz := H8.out.z
              have t1 : (to_ : Int) ≤ 64 := by omega
              have t1n : to_ ≤ 64 := by omega
              have f1 : (f : Int) ≤ (e : Int) := by omega
              have e1 : (e : Int) ≤ 2304 := by omega
              have hfn : ¬ 2304 = f := by omega
              have w1' : IntKind.i64.wrap ((q : Int) * 64) = (f : Int) := by rw [IntWalk.i64_in _ (by omega)]; omega
              have w2' : IntKind.i64.wrap ((f : Int) + (to_ : Int)) = (e : Int) := by rw [IntWalk.i64_in _ (by omega)]; omega
              have hcv : ∀ n, (convert 53 9 (.slice (some ⟨bb, f, none⟩) (e - f) (2304 - f))).run Tryz.prog (w6.drewN n) = .ok (str ((chunk B' q).take to_)) (w6.drewN n) := by
                intro n
                have H9 := Lib.hid (H8.out.below (below_drewN (Below.refl _ _) n))
                have hl : ((chunk B' q).take to_).length = e - f := by rw [List.length_take, HCL.out]; omega
                rw [← hl]
                refine run_convert_bytes_back (w6.drewN n) 53 9 5 ⟨bb, f, none⟩ (2304 - f) _ Tryz.underlying53 Tryz.underlying5 Tryz.underlying9 fun j hj => ?_
                have hj2 : j < to_ := by rw [hl] at hj; omega
                have hb := ((H9.out.d.rowB (i := 0) rfl).bytes (f + j) (by rw [H8.out.len]; omega)).1
                have hg : ((chunk B' q).take to_)[j] = B'[f + j]'(by rw [H8.out.len]; omega) := by
                  rw [List.getElem_take]
                  have h1 := chunk_get B' q j
                  rw [if_pos (by omega), List.getElem?_eq_getElem (by rw [HCL.out]; omega), List.getElem?_eq_getElem (by rw [H8.out.len]; omega)] at h1
                  subst hf
                  exact Option.some.inj h1
                rw [hg]
                have ha : (⟨bb, f, none⟩ : Addr).add j = ⟨bb, f + j, none⟩ := by unfold Addr.add; split <;> simp_all
                rw [ha]
                exact hb
              have hcl2 := HCL.out
              clear hto hto2 hto_ hf he hzz hqI hqz
              generalize chunk B' q = c at *
              have HC2 := Lib.hid hcl2
              go_quiet (fail)
              go_wp2_with fail
              go_roundw
              case rel => exact ⟨q + 1, by omega, by simp, H8.out.below (below_drewN (Below.refl _ _) _)⟩
              case measure => simp [Go.RowKit.intOf]; omega
            · have hqI : ¬ (q : Int) * 64 < (z' : Int) := by omega
              go_wp2_with fail
              go_roundw
              case rel => exact ⟨k + 1, z', tb', mb', B', L2, by omega, rfl, rfl, rfl, by simp, H7.out⟩
              case measure => simp [Go.RowKit.intOf]; omega
    · obtain rfl : k = l.length := by omega
      go_wp2_with fail
      refine (HAl.out _).mono ?_
      rintro e w5 ⟨rfl, hb⟩
      have H6 := Lib.hid (HP.out.d.below hb)
      clear hb HP
      go_wp2_with fail
      go_ret
      exact ⟨rfl, HB0.out.trans (H6.out.all.mono HB0.out.size)⟩
end Go.Proofs.YtnfiapjdkjbdhaaGreat
