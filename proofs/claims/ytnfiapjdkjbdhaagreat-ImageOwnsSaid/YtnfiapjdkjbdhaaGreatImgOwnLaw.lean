/- Layer 11 (image): as long as only Resize, SetPage, Enter and Leave change inodes, a block has one owner: the walk. -/
import Derived.Test.YtnfiapjdkjbdhaaGreatImg31
import Derived.Test.YtnfiapjdkjbdhaaGreatOArgs
import Derived.Deep.CutBlock
import Derived.Deep.DeepCutAuto
namespace Go.Proofs.YtnfiapjdkjbdhaaGreat
open Go.RowKit Go.Maps Go.Lib
set_option linter.unusedVariables false
set_option linter.unusedSimpArgs false
set_option maxRecDepth 10000
/-- The load, and the store, of a step: the walk doesn't open them. -/
def stepLoad (x : Value) : Sem Value := Instr.loadAt 44 x
def stepStore (x v : Value) : Sem Unit := Instr.storeAt 44 x v
theorem step_load_fold (x : Value) : Instr.loadAt 44 x = stepLoad x := rfl
theorem step_store_fold (x v : Value) : Instr.storeAt 44 x v = stepStore x v := rfl
attribute [local go_sem ↓] step_load_fold step_store_fold
theorem step_size : (Tryz.prog.info? 44).map (·.size) = some 14 := by kernel_rfl
theorem step_load (w : World) (a : Addr) (cs : List Value) (hl : cs.length = 14) (h : ∀ (j : Nat) v, cs[j]? = some v → w.cell? (a.add j) = some v) :
    (stepLoad (.pointer (some a))).run Tryz.prog w = .ok (.agg cs.toArray) w := by
  have hc : (loadCells a cs.length).run Tryz.prog w = .ok cs.toArray w := run_loadCells_list (P := Tryz.prog) w a cs h
  have hi := step_size
  unfold stepLoad
  simp only [Instr.loadAt, Instr.sureAddr, Sem.run_bind, Sem.run_pure, Result.andThen_ok]
  cases hq : Tryz.prog.info? 44 with
  | none => rw [hq] at hi; cases hi
  | some i =>
    have hs : i.size = cs.length := by rw [hq] at hi; rw [hl]; exact Option.some.inj hi
    have hagg : (isAgg 44).run Tryz.prog w = .ok true w := by
      unfold isAgg
      rw [Sem.run_bind, run_underlying Tryz.underlying44 w]
      rfl
    simp [loadVar, Sem.run_bind, hagg, sizeOf, typeInfo, hq, hs, hc]
/-- A step in a box of its own. -/
def BoxSt (W : World) (p : Nat) (cs : List Value) : Prop := W.heap[p]? = some (.cells cs.toArray 44 (0, 0))
def boxStR (p : Nat) (cs : List Value) : Res := memR (fun k => k = p) (fun W => BoxSt W p cs) fun W W' h hb => (hb p rfl).trans h
theorem BoxSt.cells {W : World} {p : Nat} {x : ISt} {k n z b c d e f : Int} {r : Bool} (h : BoxSt W p (stepL x k n z b c d e f r)) : W.cell? ⟨p, 0, none⟩ = some (.int .i64 x.do_) ∧ W.cell? ⟨p, 1, none⟩ = some (.int .i64 x.n) ∧ W.cell? ⟨p, 2, none⟩ = some (.int .u32 (x.i : Int)) ∧ W.cell? ⟨p, 3, none⟩ = some (.int .u32 (x.to_ : Int)) ∧ W.cell? ⟨p, 12, none⟩ = some (str x.s) :=
  ⟨cell_of_row _ _ 0 _ _ _ h, cell_of_row _ _ 1 _ _ _ h, cell_of_row _ _ 2 _ _ _ h, cell_of_row _ _ 3 _ _ _ h, cell_of_row _ _ 12 _ _ _ h⟩
theorem step_fresh (V : World) (x : ISt) (k n z b c d e f : Int) (r : Bool) :
    ∃ V', (stepStore (.pointer (some ⟨V.heap.size, 0, none⟩)) (.agg #[.int .i64 x.do_, .int .i64 x.n, .int .u32 (x.i : Int), .int .u32 (x.to_ : Int), .int .u8 k, .int .u16 n, .int .u32 z, .int .u16 b, .int .u16 c, .int .u16 d, .int .u16 e, .int .u16 f, str x.s, .bool r])).run Tryz.prog (V.alloc (.cells #[.int .i64 0, .int .i64 0, .int .u32 0, .int .u32 0, .int .u8 0, .int .u16 0, .int .u32 0, .int .u16 0, .int .u16 0, .int .u16 0, .int .u16 0, .int .u16 0, str [], .bool false] 44)) = .ok () V' ∧ Below V.heap.size V V' ∧ BoxSt V' V.heap.size (stepL x k n z b c d e f r) := by
  have h0 : (V.alloc (.cells #[.int .i64 0, .int .i64 0, .int .u32 0, .int .u32 0, .int .u8 0, .int .u16 0, .int .u32 0, .int .u16 0, .int .u16 0, .int .u16 0, .int .u16 0, .int .u16 0, str [], .bool false] 44)).heap[V.heap.size]? = some (.cells #[.int .i64 0, .int .i64 0, .int .u32 0, .int .u32 0, .int .u8 0, .int .u16 0, .int .u32 0, .int .u16 0, .int .u16 0, .int .u16 0, .int .u16 0, .int .u16 0, str [], .bool false] 44 (0, 0)) := heap_alloc_new V _
  have hb1 : Below V.heap.size V (V.alloc (.cells #[.int .i64 0, .int .i64 0, .int .u32 0, .int .u32 0, .int .u8 0, .int .u16 0, .int .u32 0, .int .u16 0, .int .u16 0, .int .u16 0, .int .u16 0, .int .u16 0, str [], .bool false] 44)) := (Below.refl _ _).alloc (Nat.le_refl _) _
  generalize (V.alloc (.cells #[.int .i64 0, .int .i64 0, .int .u32 0, .int .u32 0, .int .u8 0, .int .u16 0, .int .u32 0, .int .u16 0, .int .u16 0, .int .u16 0, .int .u16 0, .int .u16 0, str [], .bool false] 44)) = V1 at *
  have hst := run_storeCells_row (P := Tryz.prog) V1 V.heap.size 44 _ (stepL x k n z b c d e f r) h0 rfl (by simp [stepL, str, Value.oneCell'])
  have hi := step_size
  refine ⟨V1.setRow V.heap.size (stepL x k n z b c d e f r).toArray, ?_, hb1.trans (below_setRow (Below.refl _ _) V.heap.size (Nat.le_refl _) _), setRow_heap V1 V.heap.size _ (stepL x k n z b c d e f r).toArray _ _ h0⟩
  unfold stepStore
  simp only [Instr.storeAt, Instr.sureAddr, Sem.run_bind, Sem.run_pure, Result.andThen_ok]
  cases hq : Tryz.prog.info? 44 with
  | none => rw [hq] at hi; cases hi
  | some i =>
    have hs : i.size = 14 := by rw [hq] at hi; exact Option.some.inj hi
    simp [storeVar, sizeOf, typeInfo, hq, Value.cells, hs]
    simpa [stepL] using hst
theorem ISys.addSt {w W : World} {b jb tb mb rec : Nat} {G : Gm} {M : Dv} {L : PutL} (h : ISys w W b jb tb mb rec G M L []) {W' : World} (hb : Below W.heap.size W W') {cs : List Value} (hr : BoxSt W' W.heap.size cs) : ISys w W' b jb tb mb rec G M L [boxStR W.heap.size cs] :=
  h.front (h.tx.sys.addMem hb (p := fun W' => BoxSt W' W.heap.size cs) (own := fun k => k = W.heap.size) (hp := fun W W' h hb => (hb _ rfl).trans h) hr fun k hk => by rw [hk]; exact ⟨Nat.le_refl _, (Array.getElem?_eq_some_iff.1 hr).1⟩)
theorem ISys.boxSt {w W : World} {b jb tb mb rec p : Nat} {G : Gm} {M : Dv} {L : PutL} {cs : List Value} (h : ISys w W b jb tb mb rec G M L [boxStR p cs]) : BoxSt W p cs :=
  h.tx.sys.mem (i := 4) (show (iR b jb tb mb rec G M L [boxStR p cs])[4]? = some (boxStR p cs) from rfl)
theorem IStepsW.below {w W : World} {v : Value} {l : List ISt} (h : IStepsW w v l) (hb : Below w.heap.size w W) : IStepsW W v l := by
  obtain ⟨A, c, rfl, hc⟩ := h
  refine ⟨A, c, rfl, fun i x hx => ?_⟩
  obtain ⟨a, k, n, z, b, c', d, e, f, r, rfl, hat⟩ := hc i x hx
  exact ⟨a, k, n, z, b, c', d, e, f, r, rfl, fun j v hv => (hb.cell (World.block_lt_of_cell? w _ (hat j v hv))).trans (hat j v hv)⟩
/-- A disk still. -/
def OwD (w W : World) (b jb tb mb : Nat) (G : Gm) : Prop := ∃ L im tab, ISys w W b jb tb mb 0 G (fmtD G) L [] ∧ Disk11 G (vw (fmtD G).cur L) im tab
theorem OwS.all {w W : World} {b jb tb mb k : Nat} {G : Gm} (h : OwS w W b jb tb mb G k) : Below w.heap.size w W := by
  obtain ⟨L, im, tab, h1, -⟩ := h
  exact h1.all
theorem OwD.all {w W : World} {b jb tb mb : Nat} {G : Gm} (h : OwD w W b jb tb mb G) : Below w.heap.size w W := by
  obtain ⟨L, im, tab, h1, -⟩ := h
  exact h1.all
set_option maxHeartbeats 4000000 in
theorem own_let (i b j : Int) (w : World) (v : Value) (l : List ISt) (hv : IStepsW w v l) (hs : ∀ x ∈ l, fineI x) (hn : l.length ≤ maxLen) (ha : ∀ V, Calls Tryz.prog 7 #[geoV i b j] V fun e w' => e = .returned (.bool false) ∧ Below V.heap.size V w') :
    Calls Tryz.prog 3 #[geoV i b j, v] w fun e w' => e = .returned (.bool true) ∧ Below w.heap.size w w' := by
  have HA := Lib.hid ha
  have HL := Lib.hid fun V => alive11_any V
  obtain ⟨g0, g1, g2⟩ := GeoAt.cells (heap_alloc_new w (.cells #[.int .i64 i, .int .i64 b, .int .i64 j] 23) : GeoAt _ w.heap.size i b j)
  have HB := Lib.hid ((Below.refl w.heap.size w).alloc (Nat.le_refl _) (.cells #[.int .i64 i, .int .i64 b, .int .i64 j] 23))
  have HLong := Lib.hid (long11_any v l _ ((hv.below HB.out).less) hs hn)
  clear ha hv hs hn
  go_enter Tryz.func3, Tryz.ntmps3
  go_wp2_with fail
  refine HLong.out.mono ?_
  rintro e w1 ⟨⟨r, rfl, hr⟩, rfl⟩
  clear HLong hr
  cases r
  case true =>
    go_wp2_with fail
    refine (HL.out _).mono ?_
    rintro e w2 ⟨rfl, hb⟩
    have HB2 := Lib.hid (HB.out.trans (hb.mono HB.out.size))
    clear hb
    go_wp2_with fail
    go_ret
    exact ⟨rfl, HB2.out⟩
  case false =>
    go_wp2_with fail
    refine (HA.out _).mono ?_
    rintro e w1 ⟨rfl, hb⟩
    have HB1 := Lib.hid (HB.out.trans (hb.mono HB.out.size))
    clear hb
    go_wp2_with fail
    refine (HL.out _).mono ?_
    rintro e w2 ⟨rfl, hb⟩
    have HB2 := Lib.hid (HB1.out.trans (hb.mono HB1.out.size))
    clear hb
    go_wp2_with fail
    go_ret
    exact ⟨rfl, HB2.out⟩
set_option maxHeartbeats 4000000 in
theorem own_big (G : Gm) (hG : G.ok) (hl : ¬ (G.i ≤ 30 ∧ G.b ≤ 60 ∧ G.j ≤ 60)) (w : World) (v : Value) (l : List ISt) (hv : IStepsW w v l) (hs : ∀ x ∈ l, fineI x) (hn : l.length ≤ maxLen) :
    Calls Tryz.prog 3 #[gv G, v] w fun e w' => e = .returned (.bool true) ∧ Below w.heap.size w w' := by
  have HA := Lib.hid fun V => may_ok _ _ _ V (gm_mayI hG)
  have HLa := Lib.hid fun V => large_yes G hl V
  have HL := Lib.hid fun V => alive11_any V
  have hg0 : GeoAt (w.alloc (.cells #[.int .i64 (G.i : Int), .int .i64 (G.b : Int), .int .i64 (G.j : Int)] 23)) w.heap.size G.i G.b G.j := heap_alloc_new w _
  obtain ⟨g0, g1, g2⟩ := hg0.cells
  have HG0 := Lib.hid hg0
  have HB := Lib.hid ((Below.refl w.heap.size w).alloc (Nat.le_refl _) (.cells #[.int .i64 (G.i : Int), .int .i64 (G.b : Int), .int .i64 (G.j : Int)] 23))
  have HLong := Lib.hid (long11_any v l _ ((hv.below HB.out).less) hs hn)
  clear hg0 hl hv hs hn
  go_enter Tryz.func3, Tryz.ntmps3
  go_wp2_with fail
  refine HLong.out.mono ?_
  rintro e w1 ⟨⟨r, rfl, hr⟩, rfl⟩
  clear HLong hr
  cases r
  case true =>
    go_wp2_with fail
    refine (HL.out _).mono ?_
    rintro e w2 ⟨rfl, hb⟩
    have HB2 := Lib.hid (HB.out.trans (hb.mono HB.out.size))
    clear hb
    go_wp2_with fail
    go_ret
    exact ⟨rfl, HB2.out⟩
  case false =>
    go_wp2_with fail
    refine (HA.out _).mono ?_
    rintro e w1 ⟨rfl, hb⟩
    have HB1 := Lib.hid (HB.out.trans (hb.mono HB.out.size))
    have hg1 := HG0.out.below hb
    clear hb g0 g1 g2
    obtain ⟨g0, g1, g2⟩ := hg1.cells
    go_wp2_with fail
    refine (HLa.out _).mono ?_
    rintro e w2 ⟨rfl, hb⟩
    have HB2 := Lib.hid (HB1.out.trans (hb.mono HB1.out.size))
    clear hb g0 g1 g2 hg1
    go_wp2_with fail
    refine (HL.out _).mono ?_
    rintro e w3 ⟨rfl, hb⟩
    have HB3 := Lib.hid (HB2.out.trans (hb.mono HB2.out.size))
    clear hb
    go_wp2_with fail
    go_ret
    exact ⟨rfl, HB3.out⟩
set_option maxHeartbeats 8000000 in
set_option maxRecDepth 100000 in
theorem own_small (G : Gm) (hG : Sm G) (w : World) (v : Value) (l : List ISt) (hv : IStepsW w v l) (hs : ∀ x ∈ l, fineI x) (hn : l.length ≤ maxLen) :
    Calls Tryz.prog 3 #[gv G, v] w fun e w' => e = .returned (.bool true) ∧ Below w.heap.size w w' := by
  have HA := Lib.hid fun V => may_ok _ _ _ V (gm_mayI hG.ok)
  have HLa := Lib.hid fun V => large_no G ⟨hG.i, hG.b, hG.j⟩ V
  have HL := Lib.hid fun V => alive11_any V
  have HDk := Lib.hid fun V => disk_any G hG V
  have HFi := Lib.hid fun V => file11_any V
  have h30 := hG.i
  have hg0 : GeoAt (w.alloc (.cells #[.int .i64 (G.i : Int), .int .i64 (G.b : Int), .int .i64 (G.j : Int)] 23)) w.heap.size G.i G.b G.j := heap_alloc_new w _
  obtain ⟨g0, g1, g2⟩ := hg0.cells
  have HG0 := Lib.hid hg0
  have HB := Lib.hid ((Below.refl w.heap.size w).alloc (Nat.le_refl _) (.cells #[.int .i64 (G.i : Int), .int .i64 (G.b : Int), .int .i64 (G.j : Int)] 23))
  have HLong := Lib.hid (long11_any v l _ ((hv.below HB.out).less) hs hn)
  have HS := Lib.hid hs
  have hmax := hn
  unfold maxLen at hmax
  obtain ⟨A, cp, rfl, hc⟩ := hv
  have HC := Lib.hid hc
  clear hg0 hs hn hc
  go_enter Tryz.func3, Tryz.ntmps3
  go_wp2_with fail
  refine HLong.out.mono ?_
  rintro e w1 ⟨⟨r, rfl, hr⟩, rfl⟩
  clear HLong
  cases r
  case true =>
    go_wp2_with fail
    refine (HL.out _).mono ?_
    rintro e w2 ⟨rfl, hb⟩
    have HB2 := Lib.hid (HB.out.trans (hb.mono HB.out.size))
    clear hb
    go_wp2_with fail
    go_ret
    exact ⟨rfl, HB2.out⟩
  have hlen := (hr rfl).1
  clear hr
  go_wp2_with fail
  refine (HA.out _).mono ?_
  rintro e w1 ⟨rfl, hb⟩
  have HB1 := Lib.hid (HB.out.trans (hb.mono HB.out.size))
  have HG1 := Lib.hid (HG0.out.below hb)
  clear hb g0 g1 g2
  obtain ⟨g0, g1, g2⟩ := HG1.out.cells
  go_wp2_with fail
  refine (HLa.out _).mono ?_
  rintro e w2 ⟨rfl, hb⟩
  have HB2 := Lib.hid (HB1.out.trans (hb.mono HB1.out.size))
  have HG2 := Lib.hid (HG1.out.below hb)
  clear hb g0 g1 g2
  obtain ⟨g0, g1, g2⟩ := HG2.out.cells
  go_wp2_with fail
  refine (HDk.out _).mono ?_
  rintro e w3 ⟨b, jb, tb, mb, rfl, h3⟩
  have HO := Lib.hid (own_start h3)
  clear h3 g0 g1 g2 HA HLa HDk HG0 HG1 HB HB1
  go_wp2_with fail
  go_loopw [9] (fun s wr => ∃ k : Nat, 2 ≤ k ∧ k ≤ 5 ∧ s = .int .u32 k ∧ OwS w2 wr b jb tb mb G k) (fun s _ => 6 - (Go.RowKit.intOf s).toNat)
  case atStart => exact ⟨2, by omega, by omega, rfl, HO.out⟩
  case round =>
    clear HO
    obtain ⟨k, hk2, hk5, rfl, hP⟩ := hrel
    have HP := Lib.hid hP
    clear hP
    obtain ⟨g0, g1, g2⟩ := (HG2.out.below HP.out.all).cells
    have hwi : IntKind.u32.wrap (G.i : Int) = (G.i : Int) := IntWalk.u32_in _ ⟨by omega, by omega⟩
    go_upto_region 7 with fail
    go_cut [42] from 34 to 55 (fun s wx => s = .bool (decide (k ≤ 4 ∧ k ≤ G.i)) ∧ wx = wr)
    case first =>
      by_cases h4 : k ≤ 4
      · have d4 : decide ((k : Int) ≤ 4) = true := decide_eq_true (by omega)
        by_cases hi : k ≤ G.i
        · have di : decide ((k : Int) ≤ (G.i : Int)) = true := decide_eq_true (by omega)
          go_wp2_with fail
          go_meet
          exact ⟨by simp [h4, hi], rfl⟩
        · have di : decide ((k : Int) ≤ (G.i : Int)) = false := decide_eq_false (by omega)
          go_wp2_with fail
          go_meet
          exact ⟨by simp [h4, hi], rfl⟩
      · have d4 : decide ((k : Int) ≤ 4) = false := decide_eq_false (by omega)
        go_wp2_with fail
        go_meet
        exact ⟨by simp [h4], rfl⟩
    case rest =>
      obtain ⟨rfl, rfl⟩ := hcut
      by_cases hkk : k ≤ 4 ∧ k ≤ G.i
      · rw [decide_eq_true hkk]
        have HT := Lib.hid (own_take HP.out hk2 hkk.1 hkk.2)
        have HPu := Lib.hid fun V (hV : OwT w2 V b jb tb mb G k) => own_put hV hk2 hkk.1 hkk.2
        have HPu : Hid (∀ V, OwT w2 V b jb tb mb G k → Calls Tryz.prog 12 #[devp mb, .int .u32 (k : Int), .agg #[.int .u8 1, .int .u16 1, .int .u32 0, .int .u16 0, .int .u16 0, .int .u16 0, .int .u16 0, .int .u16 0]] V fun e w' => e = .returned (.int .i64 0) ∧ OwS w2 w' b jb tb mb G (k + 1)) := HPu
        obtain ⟨h4, hi⟩ := hkk
        clear HP g0 g1 g2
        go_wp2_with fail
        refine HT.out.mono ?_
        rintro e w5 ⟨rfl, h5⟩
        have H5 := Lib.hid h5
        clear h5 HT
        go_wp2_with fail
        refine (HFi.out _).mono ?_
        rintro e w6 ⟨rfl, hb⟩
        have H6 := Lib.hid (H5.out.below hb)
        clear hb H5
        go_wp2_with fail
        refine (HPu.out _ H6.out).mono ?_
        rintro e w7 ⟨rfl, h7⟩
        have H7 := Lib.hid h7
        clear h7 HPu H6
        go_wp2_with fail
        go_roundw
        case rel => exact ⟨k + 1, by omega, by omega, by first | rfl | (congr 1 <;> simp) | simp, H7.out⟩
        case measure => simp [Go.RowKit.intOf]; omega
      · rw [decide_eq_false hkk]
        obtain ⟨L, im, tab, h1, hd, -⟩ := HP.out
        have HI := Lib.hid (show OwD w2 _ b jb tb mb G from ⟨L, im, tab, h1, hd⟩)
        clear h1 hd HP g0 g1 g2
        go_wp2_with fail
        go_loopw [10] (fun s wr => ∃ k : Nat, k ≤ l.length ∧ s = .int .i64 k ∧ OwD w2 wr b jb tb mb G) (fun s _ => l.length - (Go.RowKit.intOf s).toNat)
        case atStart => exact ⟨0, Nat.zero_le _, rfl, HI.out⟩
        case round =>
          clear HI
          obtain ⟨q, hq, rfl, hP⟩ := hrel
          have HP := Lib.hid hP
          clear hP
          by_cases hlt : q < l.length
          · obtain ⟨aa, sk, sn, sz, sb, sc, sd, se, sf, sr, rfl, hat⟩ := HC.out q _ (List.getElem?_eq_getElem hlt)
            have hfine := HS.out l[q] (List.getElem_mem _)
            generalize l[q] = s at *
            obtain ⟨L, im, tab, h1, hd⟩ := HP.out
            have H1 := Lib.hid h1
            have HD := Lib.hid hd
            have hall := HB2.out.trans (h1.all.mono HB2.out.size)
            have hld := step_load wr (aa.add (q * 14)) (stepL s sk sn sz sb sc sd se sf sr) rfl (fun j v hv => (hall.cell (World.block_lt_of_cell? w _ (hat j v hv))).trans (hat j v hv))
            replace hld : (stepLoad (.pointer (some (aa.add (q * 14))))).run Tryz.prog wr = .ok (.agg #[.int .i64 s.do_, .int .i64 s.n, .int .u32 (s.i : Int), .int .u32 (s.to_ : Int), .int .u8 sk, .int .u16 sn, .int .u32 sz, .int .u16 sb, .int .u16 sc, .int .u16 sd, .int .u16 se, .int .u16 sf, str s.s, .bool sr]) wr := hld
            obtain ⟨w5, hst, hb5, hbx⟩ := step_fresh wr s sk sn sz sb sc sd se sf sr
            have HX5 := Lib.hid (h1.addSt hb5 hbx)
            obtain ⟨y0, y1, y2, y3, y12⟩ := hbx.cells
            replace hst : (stepStore (.pointer (some ⟨wr.heap.size, 0, none⟩)) (.agg #[.int .i64 s.do_, .int .i64 s.n, .int .u32 (s.i : Int), .int .u32 (s.to_ : Int), .int .u8 sk, .int .u16 sn, .int .u32 sz, .int .u16 sb, .int .u16 sc, .int .u16 sd, .int .u16 se, .int .u16 sf, str s.s, .bool sr])).run Tryz.prog (wr.alloc (.cells #[.int .i64 0, .int .i64 0, .int .u32 0, .int .u32 0, .int .u8 0, .int .u16 0, .int .u32 0, .int .u16 0, .int .u16 0, .int .u16 0, .int .u16 0, .int .u16 0, .string ⟨#[]⟩, .bool false] 44)) = .ok () w5 := hst
            have H5 := Lib.hid (h1.below hb5)
            have hkI : (q : Int) < (l.length : Int) := by omega
            have HSL := Lib.hid hfine
            clear h1 hd hat hfine hall HP hbx
            obtain ⟨do_, num, si, sto, txt⟩ := s
            simp only at hld hst y0 y1 y2 y3 y12 HSL
            have hsp := fun V (hV : ISys w2 V b jb tb mb 0 G (fmtD G) L [boxStR wr.heap.size (stepL ⟨do_, num, si, sto, txt⟩ sk sn sz sb sc sd se sf sr)]) => setPage11_kept hV HD.out (si : Int) (by omega) (by have := HSL.out.2.1; simp only at this; omega) num (fullT txt) (fullT_length txt)
            have HSP := Lib.hid hsp
            clear hsp
            have hsi : (si : Int) < 4294967296 := by have := HSL.out.2.1; simp only at this; omega
            have hto : sto < 4294967296 := HSL.out.2.2.1
            have HFu := Lib.hid fun V => full11_any txt V HSL.out.1
            obtain ⟨z, hz⟩ : ∃ z : Nat, IntKind.u32.wrap num = (z : Int) := ⟨(IntKind.u32.wrap num).toNat, by rw [IntKind.wrap_u32]; omega⟩
            have HRs := Lib.hid fun V (hV : ISys w2 V b jb tb mb 0 G (fmtD G) L []) => resize11_kept hV HD.out (si : Int) (by omega) hsi z
            have HEn := Lib.hid fun V (hV : ISys w2 V b jb tb mb 0 G (fmtD G) L []) => enter11_any hV HD.out (si : Int) (by omega) hsi txt (by have := HSL.out.1; unfold maxLen; simp only at this; omega) sto hto
            have HLe := Lib.hid fun V (hV : ISys w2 V b jb tb mb 0 G (fmtD G) L []) => leave11_any hV HD.out (si : Int) (by omega) hsi txt
            generalize fullT txt = ft at *
            clear hsi hto
            go_upto_block 4 with fail
            go_cut [12] from 56 to 115 (fun s12 wx => ∃ (r : Int) (L' : PutL), s12 = .int .i64 r ∧ Kept11 G (fmtD G).cur im L' r ∧ ISys w2 wx b jb tb mb 0 G (fmtD G) L' [])
            case first =>
              clear hld hst
              by_cases d5 : do_ = 5
              · subst d5
                go_upto_region 18 with fail
                go_region_held3 (fun W' => W'.cell? ⟨wr.heap.size, 1, none⟩ = some (.int .i64 num) ∧ W'.cell? ⟨wr.heap.size, 2, none⟩ = some (.int .u32 (si : Int)) ∧ W'.cell? ⟨wr.heap.size, 12, none⟩ = some (str txt))
                  (first | exact ⟨y1, y2, y12⟩ | go_keep)
                  (first | (go_at_call 15; ((with_reducible refine (HFu.out _).mono ?_); rintro e w6 ⟨rfl, hb⟩; have HB6 := Lib.hid (below_of_drew hb); have y1 := (HB6.out.cell (World.block_lt_of_cell? _ _ y1)).trans y1; have y2 := (HB6.out.cell (World.block_lt_of_cell? _ _ y2)).trans y2; have y12 := (HB6.out.cell (World.block_lt_of_cell? _ _ y12)).trans y12; clear hb))
                         | (go_at_call 14; ((with_reducible refine (HSP.out _ (by first | with_reducible exact (HX5.out.below HB6.out).drew | with_reducible exact HX5.out.below HB6.out)).mono ?_); rintro e w7 ⟨r, L', rfl, hk6, h6⟩; have H6 := Lib.hid h6; have HK := Lib.hid hk6; obtain ⟨y0, y1, y2, y3, y12⟩ := h6.boxSt.cells; clear h6 hk6)))
                all_goals (go_wp2_with fail; go_meet)
                all_goals exact ⟨r, L', rfl, HK.out, H6.out.drop⟩
              · by_cases d6 : do_ = 6
                · subst d6
                  go_wp2_with fail
                  refine (HRs.out _ H5.out).mono ?_
                  rintro e w6 ⟨r, L', rfl, hk6, h6⟩
                  have H6 := Lib.hid h6
                  have HK := Lib.hid hk6
                  clear h6 hk6
                  go_wp2_with fail
                  go_meet
                  exact ⟨r, L', rfl, HK.out, H6.out⟩
                · by_cases d7 : do_ = 7
                  · subst d7
                    go_wp2_with fail
                    refine (HEn.out _ H5.out).mono ?_
                    rintro e w6 ⟨r, L', rfl, hk6, h6⟩
                    have H6 := Lib.hid h6
                    have HK := Lib.hid hk6
                    clear h6 hk6
                    go_wp2_with fail
                    go_meet
                    exact ⟨r, L', rfl, HK.out, H6.out⟩
                  · by_cases d8 : do_ = 8
                    · subst d8
                      go_wp2_with fail
                      refine (HLe.out _ H5.out).mono ?_
                      rintro e w6 ⟨u, r, L', rfl, hk6, h6⟩
                      have H6 := Lib.hid h6
                      have HK := Lib.hid hk6
                      clear h6 hk6
                      go_wp2_with fail
                      go_meet
                      exact ⟨r, L', rfl, HK.out, H6.out⟩
                    · have b5 : (do_ == 5) = false := by simpa using d5
                      have b6 : (do_ == 6) = false := by simpa using d6
                      have b7 : (do_ == 7) = false := by simpa using d7
                      have b8 : (do_ == 8) = false := by simpa using d8
                      go_wp2_with fail
                      go_meet
                      exact ⟨0, L, rfl, .inr ⟨tab, HD.out⟩, H5.out⟩
            case rest =>
              obtain ⟨r, L', rfl, hk, h6⟩ := hcut
              have H6 := Lib.hid h6
              clear hld hst y0 y1 y2 y3 y12 HSP HFu HRs HEn HLe H1 H5 HD
              by_cases hr : r = 4
              · subst hr
                clear h6 hk
                go_wp2_with fail
                refine (HL.out _).mono ?_
                rintro e w8 ⟨rfl, hb⟩
                have HB8 := Lib.hid (HB2.out.trans ((H6.out.all.trans (hb.mono H6.out.all.size)).mono HB2.out.size))
                clear hb
                go_wp2_with fail
                go_ret
                exact ⟨rfl, HB8.out⟩
              · have hrb : (r == 4) = false := by simpa using hr
                obtain ⟨tab', hd'⟩ := hk.resolve_left hr
                have HOw := Lib.hid (fun V hb => owned11 (h6.below (W' := V) hb) hd')
                have HD' := Lib.hid hd'
                obtain ⟨g0, g1, g2⟩ := (HG2.out.below h6.all).cells
                clear h6 hk hd'
                go_wp2_with fail
                refine (HOw.out _ (Below.refl _ _)).mono ?_
                rintro e w8 ⟨rfl, hb⟩
                have H8 := Lib.hid (H6.out.below hb)
                clear hb g0 g1 g2 HOw
                go_wp2_with fail
                go_roundw
                case rel => exact ⟨q + 1, by omega, by simp, ⟨L', im, tab', H8.out, HD'.out⟩⟩
                case measure => simp [Go.RowKit.intOf]; omega
          · obtain rfl : q = l.length := by omega
            go_wp2_with fail
            refine (HL.out _).mono ?_
            rintro e w8 ⟨rfl, hb⟩
            have HB8 := Lib.hid (HB2.out.trans ((HP.out.all.trans (hb.mono HP.out.all.size)).mono HB2.out.size))
            clear hb
            go_wp2_with fail
            go_ret
            exact ⟨rfl, HB8.out⟩
theorem walk_ImageOwns (w : World) (i b j : Int) (v : Value) (l : List ISt) (hv : IStepsW w v l) (hs : ∀ x ∈ l, fineI x) (hn : l.length ≤ maxLen ∧ l.length * 72 ≤ 140737488351232) :
    Calls Tryz.prog 3 #[geoV i b j, v] w fun e w' => e = .returned (.bool true) ∧ Below w.heap.size w w' := by
  by_cases hm : mayI i b j
  · obtain ⟨G, hG, rfl, rfl, rfl⟩ := mayI_gm hm
    by_cases hl : G.i ≤ 30 ∧ G.b ≤ 60 ∧ G.j ≤ 60
    · exact own_small G (sm_of hG hl) w v l hv hs hn.1
    · exact own_big G hG hl w v l hv hs hn.1
  · exact own_let i b j w v l hv hs hn.1 fun V => may_bad i b j V hm
end Go.Proofs.YtnfiapjdkjbdhaaGreat
