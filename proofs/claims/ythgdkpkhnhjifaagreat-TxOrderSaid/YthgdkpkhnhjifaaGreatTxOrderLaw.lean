/- Layer 8 (tx): in which order unlike sectors are written. -/
import Derived.Test.YthgdkpkhnhjifaaGreatTxL8
namespace Go.Proofs.YthgdkpkhnhjifaaGreat
open Go.RowKit Go.Maps
set_option linter.unusedVariables false
set_option linter.unusedSimpArgs false
set_option maxRecDepth 10000
abbrev ordRs (b1 jb1 b2 jb2 t1 t2 m : Nat) (L1 L2 : PutL) (c : Nat → Nat) (nv sv : Value) (ps : PutL) : List Res :=
  [devR b1 (dev0 40), jourR jb1 b1 4 12 0, devR b2 (dev0 40), jourR jb2 b2 4 12 0, txR t1 b1 jb1 40 L1, txR t2 b2 jb2 40 L2, mapR m 40 c, ownR 3 nv ps.length (ps.map fun p => encI p.1), ownR 9 sv ps.length (ps.map fun p => str p.2)]
/-- What the first loop keeps. -/
structure OrdI (w W : World) (b1 jb1 b2 jb2 t1 t2 m : Nat) (c : Nat → Nat) (nv sv : Value) (ps : PutL) (k : Nat) : Prop where
  sys : Sys w W (ordRs b1 jb1 b2 jb2 t1 t2 m [] [] c nv sv ps)
  nod : (ps.map (·.1)).Nodup
  each : ∀ p ∈ ps, 16 ≤ p.1 ∧ p.1 < 40 ∧ p.2.length = 64
  cnt : ∀ i, 0 < c i ↔ i ∈ ps.map (·.1)
  few : ∀ i, c i ≤ k
  len : ps.length ≤ k
/-- Both transactions, in the second loop. -/
structure Two (w W : World) (b1 jb1 b2 jb2 t1 t2 m : Nat) (c : Nat → Nat) (nv sv : Value) (ps L1 L2 : PutL) : Prop where
  one : TxSys w W (ordRs b1 jb1 b2 jb2 t1 t2 m L1 L2 c nv sv ps) 4 0 1 t1 b1 jb1 4 12 0 (dev0 40) L1
  two : TxSys w W (ordRs b1 jb1 b2 jb2 t1 t2 m L1 L2 c nv sv ps) 5 2 3 t2 b2 jb2 4 12 0 (dev0 40) L2
theorem wr_zero {L : PutL} {n : Nat} {z : List UInt8} (hn : n < 40) (hz : z.length = 64) (hl : L.length < 10) : wrE 40 10 L (n : Int) z = 0 ∧ wrL 40 10 L (n : Int) z = ins L n z := by
  have h : wrE 40 10 L (n : Int) z = 0 := by
    unfold wrE
    rw [if_neg (by omega), if_neg (by rintro ⟨-, e⟩; omega)]
  refine ⟨h, ?_⟩
  unfold wrL
  rw [if_pos h, Int.toNat_natCast]
section
variable {w W : World} {b1 jb1 b2 jb2 t1 t2 m : Nat} {c : Nat → Nat} {nv sv : Value} {ps L1 L2 : PutL}
theorem Two.below (h : Two w W b1 jb1 b2 jb2 t1 t2 m c nv sv ps L1 L2) {W' : World} (hb : Below W.heap.size W W') : Two w W' b1 jb1 b2 jb2 t1 t2 m c nv sv ps L1 L2 := ⟨h.one.below hb, h.two.below hb⟩
theorem two_write1 (h : Two w W b1 jb1 b2 jb2 t1 t2 m c nv sv ps L1 L2) (n : Nat) (z : List UInt8) (hn : n < 40) (hz : z.length = 64) (hl : L1.length < 10) :
    Calls Tryz.prog 24 #[devp t1, .int .i64 (n : Int), str z] W fun e w' => e = .returned (.int .i64 0) ∧ Two w w' b1 jb1 b2 jb2 t1 t2 m c nv sv ps (ins L1 n z) L2 := by
  have h1 := sys_txWrite h.one (n : Int) z (by omega)
  obtain ⟨e1, e2⟩ := wr_zero hn hz hl
  rw [show capL 12 = 10 by decide, show (dev0 40).n = 40 from rfl, e1, e2] at h1
  exact h1.mono fun e w' hx => ⟨hx.1, hx.2, h.two.other (r := 4) hx.2.sys (by decide) (by decide) (by decide)⟩
theorem two_write2 (h : Two w W b1 jb1 b2 jb2 t1 t2 m c nv sv ps L1 L2) (n : Nat) (z : List UInt8) (hn : n < 40) (hz : z.length = 64) (hl : L2.length < 10) :
    Calls Tryz.prog 24 #[devp t2, .int .i64 (n : Int), str z] W fun e w' => e = .returned (.int .i64 0) ∧ Two w w' b1 jb1 b2 jb2 t1 t2 m c nv sv ps L1 (ins L2 n z) := by
  have h1 := sys_txWrite h.two (n : Int) z (by omega)
  obtain ⟨e1, e2⟩ := wr_zero hn hz hl
  rw [show capL 12 = 10 by decide, show (dev0 40).n = 40 from rfl, e1, e2] at h1
  exact h1.mono fun e w' hx => ⟨hx.1, h.one.other (r := 5) hx.2.sys (by decide) (by decide) (by decide), hx.2⟩
theorem two_cells {An As : Option Addr} {cn cs : Nat} (h : Sys w W (ordRs b1 jb1 b2 jb2 t1 t2 m L1 L2 c (.slice An ps.length cn) (.slice As ps.length cs) ps)) (k : Nat) (hk : k < ps.length) :
    ∃ g1 g2, An = some ⟨g1, 0, none⟩ ∧ As = some ⟨g2, 0, none⟩ ∧ W.cell? ⟨g1, k, none⟩ = some (.int .i64 (ps[k].1 : Int)) ∧ W.cell? ⟨g2, k, none⟩ = some (str ps[k].2) := by
  obtain ⟨A, d, e1, h1⟩ := h.ownAt (i := 7) rfl
  obtain ⟨B, d2, e2, h2⟩ := h.ownAt (i := 8) rfl
  obtain rfl : An = A := by injection e1
  obtain rfl : As = B := by injection e2
  obtain ⟨g1, f1, c1⟩ := h1 k (by simpa using hk)
  obtain ⟨g2, f2, c2⟩ := h2 k (by simpa using hk)
  rw [List.getElem_map] at c1 c2
  exact ⟨g1, g2, f1, f2, c1, c2⟩
theorem take_more {ps : PutL} {k : Nat} (h : k < ps.length) : insAll (ps.take (k + 1)) = ins (insAll (ps.take k)) ps[k].1 ps[k].2 := by
  rw [List.take_succ_eq_append_getElem h, insAll_snoc]
theorem rev_more {ps : PutL} {k q : Nat} (h : k < ps.length) (hq : q = ps.length - 1 - k) (hql : q < ps.length) : insAll (ps.reverse.take (k + 1)) = ins (insAll (ps.reverse.take k)) ps[q].1 ps[q].2 := by
  subst hq
  rw [List.take_succ_eq_append_getElem (by rw [List.length_reverse]; exact h), insAll_snoc, List.getElem_reverse]
theorem take_few {ps : PutL} (k : Nat) (h : ps.length ≤ 9) : (insAll (ps.take k)).length < 10 := by
  have := insAll_length (ps.take k)
  rw [List.length_take] at this
  omega
end
set_option maxRecDepth 100000 in
set_option maxHeartbeats 4000000 in
theorem walk_TxOrder (w : World) (v : Value) (l : List TSt) (hv : TSteps w v l) (hs : ∀ x ∈ l, fineT x) (hn : l.length ≤ maxLen) :
    Calls Tryz.prog 6 #[v] w fun e w' => e = .returned (.bool true) ∧ Below w.heap.size w w' := by
  have HLong := Lib.hid (long8_any v l w hv hs hn)
  unfold maxLen at hn
  obtain ⟨A, cp, rfl, hc⟩ := hv
  have HC := Lib.hid hc
  have HS := Lib.hid hs
  clear hc hs
  have alive : ∀ W, Below w.heap.size w W → Calls Tryz.prog 8 #[] W fun e w' => e = .returned (.bool true) ∧ Below w.heap.size w w' := fun W hW => (alive8_any W).mono fun e w' hx => ⟨hx.1, hW.trans (hx.2.mono hW.size)⟩
  have HAl := Lib.hid alive
  clear alive
  have hcb : capL 12 = 10 := by decide
  go_enter Tryz.func6, Tryz.ntmps6
  go_wp2_with fail
  refine HLong.out.mono ?_
  rintro e w1 ⟨⟨r, rfl, -⟩, rfl⟩
  cases r
  case true =>
    go_wp2_with fail
    refine (HAl.out _ (Below.refl _ _)).mono ?_
    rintro e w2 ⟨rfl, hb⟩
    have HB := Lib.hid hb
    clear hb
    go_wp2_with fail
    go_ret
    exact ⟨rfl, HB.out⟩
  by_cases h9 : 9 < l.length
  · have d1 : decide ((9 : Int) < (l.length : Int)) = true := decide_eq_true (by omega)
    go_wp2_with fail
    refine (HAl.out _ (Below.refl _ _)).mono ?_
    rintro e w2 ⟨rfl, hb⟩
    have HB := Lib.hid hb
    clear hb
    go_wp2_with fail
    go_ret
    exact ⟨rfl, HB.out⟩
  have d1 : decide ((9 : Int) < (l.length : Int)) = false := decide_eq_false (by omega)
  go_wp2_with fail
  refine (sys_made (Sys.start w) 40 (by decide) (by decide)).mono ?_
  rintro e w2 ⟨b1, jb1, rfl, h2⟩
  have H2 := Lib.hid (show Sys w w2 [devR b1 (dev0 40), jourR jb1 b1 4 12 0] from h2)
  clear h2
  go_wp2_with fail
  refine (sys_made H2.out 40 (by decide) (by decide)).mono ?_
  rintro e w3 ⟨b2, jb2, rfl, h3⟩
  have H3 := Lib.hid (show Sys w w3 [devR b1 (dev0 40), jourR jb1 b1 4 12 0, devR b2 (dev0 40), jourR jb2 b2 4 12 0] from h3)
  clear h3 H2
  go_wp2_with fail
  refine (sys_begin H3.out b1 jb1 40 (by decide)).mono ?_
  rintro e w4 ⟨t1, rfl, h4⟩
  have H4 := Lib.hid h4
  clear h4 H3
  go_wp2_with fail
  refine (sys_begin H4.out b2 jb2 40 (by decide)).mono ?_
  rintro e w5 ⟨t2, rfl, h5⟩
  have H5 := Lib.hid (show Sys w w5 [devR b1 (dev0 40), jourR jb1 b1 4 12 0, devR b2 (dev0 40), jourR jb2 b2 4 12 0, txR t1 b1 jb1 40 [], txR t2 b2 jb2 40 []] from h5)
  clear h5 H4
  have hmm := @run_makeMap Tryz.prog
  go_wp2_with fail
  clear hmm
  have hm0 := own_nil (own_nil (map_new H5.out 40) 3) 9
  obtain ⟨m, hm⟩ : ∃ m, m = w5.heap.size := ⟨_, rfl⟩
  rw [← hm] at hm0 ⊢
  have h6 : OrdI w (w5.alloc (.map #[] 0)) b1 jb1 b2 jb2 t1 t2 m (fun _ => 0) (.slice none 0 0) (.slice none 0 0) [] 0 := ⟨hm0, List.nodup_nil, fun p hp => by simp at hp, fun i => by simp, fun i => Nat.le_refl _, Nat.le_refl _⟩
  have H6 := Lib.hid h6
  clear h6 hm0 H5
  go_loopw [12, 13, 14] (fun nv sv q wr => ∃ (k : Nat) (c : Nat → Nat) (ps : PutL), k ≤ l.length ∧ q = .int .i64 k ∧ OrdI w wr b1 jb1 b2 jb2 t1 t2 m c nv sv ps k) (fun _ _ q _ => l.length - (intOf q).toNat)
  case atStart => exact ⟨0, _, _, Nat.zero_le _, rfl, H6.out⟩
  case round =>
    clear H6 hm
    obtain ⟨k, c, ps, hk, rfl, hI⟩ := hrel
    have HI := Lib.hid hI
    have hpl := hI.len
    clear hI
    by_cases hlt : k < l.length
    · obtain ⟨a, rfl, x0, x1, x2, x3, x4⟩ := HC.out k _ (List.getElem?_eq_getElem hlt)
      have hfine := (HS.out l[k] (List.getElem_mem _)).1
      have y1 := (HI.out.sys.all.cell (World.block_lt_of_cell? w _ x1)).trans x1
      have hY3 : ∀ (V : World), Below w.heap.size w V → V.cell? ⟨(a.add (k * 5)).block, (a.add (k * 5)).off + 3, none⟩ = some (str l[k].s) := fun V hV => by
        unfold behind at x3
        exact (hV.cell (World.block_lt_of_cell? w _ x3)).trans x3
      unfold behind at y1
      clear x0 x1 x2 x3 x4
      generalize l[k] = x at *
      obtain ⟨dv, xn, xf, s, raw⟩ := x
      simp only at y1 hY3 hfine
      have HY := Lib.hid hY3
      clear hY3
      have hI2 : (k : Int) < (l.length : Int) := by omega
      have HX := Lib.hid (fun V => full_any s V hfine)
      have hz := fullT_length s
      generalize fullT s = z at *
      obtain ⟨hnn, hn16, hn40⟩ := secN_any xn
      generalize secN xn = nn at *
      have hfew := HI.out.few nn
      have hcn := HI.out.cnt nn
      have g0 := map_get (i := 6) HI.out.sys rfl (by decide) hn40
      by_cases hc0 : c nn = 0
      · have hnew : nn ∉ ps.map (·.1) := fun h => by have := hcn.2 h; omega
        obtain ⟨nv', W7, r7, s7⟩ := own_int (i := 7) HI.out.sys rfl (by omega) nn
        have z3 := HY.out W7 s7.all
        have S7 := Lib.hid s7
        have HI0 := Lib.hid HI.out.nod
        have HIe := Lib.hid HI.out.each
        have HIc := Lib.hid HI.out.cnt
        have HIf := Lib.hid HI.out.few
        rw [hc0] at g0
        clear s7 hcn hfew HI
        go_wp2_with fail
        refine (HX.out _).mono ?_
        rintro e w8 ⟨rfl, hb⟩
        have S8 := Lib.hid (S7.out.below hb)
        clear hb z3
        obtain ⟨sv', W9, r9, s9⟩ := own_txt (i := 8) S8.out rfl (by omega) z
        have g9 := map_get (i := 6) s9 rfl (by decide) hn40
        obtain ⟨W10, r10, s10⟩ := map_up (i := 6) s9 rfl (by decide) hn40
        have S10 := Lib.hid s10
        have r11 : (Instr.mapUpdate 64 (.map (some m)) (.int .i64 (nn : Int)) (.int .i64 1)).run Tryz.prog W9 = .ok () W10 := by rw [hc0] at r10; exact r10
        rw [hc0] at g9
        clear s9 s10 r10 S7 S8
        go_wp2_with fail
        go_roundw
        case rel =>
          refine ⟨k + 1, upd c nn (c nn + 1), ps ++ [(nn, z)], by omega, by simp, ?_⟩
          have e1 : (ps ++ [(nn, z)]).length = ps.length + 1 := by simp
          have e2 : (ps ++ [(nn, z)]).map (fun p => encI p.1) = ps.map (fun p => encI p.1) ++ [encI nn] := by simp
          have e3 : (ps ++ [(nn, z)]).map (fun p => str p.2) = ps.map (fun p => str p.2) ++ [str z] := by simp
          refine ⟨?_, ?_, fun p hp => ?_, fun i => ?_, fun i => ?_, by omega⟩
          · unfold ordRs
            rw [e1, e2, e3]
            exact S10.out
          · rw [List.map_append, List.nodup_append]
            exact ⟨HI0.out, by simp, fun a ha b hb e => by simp at hb; subst hb; subst e; exact hnew ha⟩
          · rcases List.mem_append.1 hp with hp | hp
            · exact HIe.out p hp
            · simp at hp; subst hp; exact ⟨hn16, hn40, hz⟩
          · unfold upd
            rw [List.map_append, List.mem_append]
            by_cases e : i = nn
            · rw [if_pos e]; simp [e]
            · rw [if_neg e, HIc.out i]; simp [e]
          · have := HIf.out i
            unfold upd
            split
            · omega
            · omega
        case measure => simp [intOf]; omega
      · have hold : nn ∈ ps.map (·.1) := hcn.1 (by omega)
        have hne0 : ((c nn : Int) == 0) = false := by simp; omega
        obtain ⟨W10, r10, s10⟩ := map_up (i := 6) HI.out.sys rfl (by decide) hn40
        have S10 := Lib.hid s10
        have HI0 := Lib.hid HI.out.nod
        have HIe := Lib.hid HI.out.each
        have HIc := Lib.hid HI.out.cnt
        have HIf := Lib.hid HI.out.few
        have hci : IntKind.i64.wrap ((c nn : Int) + 1) = (c nn : Int) + 1 := IntWalk.i64_in _ (by omega)
        clear s10 hcn HI
        go_wp2_with fail
        go_roundw
        case rel =>
          refine ⟨k + 1, upd c nn (c nn + 1), ps, by omega, by simp, S10.out, HI0.out, HIe.out, fun i => ?_, fun i => ?_, by omega⟩
          · unfold upd
            by_cases e : i = nn
            · rw [if_pos e, e]; simpa using hold
            · rw [if_neg e]; exact HIc.out i
          · have := HIf.out i
            unfold upd
            split
            · omega
            · omega
        case measure => simp [intOf]; omega
    · obtain rfl : k = l.length := by omega
      have HIe := Lib.hid HI.out.each
      have HIn := Lib.hid HI.out.nod
      have hp9 : ps.length ≤ 9 := by omega
      obtain ⟨An, cn, hnv, -⟩ := HI.out.sys.ownAt (i := 7) rfl
      obtain ⟨As, cs, hsv, -⟩ := HI.out.sys.ownAt (i := 8) rfl
      subst hnv hsv
      have hs := HI.out.sys
      have h0 : Two w wr b1 jb1 b2 jb2 t1 t2 m c (.slice An ps.length cn) (.slice As ps.length cs) ps (insAll (ps.take 0)) (insAll (ps.reverse.take 0)) := ⟨⟨hs, rfl, rfl, rfl, by decide, by decide, by decide, rfl, Nat.zero_le _, by decide, by decide, WrOk.nil _ _⟩, ⟨hs, rfl, rfl, rfl, by decide, by decide, by decide, rfl, Nat.zero_le _, by decide, by decide, WrOk.nil _ _⟩⟩
      have H0 := Lib.hid h0
      clear h0 hs HI
      go_wp2_with fail
      go_loopw [16] (fun q wr => ∃ k : Nat, k ≤ ps.length ∧ q = .int .i64 k ∧ Two w wr b1 jb1 b2 jb2 t1 t2 m c (.slice An ps.length cn) (.slice As ps.length cs) ps (insAll (ps.take k)) (insAll (ps.reverse.take k))) (fun q _ => ps.length - (intOf q).toNat)
      case atStart => exact ⟨0, Nat.zero_le _, rfl, H0.out⟩
      case round =>
        clear H0
        obtain ⟨k, hk, rfl, hI⟩ := hrel
        have HI := Lib.hid hI
        clear hI
        by_cases hlt2 : k < ps.length
        · obtain ⟨q, hq⟩ : ∃ q, q = ps.length - 1 - k := ⟨_, rfl⟩
          have hql : q < ps.length := by omega
          obtain ⟨g1, g2, rfl, rfl, x1, x2⟩ := two_cells HI.out.one.sys k hlt2
          obtain ⟨g3, g4, e3, e4, x3, x4⟩ := two_cells HI.out.one.sys q hql
          obtain rfl : g1 = g3 := by injection e3 with e3; injection e3
          obtain rfl : g2 = g4 := by injection e4 with e4; injection e4
          have HCk := Lib.hid (fun (V : World) (L1 L2 : PutL) (h : Sys w V (ordRs b1 jb1 b2 jb2 t1 t2 m L1 L2 c (.slice (some ⟨g1, 0, none⟩) ps.length cn) (.slice (some ⟨g2, 0, none⟩) ps.length cs) ps)) => show V.cell? ⟨g1, k, none⟩ = some (.int .i64 (ps[k].1 : Int)) ∧ V.cell? ⟨g2, k, none⟩ = some (str ps[k].2) ∧ V.cell? ⟨g1, q, none⟩ = some (.int .i64 (ps[q].1 : Int)) ∧ V.cell? ⟨g2, q, none⟩ = some (str ps[q].2) from by
            obtain ⟨a1, a2, q1, q2, y1, y2⟩ := two_cells h k hlt2
            obtain ⟨a3, a4, q3, q4, y3, y4⟩ := two_cells h q hql
            obtain rfl : g1 = a1 := by injection q1 with e; injection e
            obtain rfl : g2 = a2 := by injection q2 with e; injection e
            obtain rfl : g1 = a3 := by injection q3 with e; injection e
            obtain rfl : g2 = a4 := by injection q4 with e; injection e
            exact ⟨y1, y2, y3, y4⟩)
          obtain ⟨-, hk40, hkz⟩ := HIe.out ps[k] (List.getElem_mem _)
          obtain ⟨-, hq40, hqz⟩ := HIe.out ps[q] (List.getElem_mem _)
          have ht := take_more hlt2
          have hr := rev_more hlt2 hq hql
          have hf1 := take_few k hp9
          have hf2 := take_few (ps := ps.reverse) k (by rw [List.length_reverse]; exact hp9)
          have HTk := Lib.hid ht
          have HRk := Lib.hid hr
          have hqi : (ps.length : Int) - 1 - (k : Int) = (q : Int) := by omega
          have hki : (k : Int) < (ps.length : Int) := by omega
          have hqi2 : (q : Int) < (ps.length : Int) := by omega
          have hqi3 : (0 : Int) ≤ (q : Int) := by omega
          have hqi4 : IntKind.i64.wrap ((ps.length : Int) - 1) = (ps.length : Int) - 1 := IntWalk.i64_in _ (by omega)
          have hqi5 : IntKind.i64.wrap ((ps.length : Int) - 1 - (k : Int)) = (q : Int) := by rw [hqi]; exact IntWalk.i64_in _ (by omega)
          have hqi6 : wrap64 ((ps.length : Int) - 1 - (k : Int)) = (q : Int) := by rw [hqi]; exact IntWalk.wrap64_in _ (by omega)
          have hqi7 : wrap64 ((ps.length : Int) - 1) = (ps.length : Int) - 1 := IntWalk.wrap64_in _ (by omega)
          clear ht hr e3 e4 hq hqi
          generalize insAll (ps.take k) = L1 at *
          generalize insAll (ps.reverse.take k) = L2 at *
          generalize ps[k] = pk at *
          generalize ps[q] = pq at *
          obtain ⟨nk, zk⟩ := pk
          obtain ⟨nq', zq⟩ := pq
          simp only at hk40 hkz hq40 hqz x1 x2 x3 x4 HTk HRk HCk
          have HC0 := Lib.hid (HI.out.below ((Below.refl _ wr).drew))
          have HW1 := Lib.hid (fun (V : World) (h : Two w V b1 jb1 b2 jb2 t1 t2 m c (.slice (some ⟨g1, 0, none⟩) ps.length cn) (.slice (some ⟨g2, 0, none⟩) ps.length cs) ps L1 L2) => two_write1 h nk zk hk40 hkz hf1)
          have HW2 := Lib.hid (fun (V : World) (h : Two w V b1 jb1 b2 jb2 t1 t2 m c (.slice (some ⟨g1, 0, none⟩) ps.length cn) (.slice (some ⟨g2, 0, none⟩) ps.length cs) ps (ins L1 nk zk) L2) => two_write2 h nq' zq hq40 hqz hf2)
          go_wp2_with fail
          go_region_held3 (fun W' => W'.cell? ⟨g1, k, none⟩ = some (.int .i64 (nk : Int)) ∧ W'.cell? ⟨g2, k, none⟩ = some (str zk) ∧ W'.cell? ⟨g1, q, none⟩ = some (.int .i64 (nq' : Int)) ∧ W'.cell? ⟨g2, q, none⟩ = some (str zq))
            (first | exact ⟨x1, x2, x3, x4⟩)
            (first | (go_at_call 24; first
              | ((with_reducible refine (HW1.out _ HC0.out).mono ?_); rintro e w4 ⟨rfl, hb⟩; have HC1 := Lib.hid hb; obtain ⟨x1, x2, x3, x4⟩ := HCk.out w4 _ _ hb.one.sys; clear hb)
              | ((with_reducible refine (HW2.out _ HC1.out).mono ?_); rintro e w4 ⟨rfl, hb⟩; have HC2 := Lib.hid hb; obtain ⟨x1, x2, x3, x4⟩ := HCk.out w4 _ _ hb.one.sys; clear hb)))
          go_wp2_with fail
          go_roundw
          case rel => exact ⟨k + 1, by omega, by simp, by rw [HTk.out, HRk.out]; exact HC2.out⟩
          case measure => simp [intOf]; omega
        · obtain rfl : k = ps.length := by omega
          have hrl : ps.reverse.take ps.length = ps.reverse := List.take_of_length_le (by rw [List.length_reverse]; exact Nat.le_refl _)
          have hI := HI.out
          rw [List.take_length, hrl] at hI
          have hR : Rest (dev0 40) 0 := Rest.new 40
          have ho1 := insAll_ours ps fun p hp => (HIe.out p hp).1
          have ho2 := insAll_ours ps.reverse fun p hp => (HIe.out p (List.mem_reverse.1 hp)).1
          have hlook := insAll_rev ps HIn.out
          have hrn : (ps.reverse.map (·.1)).Nodup := by
            rw [List.map_reverse, List.nodup_iff_pairwise_ne, List.pairwise_reverse]
            exact (List.nodup_iff_pairwise_ne.1 HIn.out).imp fun h e => h e.symm
          have hempty : (insAll ps = []) = (insAll ps.reverse = []) := propext ⟨fun h => by rw [insAll_nil h HIn.out]; rfl, fun h => by have := insAll_nil h hrn; rw [List.reverse_eq_nil_iff] at this; rw [this]; rfl⟩
          have hlaid : ∀ f, laid f (insAll ps) = laid f (insAll ps.reverse) := fun f => funext fun i => by rw [laid_look (insAll_asc _), laid_look (insAll_asc _), hlook]
          obtain ⟨gg, hg1, hg2⟩ : ∃ gg : Int, (if insAll ps = [] then ((0 : Nat) : Int) else ((0 : Nat) : Int) + 1) = gg ∧ (if insAll ps.reverse = [] then ((0 : Nat) : Int) else ((0 : Nat) : Int) + 1) = gg := ⟨_, rfl, by simp only [← hempty]⟩
          have hC1 := fun (V : World) (h : Two w V b1 jb1 b2 jb2 t1 t2 m c (.slice An ps.length cn) (.slice As ps.length cs) ps (insAll ps) (insAll ps.reverse)) => rest_commit_any h.one hR (by decide) (by decide) (by decide) (by decide) ho1
          rw [hg1] at hC1
          have HC1 := Lib.hid hC1
          have HI2 := Lib.hid hI
          have HLd := Lib.hid hlaid
          have hC2 := fun (V : World) (rs : List Res) (h : TxSys w V rs 5 2 3 t2 b2 jb2 4 12 0 (dev0 40) (insAll ps.reverse)) => rest_commit_any h hR (by decide) (by decide) (by decide) (by decide) ho2
          rw [hg2] at hC2
          have HC2 := Lib.hid hC2
          clear hC1 hC2 hI hlaid hlook hempty hg1 hg2 HI
          generalize insAll ps = L1 at *
          generalize insAll ps.reverse = L2 at *
          go_wp2_with fail
          refine (HC1.out _ HI2.out).mono ?_
          rintro e w6 ⟨rfl, M1, g6, h6, hR1, -, hn1, hw1, hd1⟩
          rw [show (dev0 40).n = 40 from rfl] at hn1 hd1
          have H6 := Lib.hid (show TxSys w w6 [devR b1 M1, jourR jb1 b1 4 12 0, devR b2 (dev0 40), jourR jb2 b2 4 12 0, doneR t1, txR t2 b2 jb2 40 L2, mapR m 40 c, ownR 3 (.slice An ps.length cn) ps.length (ps.map fun p => encI p.1), ownR 9 (.slice As ps.length cs) ps.length (ps.map fun p => str p.2)] 5 2 3 t2 b2 jb2 4 12 0 (dev0 40) L2 from ⟨h6, rfl, rfl, rfl, by decide, by decide, by decide, rfl, Nat.zero_le _, by decide, by decide, HI2.out.two.ok⟩)
          have HR1 := Lib.hid hR1
          have HD1 := Lib.hid hd1
          clear h6 HI2 hR1 hd1
          go_wp2_with fail
          refine (HC2.out _ _ H6.out).mono ?_
          rintro e w7 ⟨rfl, M2, g7, h7, hR2, -, hn2, hw2, hd2⟩
          rw [show (dev0 40).n = 40 from rfl] at hn2 hd2
          have H7 := Lib.hid (show Sys w w7 [devR b1 M1, jourR jb1 b1 4 12 0, devR b2 M2, jourR jb2 b2 4 12 0, doneR t1, doneR t2, mapR m 40 c, ownR 3 (.slice An ps.length cn) ps.length (ps.map fun p => encI p.1), ownR 9 (.slice As ps.length cs) ps.length (ps.map fun p => str p.2)] from h7)
          have hsame : ∀ i, i < 40 → (i < 4 ∨ 16 ≤ i) → M1.cur i = M2.cur i := fun i h1 h2 => by
            rw [HR1.out.cur, hR2.cur, HD1.out i h1 h2, hd2 i h1 h2, HLd.out]
          have HSame := Lib.hid hsame
          have hup1 := HR1.out.up
          have hup2 := hR2.up
          have hw0 : (dev0 40).wr = 0 := rfl
          clear h7 H6 hR2 hd2 hsame
          go_wp2_with fail
          refine (sys_sectors (i := 0) H7.out rfl hup1 (by omega) 40 hn1).mono ?_
          rintro e w8 ⟨v1, rfl, h8⟩
          have H8 := Lib.hid h8
          clear h8 H7
          go_wp2_with fail
          refine (sys_sectors (i := 2) H8.out rfl hup2 (by omega) 40 hn2).mono ?_
          rintro e w9 ⟨v2, rfl, h9⟩
          have H9 := Lib.hid h9
          clear h9 H8
          go_wp2_with fail
          refine (outside_any 40 _ _ _ _ _ (H9.out.mem (i := 9) rfl) (H9.out.mem (i := 10) rfl) (by decide)).mono ?_
          rintro e w10 ⟨⟨r, rfl, hr⟩, hb⟩
          obtain rfl := hr HSame.out
          have H10 := Lib.hid (H9.out.below hb)
          clear hb hr H9
          go_wp2_with fail
          refine (HAl.out _ H10.out.all).mono ?_
          rintro e w11 ⟨rfl, hb⟩
          have HB := Lib.hid hb
          clear hb H10
          go_wp2_with fail
          go_ret
          exact ⟨rfl, HB.out⟩
end Go.Proofs.YthgdkpkhnhjifaaGreat
