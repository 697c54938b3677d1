/- Layer 8 (tx): how much room there is. -/
import Derived.Test.YthgdkpkhnhjifaaGreatTxL6
namespace Go.Proofs.YthgdkpkhnhjifaaGreat
open Go.RowKit Go.Maps
set_option linter.unusedVariables false
set_option linter.unusedSimpArgs false
set_option maxRecDepth 10000
/-- A map that counts. -/
def cntE (c : Nat → Nat) (i : Nat) : Option Value := if c i = 0 then none else some (.int .i64 (c i : Int))
theorem cntE_some (c : Nat → Nat) (i : Nat) : (cntE c i).isSome = decide (0 < c i) := by
  unfold cntE
  by_cases h : c i = 0
  · rw [if_pos h]; simp [h]
  · rw [if_neg h]; simp; omega
theorem cntE_get (c : Nat → Nat) (i : Nat) : (cntE c i).getD (.int .i64 0) = .int .i64 (c i : Int) := by
  unfold cntE
  by_cases h : c i = 0
  · rw [if_pos h, h]; rfl
  · rw [if_neg h]; rfl
theorem cntE_up (c : Nat → Nat) (i : Nat) : upd (cntE c) i (some (.int .i64 ((c i : Int) + 1))) = cntE (upd c i (c i + 1)) := by
  funext j
  unfold cntE upd
  by_cases h : j = i
  · subst h; simp
  · simp [h]
def mapR (m n : Nat) (c : Nat → Nat) : Res := memR (fun k => k = m) (fun W => IMap Tryz.prog 3 W m n (cntE c)) fun W W' h hb => h.kept (hb m rfl)
section
variable {w W : World} {rs : List Res} {i m n : Nat} {c : Nat → Nat}
theorem map_get (h : Sys w W rs) (hi : rs[i]? = some (mapR m n c)) (hn : n ≤ 4096) {k : Nat} (hk : k < n) : (Instr.lookup 64 (.map (some m)) (.int .i64 (k : Int)) false).run Tryz.prog W = .ok (.int .i64 (c k : Int)) W := by
  have := (h.mem hi).look (t := 64) Tryz.underlying3 Tryz.underlying64 (zeroInt W) (by omega) hk
  rwa [cntE_get] at this
theorem map_len (h : Sys w W rs) (hi : rs[i]? = some (mapR m n c)) {L : PutL} (hL : WrOk n (capL 12) L) (hc : ∀ k, (look L k).isSome = decide (0 < c k)) (ty : TypeId) : (Builtin.len_ #[64] ty #[.map (some m)]).run Tryz.prog W = .ok (.int .i64 (L.length : Int)) W := by
  have := (h.mem hi).len (t := 64) Tryz.underlying3 Tryz.underlying64 ty
  rwa [keys_look hL.asc (fun p hp => (hL.ok p hp).1) _ (fun k => (cntE_some c k).trans (hc k).symm), List.length_map] at this
theorem map_up (h : Sys w W rs) (hi : rs[i]? = some (mapR m n c)) (hn : n ≤ 4096) {k : Nat} (hk : k < n) : ∃ W', (Instr.mapUpdate 64 (.map (some m)) (.int .i64 (k : Int)) (.int .i64 ((c k : Int) + 1))).run Tryz.prog W = .ok () W' ∧ Sys w W' (rs.set i (mapR m n (upd c k (c k + 1)))) := by
  obtain ⟨S, ⟨h1, h2, h3⟩, -, -, hset, -⟩ := h.use hi
  obtain ⟨W', hrun, hm, hg⟩ := h3.store (t := 64) Tryz.underlying3 Tryz.underlying64 (by omega) hk (.int .i64 ((c k : Int) + 1))
  rw [cntE_up] at hm
  refine ⟨W', hrun, hset W' (mapR m n _) S (Only.of_grown hg fun q e => by cases e; exact (h1 m).2 rfl) ⟨h1, fun q hq => Nat.lt_of_lt_of_le (h2 q hq) hg.size, hm⟩ fun q hq => .inl hq⟩
theorem map_new (h : Sys w W rs) (n : Nat) : Sys w (W.alloc (.map #[] 0)) (rs ++ [mapR W.heap.size n (fun _ => 0)]) :=
  h.addMem ((Below.refl _ W).alloc (Nat.le_refl _) _) ((IMap.made W Tryz.prog 3 n).congr fun k _ => rfl) fun k hk => by rw [hk]; exact ⟨Nat.le_refl _, by simp⟩
end
theorem sys_touched {w W : World} {rs : List Res} {t i j tb b jb F n rec : Nat} {M : Dv} {L : PutL} (h : TxSys w W rs t i j tb b jb F n rec M L) :
    Calls Tryz.prog 32 #[devp tb] W fun e w' => ∃ A c, e = .returned (.slice A L.length c) ∧ Below W.heap.size W w' := by
  obtain ⟨m, hT, -⟩ := h.on
  refine (touched_any hT.tx).mono ?_
  rintro e w' ⟨v, rfl, ⟨A, c, rfl, -⟩, -, hb⟩
  exact ⟨A, c, by simp, hb⟩
theorem sys_room {w W : World} {rs : List Res} {t i j tb b jb F n rec : Nat} {M : Dv} {L : PutL} (h : TxSys w W rs t i j tb b jb F n rec M L) :
    Calls Tryz.prog 30 #[devp tb] W fun e w' => e = .returned (.int .i64 ((capL n : Int) - (L.length : Int))) ∧ Below W.heap.size W w' := by
  obtain ⟨m, hT, -⟩ := h.on
  refine (txRoom_quiet hT).mono ?_
  rintro e w' ⟨rfl, k, rfl⟩
  exact ⟨rfl, below_drewN (Below.refl _ _) k⟩
/-- What a round keeps. -/
structure RoomI (w W : World) (b jb tb m : Nat) (c : Nat → Nat) (L : PutL) (k : Nat) : Prop where
  sys : TxSys w W [devR b (dev0 60), jourR jb b 4 12 0, txR tb b jb 60 L, mapR m 60 c] 2 0 1 tb b jb 4 12 0 (dev0 60) L
  cnt : ∀ i, (look L i).isSome = decide (0 < c i)
  few : ∀ i, c i ≤ k
set_option maxRecDepth 100000 in
set_option maxHeartbeats 4000000 in
theorem walk_TxRoom (w : World) (v : Value) (l : List Nat) (hv : U8s w v l) (hl : ∀ x ∈ l, x < 256) (hn : l.length ≤ maxLen) :
    Calls Tryz.prog 5 #[v] w fun e w' => e = .returned (.bool true) ∧ Below w.heap.size w w' := by
  unfold maxLen at hn
  obtain ⟨A, cp, rfl, hc⟩ := hv
  have HC := Lib.hid hc
  have HL := Lib.hid hl
  have hcb : capL 12 = 10 := by decide
  clear hc hl
  by_cases h100 : 100 < l.length
  · have d1 : decide ((100 : Int) < (l.length : Int)) = true := decide_eq_true (by omega)
    go_enter Tryz.func5, Tryz.ntmps5
    go_wp2_with fail
    refine (alive8_any w).mono ?_
    rintro e w1 ⟨rfl, hb⟩
    have HB := Lib.hid hb
    clear hb
    go_wp2_with fail
    go_ret
    exact ⟨rfl, HB.out⟩
  have d1 : decide ((100 : Int) < (l.length : Int)) = false := decide_eq_false (by omega)
  have HX := Lib.hid (fun V => full_any [97] V (by decide))
  have hz : (fullT [97]).length = 64 := fullT_length _
  generalize fullT [97] = z at *
  go_enter Tryz.func5, Tryz.ntmps5
  go_wp2_with fail
  refine (sys_made (Sys.start w) 60 (by decide) (by decide)).mono ?_
  rintro e w1 ⟨b, jb, rfl, h1⟩
  have H1 := Lib.hid (show Sys w w1 [devR b (dev0 60), jourR jb b 4 12 0] from h1)
  clear h1
  go_wp2_with fail
  refine (sys_begin H1.out b jb 60 (by decide)).mono ?_
  rintro e w2 ⟨tb, rfl, h2⟩
  have h2' : TxSys w w2 [devR b (dev0 60), jourR jb b 4 12 0, txR tb b jb 60 []] 2 0 1 tb b jb 4 12 0 (dev0 60) [] := ⟨h2, rfl, rfl, rfl, by decide, by decide, by decide, rfl, Nat.zero_le _, by decide, by decide, WrOk.nil _ _⟩
  have H2 := Lib.hid h2'
  clear h2 h2' H1
  go_wp2_with fail
  refine (sys_room H2.out).mono ?_
  rintro e w3 ⟨rfl, hb⟩
  have H3 := Lib.hid (H2.out.below hb)
  clear hb H2
  rw [hcb]
  go_wp2_with fail
  refine (sys_max (j := 1) H3.out.sys rfl (by decide) (by decide)).mono ?_
  rintro e w3 ⟨rfl, rfl⟩
  rw [hcb]
  have hmm := @run_makeMap Tryz.prog
  go_wp2_with fail
  clear hmm
  have hm0 := map_new H3.out.sys 60
  obtain ⟨m, hm⟩ : ∃ m, m = w3.heap.size := ⟨_, rfl⟩
  rw [← hm] at hm0 ⊢
  have h4 : RoomI w (w3.alloc (.map #[] 0)) b jb tb m (fun _ => 0) [] 0 := ⟨⟨hm0, rfl, rfl, rfl, by decide, by decide, by decide, rfl, Nat.zero_le _, by decide, by decide, WrOk.nil _ _⟩, fun i => rfl, fun i => Nat.le_refl _⟩
  have H4 := Lib.hid h4
  clear h4 hm0 H3
  go_loopw [8] (fun q wr => ∃ (k : Nat) (c : Nat → Nat) (L : PutL), k ≤ l.length ∧ q = .int .i64 k ∧ RoomI w wr b jb tb m c L k) (fun q _ => l.length - (intOf q).toNat)
  case atStart => exact ⟨0, _, _, Nat.zero_le _, rfl, H4.out⟩
  case round =>
    clear H4 hm
    obtain ⟨k, c, L, hk, rfl, hI⟩ := hrel
    have HI := Lib.hid hI
    clear hI
    by_cases hlt : k < l.length
    · obtain ⟨a, rfl, hcell⟩ := HC.out k _ (List.getElem?_eq_getElem hlt)
      have hx256 := HL.out l[k] (List.getElem_mem _)
      generalize l[k] = x at *
      have hcw := (HI.out.sys.sys.all.cell (World.block_lt_of_cell? w _ hcell)).trans hcell
      obtain ⟨r, hr, hr44⟩ : ∃ r : Nat, (x : Int) % 44 = (r : Int) ∧ r < 44 := ⟨x % 44, by omega, Nat.mod_lt _ (by decide)⟩
      obtain ⟨nn, hwr, hn60⟩ : ∃ nn : Nat, (16 : Int) + (r : Int) = (nn : Int) ∧ nn < 60 := ⟨16 + r, by omega, by omega⟩
      have hkI : (k : Int) < (l.length : Int) := by omega
      have hfew := HI.out.few nn
      have hcap : L.length ≤ 10 := by have := HI.out.sys.ok.cap; omega
      have hcn := HI.out.cnt nn
      clear hcell
      have hE0 : ¬ ((nn : Int) < 0 ∨ ((60 : Nat) : Int) ≤ (nn : Int) ∨ z.length ≠ 64) := by omega
      by_cases hfull : look L nn = none ∧ 10 ≤ L.length
      · have hE : wrE 60 10 L (nn : Int) z = 4 := by unfold wrE; rw [if_neg hE0, Int.toNat_natCast, if_pos hfull]
        have hW : ∀ V, TxSys w V [devR b (dev0 60), jourR jb b 4 12 0, txR tb b jb 60 L, mapR m 60 c] 2 0 1 tb b jb 4 12 0 (dev0 60) L → Calls Tryz.prog 24 #[devp tb, .int .i64 (nn : Int), str z] V fun e w' => e = .returned (.int .i64 4) ∧ TxSys w w' [devR b (dev0 60), jourR jb b 4 12 0, txR tb b jb 60 L, mapR m 60 c] 2 0 1 tb b jb 4 12 0 (dev0 60) L := fun V h => by
          have h1 := sys_txWrite h (nn : Int) z (by omega)
          have h2 : wrL 60 10 L (nn : Int) z = L := by unfold wrL; rw [hE]; rfl
          rw [hcb, show (dev0 60).n = 60 from rfl, hE, h2] at h1
          exact h1
        have HW := Lib.hid hW
        have hc0 : c nn = 0 := by rw [hfull.1] at hcn; simp at hcn; omega
        have hl10 : L.length = 10 := by omega
        have HN := Lib.hid HI.out.cnt
        have hfin : ∀ V, TxSys w V [devR b (dev0 60), jourR jb b 4 12 0, txR tb b jb 60 L, mapR m 60 c] 2 0 1 tb b jb 4 12 0 (dev0 60) L → RoomI w V b jb tb m c L (k + 1) := fun V h => ⟨h, HI.out.cnt, fun i => by have := HI.out.few i; omega⟩
        have HFin := Lib.hid hfin
        have e1 : decide ((0 : Int) < 10 - (L.length : Int)) = false := decide_eq_false (by omega)
        clear hW hfin hE hE0 hfull hcn
        go_wp2_with fail
        refine (sys_room HI.out.sys).mono ?_
        rintro e w4 ⟨rfl, hb⟩
        have H4 := Lib.hid (HI.out.sys.below hb)
        have q4 := (hb.cell (World.block_lt_of_cell? wr _ hcw)).trans hcw
        clear hb
        rw [hcb]
        go_wp2_with fail
        refine (HX.out _).mono ?_
        rintro e w5 ⟨rfl, hb⟩
        have H5 := Lib.hid (H4.out.below hb)
        clear hb H4 q4
        go_wp2_with fail
        refine (HW.out _ H5.out).mono ?_
        rintro e w6 ⟨rfl, h6⟩
        have H6 := Lib.hid h6
        have g6 := map_get (i := 3) H6.out.sys rfl (by decide) hn60
        clear h6 H5
        rw [hc0] at g6
        go_wp2_with fail
        have H7 := H6
        refine (sys_room H7.out).mono ?_
        rintro e w8 ⟨rfl, hb⟩
        have H8 := Lib.hid (H7.out.below hb)
        clear hb
        rw [hcb]
        go_wp2_with fail
        refine (sys_max (j := 1) H8.out.sys rfl (by decide) (by decide)).mono ?_
        rintro e w9 ⟨rfl, rfl⟩
        rw [hcb]
        have l8 := map_len (i := 3) H8.out.sys rfl H8.out.ok HN.out
        go_wp2_with fail
        refine (sys_touched H8.out).mono ?_
        rintro e w9 ⟨A9, c9, rfl, hb⟩
        have H9 := Lib.hid (H8.out.below hb)
        clear hb
        have l9 := map_len (i := 3) H9.out.sys rfl H9.out.ok HN.out
        clear l8
        go_wp2_with fail
        go_roundw
        case rel => exact ⟨k + 1, c, L, by omega, by simp, HFin.out _ H9.out⟩
        case measure => simp [intOf]; omega
      · have hE : wrE 60 10 L (nn : Int) z = 0 := by unfold wrE; rw [if_neg hE0, Int.toNat_natCast, if_neg hfull]
        have hW : ∀ V, TxSys w V [devR b (dev0 60), jourR jb b 4 12 0, txR tb b jb 60 L, mapR m 60 c] 2 0 1 tb b jb 4 12 0 (dev0 60) L → Calls Tryz.prog 24 #[devp tb, .int .i64 (nn : Int), str z] V fun e w' => e = .returned (.int .i64 0) ∧ TxSys w w' [devR b (dev0 60), jourR jb b 4 12 0, txR tb b jb 60 (ins L nn z), mapR m 60 c] 2 0 1 tb b jb 4 12 0 (dev0 60) (ins L nn z) := fun V h => by
          have h1 := sys_txWrite h (nn : Int) z (by omega)
          have h2 : wrL 60 10 L (nn : Int) z = ins L nn z := by unfold wrL; rw [hE, Int.toNat_natCast]; rfl
          rw [hcb, show (dev0 60).n = 60 from rfl, hE, h2] at h1
          exact h1
        have HW := Lib.hid hW
        have hcnt : ∀ i, (look (ins L nn z) i).isSome = decide (0 < upd c nn (c nn + 1) i) := fun i => by
          rw [look_ins]
          unfold upd
          by_cases e : i = nn
          · rw [if_pos e, if_pos e]; simp
          · rw [if_neg e, if_neg e]; exact HI.out.cnt i
        have hfew2 : ∀ i, upd c nn (c nn + 1) i ≤ k + 1 := fun i => by
          have := HI.out.few i
          unfold upd
          split <;> omega
        have hroom : c nn = 0 → L.length < 10 := fun e => by
          rw [e] at hcn
          have : look L nn = none := by cases h : look L nn; rfl; rw [h] at hcn; simp at hcn
          exact Nat.lt_of_not_le fun h => hfull ⟨this, h⟩
        have HN := Lib.hid hcnt
        have HF2 := Lib.hid hfew2
        clear hW hE hE0 hfull hcn hcnt hfew2
        have hfin : ∀ V, TxSys w V [devR b (dev0 60), jourR jb b 4 12 0, txR tb b jb 60 (ins L nn z), mapR m 60 (upd c nn (c nn + 1))] 2 0 1 tb b jb 4 12 0 (dev0 60) (ins L nn z) → RoomI w V b jb tb m (upd c nn (c nn + 1)) (ins L nn z) (k + 1) := fun V h => ⟨h, HN.out, HF2.out⟩
        have HFin := Lib.hid hfin
        clear hfin
        by_cases hpos : 0 < c nn
        · have e1 : decide ((0 : Int) < (c nn : Int)) = true := decide_eq_true (by omega)
          clear hroom
          go_wp2_with fail
          refine (sys_room HI.out.sys).mono ?_
          rintro e w4 ⟨rfl, hb⟩
          have H4 := Lib.hid (HI.out.sys.below hb)
          have q4 := (hb.cell (World.block_lt_of_cell? wr _ hcw)).trans hcw
          clear hb
          rw [hcb]
          go_wp2_with fail
          refine (HX.out _).mono ?_
          rintro e w5 ⟨rfl, hb⟩
          have H5 := Lib.hid (H4.out.below hb)
          clear hb H4 q4
          go_wp2_with fail
          refine (HW.out _ H5.out).mono ?_
          rintro e w6 ⟨rfl, h6⟩
          have H6 := Lib.hid h6
          have g6 := map_get (i := 3) H6.out.sys rfl (by decide) hn60
          clear h6 H5
          obtain ⟨W7, r7, s7⟩ := map_up (i := 3) H6.out.sys rfl (by decide) hn60
          have H7 := Lib.hid ({ H6.out with sys := s7 } : TxSys w W7 [devR b (dev0 60), jourR jb b 4 12 0, txR tb b jb 60 (ins L nn z), mapR m 60 (upd c nn (c nn + 1))] 2 0 1 tb b jb 4 12 0 (dev0 60) (ins L nn z))
          have hcap7 : (ins L nn z).length ≤ 10 := by have := H6.out.ok.cap; omega
          clear s7 H6
          generalize c nn = cn at *
          go_wp2_with fail
          refine (sys_room H7.out).mono ?_
          rintro e w8 ⟨rfl, hb⟩
          have H8 := Lib.hid (H7.out.below hb)
          clear hb
          rw [hcb]
          go_wp2_with fail
          refine (sys_max (j := 1) H8.out.sys rfl (by decide) (by decide)).mono ?_
          rintro e w9 ⟨rfl, rfl⟩
          rw [hcb]
          have l8 := map_len (i := 3) H8.out.sys rfl H8.out.ok HN.out
          go_wp2_with fail
          refine (sys_touched H8.out).mono ?_
          rintro e w9 ⟨A9, c9, rfl, hb⟩
          have H9 := Lib.hid (H8.out.below hb)
          clear hb
          have l9 := map_len (i := 3) H9.out.sys rfl H9.out.ok HN.out
          clear l8
          go_wp2_with fail
          go_roundw
          case rel => exact ⟨k + 1, _, _, by omega, by simp, HFin.out _ H9.out⟩
          case measure => simp [intOf]; omega
        · have hc0 : c nn = 0 := by omega
          have hl10 := hroom hc0
          have e1 : decide ((0 : Int) < (c nn : Int)) = false := decide_eq_false (by omega)
          have e2 : decide ((0 : Int) < 10 - (L.length : Int)) = true := decide_eq_true (by omega)
          clear hroom
          go_wp2_with fail
          refine (sys_room HI.out.sys).mono ?_
          rintro e w4 ⟨rfl, hb⟩
          have H4 := Lib.hid (HI.out.sys.below hb)
          have q4 := (hb.cell (World.block_lt_of_cell? wr _ hcw)).trans hcw
          clear hb
          rw [hcb]
          go_wp2_with fail
          refine (HX.out _).mono ?_
          rintro e w5 ⟨rfl, hb⟩
          have H5 := Lib.hid (H4.out.below hb)
          clear hb H4 q4
          go_wp2_with fail
          refine (HW.out _ H5.out).mono ?_
          rintro e w6 ⟨rfl, h6⟩
          have H6 := Lib.hid h6
          have g6 := map_get (i := 3) H6.out.sys rfl (by decide) hn60
          clear h6 H5
          obtain ⟨W7, r7, s7⟩ := map_up (i := 3) H6.out.sys rfl (by decide) hn60
          have H7 := Lib.hid ({ H6.out with sys := s7 } : TxSys w W7 [devR b (dev0 60), jourR jb b 4 12 0, txR tb b jb 60 (ins L nn z), mapR m 60 (upd c nn (c nn + 1))] 2 0 1 tb b jb 4 12 0 (dev0 60) (ins L nn z))
          have hcap7 : (ins L nn z).length ≤ 10 := by have := H6.out.ok.cap; omega
          have r8 : (Instr.mapUpdate 64 (.map (some m)) (.int .i64 (nn : Int)) (.int .i64 1)).run Tryz.prog w6 = .ok () W7 := by rw [hc0] at r7; exact r7
          clear s7 H6 hpos r7
          go_wp2_with fail
          refine (sys_room H7.out).mono ?_
          rintro e w8 ⟨rfl, hb⟩
          have H8 := Lib.hid (H7.out.below hb)
          clear hb
          rw [hcb]
          go_wp2_with fail
          refine (sys_max (j := 1) H8.out.sys rfl (by decide) (by decide)).mono ?_
          rintro e w9 ⟨rfl, rfl⟩
          rw [hcb]
          have l8 := map_len (i := 3) H8.out.sys rfl H8.out.ok HN.out
          go_wp2_with fail
          refine (sys_touched H8.out).mono ?_
          rintro e w9 ⟨A9, c9, rfl, hb⟩
          have H9 := Lib.hid (H8.out.below hb)
          clear hb
          have l9 := map_len (i := 3) H9.out.sys rfl H9.out.ok HN.out
          clear l8
          go_wp2_with fail
          go_roundw
          case rel => exact ⟨k + 1, _, _, by omega, by simp, HFin.out _ H9.out⟩
          case measure => simp [intOf]; omega
    · obtain rfl : k = l.length := by omega
      go_wp2_with fail
      refine (sys_txAbort HI.out.sys.sys HI.out.sys.ht).mono ?_
      rintro e w5 ⟨rfl, h5⟩
      have H5 := Lib.hid h5
      clear h5
      go_wp2_with fail
      refine (alive8_any _).mono ?_
      rintro e w6 ⟨rfl, hb⟩
      have H6 := Lib.hid (H5.out.below hb)
      clear hb H5
      go_wp2_with fail
      go_ret
      exact ⟨rfl, H6.out.all⟩
end Go.Proofs.YthgdkpkhnhjifaaGreat
