/- Layer 4 (journal): a transaction's body. -/
import Derived.Test.YtdddennhdbmolaaGreatM16
import Derived.Stop.RegionWithIn
import Derived.BigRegion
import Derived.BigQuiet
namespace Go.Proofs.YtdddennhdbmolaaGreat
open Go.RowKit Go.Maps Go.Shelf
set_option linter.unusedVariables false
set_option linter.unusedSimpArgs false
set_option maxRecDepth 10000
attribute [local go_sem] Oper.semAt_some
theorem group_at (l : PutL) (j q : Nat) (hq : q < (group l j).length) : ∃ h : 32 * j + q < l.length, (group l j)[q] = l[32 * j + q] := by
  have hl : q < 32 ∧ 32 * j + q < l.length := by
    unfold group at hq
    rw [List.length_take, List.length_drop] at hq
    omega
  refine ⟨hl.2, ?_⟩
  have h1 : (group l j)[q]? = l[32 * j + q]? := by
    unfold group
    rw [List.getElem?_take, if_pos hl.1, List.getElem?_drop]
  rw [List.getElem?_eq_getElem hq, List.getElem?_eq_getElem hl.2] at h1
  exact Option.some.inj h1
theorem group_len (l : PutL) (j : Nat) : (group l j).length = min 32 (l.length - 32 * j) := by
  unfold group
  rw [List.length_take, List.length_drop]
theorem owns_base {W : World} {base base' : Nat} {e : TypeId} {v : Value} {n : Nat} {xs : List Value} {sz : Nat} (h : W.ownsRow base e sz v n xs) (hb : base' ≤ base) : W.ownsRow base' e sz v n xs := by
  refine ⟨h.1, ?_⟩
  rcases h.2 with h0 | ⟨g, cap, cur, hv, hb2, hr⟩
  · exact .inl h0
  · exact .inr ⟨g, cap, cur, hv, Nat.le_trans hb hb2, hr⟩
theorem numRow_snoc (l : PutL) (p : Nat × List UInt8) : numRow (l ++ [p]) = numRow l ++ leB 2 p.1 := by simp [numRow]
end Go.Proofs.YtdddennhdbmolaaGreat
/- Layer 4 (journal): a transaction is kept, and read back. -/
namespace Go.Proofs.YtdddennhdbmolaaGreat
open Go.RowKit Go.Maps
set_option linter.unusedVariables false
set_option linter.unusedSimpArgs false
set_option maxRecDepth 10000
theorem ownT_at {W : World} {base : Nat} {v : Value} {ss : List (List UInt8)} (h : OwnT W base v ss) : ∃ A c, v = .slice A ss.length c ∧ ∀ k (hk : k < ss.length), ∃ g, A = some ⟨g, 0, none⟩ ∧ base ≤ g ∧ g < W.heap.size ∧ ss.length ≤ c ∧ c ≤ maxLen ∧ W.cell? ⟨g, k, none⟩ = some (str ss[k]) := by
  rcases h.2 with ⟨rfl, h0⟩ | ⟨g, cap, cur, rfl, hb, hg, hc1, hc2, _⟩
  · exact ⟨none, 0, by rw [h0], fun k hk => by omega⟩
  · refine ⟨_, cap, rfl, fun k hk => ⟨g, rfl, hb, (Array.getElem?_eq_some_iff.1 hg).1, hc1, hc2, ?_⟩⟩
    have := h.cells (g := g) rfl k (str ss[k]) (by simp [hk])
    rwa [addr_add0] at this
theorem grown_of_below' {w w' : World} (h : Below w.heap.size w w') (row : Option Nat) : w.grownBy w' row := ⟨h.os, h.tape, h.output, h.size, fun i hi _ => h.block i hi⟩
theorem readBody_none (base : Nat) (sv : Value) (w : World) (h : OwnT w base sv []) :
    Calls Tryz.prog 81 #[sv, .int .i64 0] w fun e w' => e = .returned (.slice none 0 0) ∧ w = w' := by
  obtain ⟨A, c, rfl, hat⟩ := ownT_at h
  clear hat
  rcases h.2 with ⟨h1, -⟩ | ⟨g, cap, cur, h1, hb, hg, hc1, hc2, -⟩
  · injection h1 with e1 e2 e3
    subst e1 e3
    go_enter Tryz.func81, Tryz.ntmps81
    go_wp2_with fail
    go_loopw [5, 20] (fun v i wr => v = .slice none 0 0 ∧ i = .int .i64 0 ∧ w = wr) (fun _ i _ => 0)
    case atStart => exact ⟨rfl, rfl, rfl⟩
    case round =>
      obtain ⟨rfl, rfl, rfl⟩ := hrel
      go_wp2_with fail
      go_ret
      exact ⟨rfl, rfl⟩
  · injection h1 with e1 e2 e3
    subst e1 e3
    unfold maxLen at hc2
    go_enter Tryz.func81, Tryz.ntmps81
    go_wp2_with fail
    go_loopw [5, 20] (fun v i wr => v = .slice none 0 0 ∧ i = .int .i64 0 ∧ w = wr) (fun _ i _ => 0)
    case atStart => exact ⟨rfl, rfl, rfl⟩
    case round =>
      obtain ⟨rfl, rfl, rfl⟩ := hrel
      go_wp2_with fail
      go_ret
      exact ⟨rfl, rfl⟩
set_option maxHeartbeats 2000000 in
theorem readBody_any (base : Nat) (sv : Value) (l : PutL) (w : World) (h : OwnT w base sv (bodyL l)) (hl : l.length ≤ 4096) (hn : ∀ p ∈ l, p.1 < 65536) (h64 : ∀ p ∈ l, p.2.length = 64) (hne : l ≠ []) :
    Calls Tryz.prog 81 #[sv, .int .i64 (l.length : Int)] w fun e w' => ∃ v', e = .returned v' ∧ OwnP w' w.heap.size v' (castL l) ∧ Below w.heap.size w w' := by
  obtain ⟨A, c, rfl, hat⟩ := ownT_at h
  have hbl := bodyL_length l
  have hpos := List.length_pos_iff.2 hne
  obtain ⟨g, rfl, -, hg, hc1, hc2, -⟩ := hat 0 (by omega)
  have hat2 : ∀ k (hk : k < (bodyL l).length), w.cell? ⟨g, k, none⟩ = some (str (bodyL l)[k]) := fun k hk => by
    obtain ⟨g', h1, -, -, -, -, h2⟩ := hat k hk
    obtain rfl : g = g' := by injection h1 with h1; injection h1
    exact h2
  have hcon : ∀ k (hk : k < l.length), w.cell? ⟨g, (bodyL l).length - l.length + k, none⟩ = some (str l[k].2) := fun k hk => by
    have h1 := hat2 ((bodyL l).length - l.length + k) (by omega)
    have h2 := body_rest l
    have h3 : ((bodyL l).drop ((bodyL l).length - l.length))[k]? = (l.map (·.2))[k]? := by rw [h2]
    rw [List.getElem?_drop, List.getElem?_eq_getElem (by omega), List.getElem?_map, List.getElem?_eq_getElem hk] at h3
    have h4 : (bodyL l)[(bodyL l).length - l.length + k] = l[k].2 := by simpa using h3
    rw [h1, h4]
  have hnum : ∀ k (hk : k < l.length) (hb : k / 32 < (bodyL l).length), leV ((((bodyL l)[k / 32]).drop (k % 32 * 2)).take 2) = l[k].1 := fun k hk hb => body_num l k hk (hn _ (List.getElem_mem _)) hb
  have heach := bodyL_each l h64
  have HAT := Lib.hid hat2
  have HCO := Lib.hid hcon
  have HNU := Lib.hid hnum
  have HEA := Lib.hid heach
  have HN := Lib.hid hn
  clear hat hat2 hcon hnum heach hn h64 h
  have hoff : ((bodyL l).length : Int) - (l.length : Int) = (((bodyL l).length - l.length : Nat) : Int) := by omega
  generalize hB : bodyL l = bl at *
  obtain ⟨o, ho⟩ : ∃ o, o = bl.length - l.length := ⟨_, rfl⟩
  rw [← ho] at hoff HCO
  have HOFF := Lib.hid hoff
  unfold maxLen at hc2
  have hle : l.length + o = bl.length := by omega
  have hn1 : l.length ≤ 32 * (bl.length - l.length) := by omega
  have HLE := Lib.hid hle
  have HBL := Lib.hid hbl
  have HO := Lib.hid ho
  have hI1 : (l.length : Int) ≤ (bl.length : Int) := by omega
  have hI2 : (bl.length : Int) ≤ (c : Int) := by omega
  have hI3 : bl.length ≤ 8192 := by omega
  clear hoff hB hbl hle hn1 ho
  go_enter Tryz.func81, Tryz.ntmps81
  go_wp2_with fail
  rw [show bl.length - (bl.length - l.length) = l.length by omega, show bl.length - l.length = o from HO.out.symm]
  have hoc : o ≤ c := by have := HLE.out; omega
  go_loopw [5, 20] (fun v i wr => ∃ k : Nat, k ≤ l.length ∧ i = .int .i64 k ∧ OwnP wr w.heap.size v (castL (l.take k)) ∧ Below w.heap.size w wr) (fun _ i _ => l.length - (intOf i).toNat)
  case atStart => exact ⟨0, Nat.zero_le _, rfl, World.ownsRow_nil _ _ _ _, Below.refl _ _⟩
  case round =>
    obtain ⟨k, hk, rfl, hown, hb⟩ := hrel
    by_cases hlt : k < l.length
    · have hkb : k / 32 < bl.length := by have := HBL.out; omega
      have hd1 : wr.cell? ⟨g, o + k, none⟩ = some (str l[k].2) := (hb.cell (p := ⟨g, o + k, none⟩) hg).trans (HCO.out k hlt)
      have hd2 : wr.cell? ⟨g, k / 32, none⟩ = some (str bl[k / 32]) := (hb.cell (p := ⟨g, k / 32, none⟩) hg).trans (HAT.out (k / 32) hkb)
      have h64 := HEA.out bl[k / 32] (List.getElem_mem _)
      have hnu := HNU.out k hlt hkb
      have hnx := HN.out l[k] (List.getElem_mem _)
      have hts : castL (l.take (k + 1)) = castL (l.take k) ++ [((l[k].1 : Int), l[k].2)] := by rw [List.take_succ_eq_append_getElem hlt, castL_snoc]
      have hcal : (castL (l.take k)).length = k := by rw [castL_length, List.length_take]; omega
      have HTS := Lib.hid hts
      have HT := Lib.hid fun W => take_any (bl[k / 32].drop (k % 32 * 2)) 2 W (by rw [List.length_drop]; omega) (by decide) (by rw [List.length_drop]; omega) 2 rfl
      rw [hnu] at HT
      have htk : bl[k / 32].take 64 = bl[k / 32] := List.take_of_length_le (by omega)
      rw [← htk] at HT
      clear hts hnu htk
      generalize bl[k / 32] = row at *
      generalize castL (l.take k) = acc at *
      generalize l[k] = x at *
      obtain ⟨s, d⟩ := x
      simp only at hnx
      have hsz := hb.size
      have hm32 : (k : Int) % 32 * 2 ≤ 64 := by omega
      have hm0 : (0 : Int) ≤ (k : Int) % 32 * 2 := by omega
      have hq0 : (0 : Int) ≤ (k : Int) / 32 := by omega
      have hq1 : (k : Int) / 32 < (bl.length : Int) := by omega
      go_wp2_with fail
      with_reducible refine (HT.out _).mono ?_
      rintro e w1 ⟨rfl, hb1⟩
      have hbw := hb.trans (hb1.mono hsz)
      have hsz1 := hbw.size
      have hown1 : OwnP (w1.alloc (.cells #[.int .i64 (s : Int), str d] 140)) w.heap.size _ acc := World.ownsRow.alloc (hown.kept (grown_of_below' hb1 none) (by cases hv : Value.ownBlock _ <;> simp)) _
      obtain ⟨x0, x1⟩ := cells2 w1 (.int .i64 (s : Int)) (str d) 140
      obtain ⟨v', W4, hap, hown4, hB4, -, -, -⟩ := append_put _ w.heap.size w.heap.size _ acc ((s : Int), d) hown1 w1.heap.size 1 x0 x1 (by omega) (by simp; omega) (by simp; omega) (fun k hk => (hown1.lt k hk).1)
      obtain ⟨A3, c3, rfl, -⟩ := hown.puts
      rw [hcal] at hap ⊢
      have hwrap : wrap64 (s : Int) = (s : Int) := IntWalk.wrap64_in _ (by omega)
      have HF := Lib.hid hown4
      have HB := Lib.hid ((hbw.alloc hsz1 (.cells #[.int .i64 (s : Int), str d] 140)).trans hB4)
      clear hown4 hB4 hown1 hown x0 x1 hd1 hd2 HT
      go_wp2_with fail
      go_roundw
      case rel => exact ⟨k + 1, by omega, by simp, by rw [HTS.out]; exact HF.out, HB.out⟩
      case measure => simp [intOf]; omega
    · obtain rfl : k = l.length := by omega
      rw [List.take_length] at hown
      go_wp2_with fail
      go_ret
      exact ⟨_, rfl, hown, hb⟩
end Go.Proofs.YtdddennhdbmolaaGreat
/- Layer 4 (journal): what was kept; a journal is opened. -/
namespace Go.Proofs.YtdddennhdbmolaaGreat
open Go.RowKit Go.Maps
set_option linter.unusedVariables false
set_option linter.unusedSimpArgs false
set_option maxRecDepth 10000
set_option maxHeartbeats 2000000 in
/-- The transaction that lies in the area. -/
theorem kept_any {S : Nat → Prop} {W : World} {b : Nat} {M : Dv} (jb F n rec : Nat) (l : PutL) (h : DevAt S W b M) (hj : JAt W jb b F n rec) (hdn : M.down = false) (hw : M.wr ≤ 1099511627776)
    (hT : Tr M.n F n l) (h4 : 4 ≤ n) (h256 : n ≤ 256) (hcap : l.length ≤ capL n) (hwhy : whyL M.n F n (castL l) = 0) (hbody : ∀ k (hk : k < (bodyL l).length), M.cur (F + 1 + k) = (bodyL l)[k]) :
    Calls Tryz.prog 55 #[devp jb, .int .i64 (l.length : Int)] W fun e w' => ∃ v', e = .returned v' ∧ Puts w' v' (castL l) ∧ (∀ k, v'.ownBlock = some k → W.heap.size ≤ k ∧ k < w'.heap.size) ∧ Below W.heap.size W w' := by
  have hfine := h.fine.n
  have harea := hT.area
  have hfits := hT.fits
  have hll := hT.len
  have hbl := bodyL_length l
  have HMX := Lib.hid (max_any jb b F n rec W hj h4 h256)
  have HBS := Lib.hid (bodySize_any l.length W (by omega))
  have HD := Lib.hid h
  have HJ := Lib.hid hj
  have HBY := Lib.hid hbody
  have hn16 : ∀ p ∈ l, p.1 < 65536 := fun p hp => by have := (hT.ok p hp).1; omega
  have h64 : ∀ p ∈ l, p.2.length = 64 := fun p hp => (hT.ok p hp).2
  have HRB0 := Lib.hid fun base sv w (h : OwnT w base sv []) => readBody_none base sv w h
  have HRB := Lib.hid fun base sv w (h : OwnT w base sv (bodyL l)) (hne : l ≠ []) => readBody_any base sv l w h hll hn16 h64 hne
  have HJO := Lib.hid (show JOn W jb b F n rec M.n from by obtain ⟨g, c, m, vals, hI⟩ := h; exact ⟨hj, g, c, hI.head.c2⟩)
  have hpl : ∀ p ∈ castL l, p.2.length ≤ 140737488351232 := fun p hp => by
    obtain ⟨q, hq, rfl⟩ := List.mem_map.1 hp
    have := h64 q hq
    show q.2.length ≤ _
    omega
  have HPL := Lib.hid hpl
  have hcapI : decide ((capL n : Int) < (l.length : Int)) = false := decide_eq_false (by omega)
  have hblI : ((l.length : Int) + 31) / 32 + (l.length : Int) = ((bodyL l).length : Int) := by rw [hbl]; omega
  rw [hblI] at HBS
  generalize capL n = q at *
  have hb8 : (bodyL l).length ≤ 8192 := by rw [hbl]; omega
  have hbF : F + 1 + (bodyL l).length ≤ M.n := by rw [hbl]; omega
  have hcl := castL_length l
  clear h hj hbody hn16 h64 hpl hblI hbl
  generalize hBB : bodyL l = bl at *
  have HBB := Lib.hid hBB
  clear hBB
  go_enter Tryz.func55, Tryz.ntmps55
  go_wp2_with fail
  refine HMX.out.mono ?_
  rintro e w1 ⟨rfl, rfl⟩
  go_wp2_with fail
  refine HBS.out.mono ?_
  rintro e w1 ⟨rfl, rfl⟩
  clear HMX HBS
  go_wp2_with fail
  go_loopw [5, 16] (fun v i wr => ∃ k : Nat, k ≤ bl.length ∧ i = .int .i64 k ∧ OwnT wr W.heap.size v (bl.take k) ∧ Below W.heap.size W wr) (fun _ i _ => bl.length - (intOf i).toNat)
  case atStart => exact ⟨0, Nat.zero_le _, rfl, World.ownsRow_nil _ _ _ _, Below.refl _ _⟩
  case round =>
    obtain ⟨k, hk, rfl, hown, hb⟩ := hrel
    by_cases hlt : k < bl.length
    · have hR := fun W' (hb2 : Below W.heap.size W W') => read_any (HD.out.below hb2) hdn hw (F + 1 + k) (by omega)
      have hci : ((F + 1 + k : Nat) : Int) = (F : Int) + 1 + (k : Int) := by omega
      rw [hci, HBY.out k hlt] at hR
      have HR := Lib.hid hR
      have hts : bl.take (k + 1) = bl.take k ++ [bl[k]] := List.take_succ_eq_append_getElem hlt
      have hcal : (bl.take k).length = k := by rw [List.length_take]; omega
      have HTS := Lib.hid hts
      clear hR hts hci
      generalize bl[k] = s at *
      generalize bl.take k = acc at *
      have hsz := hb.size
      have B := Lib.hid (hb.trans ((Below.refl W.heap.size wr).drew))
      obtain ⟨d0, d1⟩ := HJ.out.up B.out
      have HOWN := Lib.hid hown
      clear hown
      have hw1 : IntKind.i64.wrap ((F : Int) + 1) = (F : Int) + 1 := IntWalk.i64_in _ (by omega)
      have hw2 : IntKind.i64.wrap ((F : Int) + 1 + (k : Int)) = (F : Int) + 1 + (k : Int) := IntWalk.i64_in _ (by omega)
      go_wp2_with fail
      go_region_held3 (fun W' => W'.cell? ⟨jb, 0, none⟩ = some (devp b) ∧ W'.cell? ⟨jb, 1, none⟩ = some (.int .i64 (F : Int)))
        (exact ⟨d0, d1⟩)
        (first | (go_at_call 69; ((with_reducible refine (HR.out _ B.out).mono ?_); rintro e w4 ⟨rfl, hb4⟩; have HB4 := Lib.hid ((Below.refl wr.heap.size wr).drew.trans hb4); have B := Lib.hid (B.out.trans (hb4.mono hsz)); obtain ⟨d0, d1⟩ := HJ.out.up B.out)))
      have hown4 : OwnT w4 W.heap.size _ acc := HOWN.out.kept (grown_of_below' HB4.out none) (by cases hv : Value.ownBlock _ <;> simp)
      have hsz4 := B.out.size
      obtain ⟨v', W5, hap, hown5, hg5, -⟩ := append_txt (w4.alloc (.cells #[str s] 9)) W.heap.size _ acc s (World.ownsRow.alloc hown4 _) w4.heap.size 1 (cell_new_l w4 _ _) (by omega) (by simp; omega)
      have hB5 : Below W.heap.size W W5 := (B.out.alloc hsz4 _).grown hg5 (by simp; omega) (fun k hk => (hown4.lt k hk).1)
      have HF := Lib.hid hown5
      have HB := Lib.hid hB5
      clear hown5 hB5 hg5 hown4 d0 d1
      go_wp2_with fail
      go_roundw
      case rel => exact ⟨k + 1, by omega, by simp, by rw [HTS.out]; exact HF.out, HB.out⟩
      case measure => simp [intOf]; omega
    · obtain rfl : k = bl.length := by omega
      rw [List.take_length] at hown
      have HOWN := Lib.hid hown
      have HW := Lib.hid hwhy
      clear hown hwhy
      by_cases hne : l = []
      · subst hne
        have hb0 : bl = [] := by rw [← HBB.out]; rfl
        subst hb0
        have HR := Lib.hid (HRB0.out _ _ _ HOWN.out)
        go_wp2_with fail
        refine HR.out.mono ?_
        rintro e w1 ⟨rfl, rfl⟩
        have hpn : Puts wr (.slice none 0 0) [] := ⟨none, 0, rfl, fun j p hj => by simp at hj⟩
        have HREF := Lib.hid (refusal_any jb b F n rec M.n (.slice none 0 0) [] wr (HJO.out.below hb) hpn (by simp) (fun p hp => by cases hp) (by omega) h4 h256 hfine)
        have hz : whyL M.n F n [] = 0 := HW.out
        rw [hz] at HREF
        go_wp2_with fail
        refine HREF.out.mono ?_
        rintro e w2 ⟨rfl, hb2⟩
        have HB := Lib.hid (hb.trans (hb2.mono hb.size))
        clear HREF HR hpn
        go_wp2_with fail
        go_ret
        exact ⟨_, rfl, ⟨none, 0, rfl, fun j p hj => by simp [castL] at hj⟩, (fun k hk => by cases hk), HB.out⟩
      · have HR := Lib.hid (HRB.out _ _ _ HOWN.out hne)
        go_wp2_with fail
        refine HR.out.mono ?_
        rintro e w1 ⟨v', rfl, hown1, hb1⟩
        have hbw := hb.trans (hb1.mono hb.size)
        have HREF := Lib.hid (refusal_any jb b F n rec M.n v' (castL l) w1 (HJO.out.below hbw) hown1.puts (by rw [hcl]; unfold maxLen; omega) HPL.out (by omega) h4 h256 hfine)
        rw [HW.out] at HREF
        have HP := Lib.hid hown1
        clear hown1 HR
        go_wp2_with fail
        refine HREF.out.mono ?_
        rintro e w2 ⟨rfl, hb2⟩
        have HB := Lib.hid (hbw.trans (hb2.mono hbw.size))
        have HS := Lib.hid hb2.size
        have HP2 := Lib.hid (HP.out.puts.below hb2)
        have hs1 := hb.size
        clear HREF
        go_wp2_with fail
        go_ret
        exact ⟨_, rfl, HP2.out, fun k hk => ⟨by have := (HP.out.lt k hk).1; omega, by have := (HP.out.lt k hk).2; have := HS.out; omega⟩, HB.out⟩
end Go.Proofs.YtdddennhdbmolaaGreat
/- Layer 4 (journal): a journal is opened. -/
namespace Go.Proofs.YtdddennhdbmolaaGreat
open Go.RowKit Go.Maps
set_option linter.unusedVariables false
set_option linter.unusedSimpArgs false
set_option maxRecDepth 10000
theorem jopen_nil (F n : Int) (W : World) : Calls Tryz.prog 33 #[.pointer none, .int .i64 F, .int .i64 n] W fun e w' => e = .returned (.tuple #[.pointer none, .int .i64 1]) ∧ W = w' := by
  go_enter Tryz.func33, Tryz.ntmps33
  go_wp2_with fail
  go_ret2
  exact ⟨rfl, rfl⟩
/-- An area that may be. -/
def mayB (N : Nat) (F n : Int) : Bool := decide (4 ≤ n) && decide (n ≤ 256) && decide (0 ≤ F) && decide (F ≤ (N : Int) - n)
set_option maxHeartbeats 1000000 in
theorem jopen_bad {K : Nat → Prop} {w W : World} {b : Nat} {M : Dv} (h : Held K w W b M) (F n : Int) (hb : mayB M.n F n = false) :
    Calls Tryz.prog 33 #[devp b, .int .i64 F, .int .i64 n] W fun e w' => e = .returned (.tuple #[.pointer none, .int .i64 2]) ∧ W = w' := by
  have hn := h.fine.n
  have HL := Lib.hid (held_len h)
  clear h
  unfold mayB at hb
  generalize M.n = N at *
  by_cases h1 : n < 4
  · clear hb
    go_enter Tryz.func33, Tryz.ntmps33
    go_wp2_with fail
    go_ret2
    exact ⟨rfl, rfl⟩
  have e1 : decide (n < 4) = false := decide_eq_false h1
  by_cases h2 : 256 < n
  · clear hb
    go_enter Tryz.func33, Tryz.ntmps33
    go_wp2_with fail
    go_ret2
    exact ⟨rfl, rfl⟩
  have e2 : decide (256 < n) = false := decide_eq_false h2
  by_cases h3 : F < 0
  · clear hb
    go_enter Tryz.func33, Tryz.ntmps33
    go_wp2_with fail
    go_ret2
    exact ⟨rfl, rfl⟩
  have e3 : decide (F < 0) = false := decide_eq_false h3
  have h4 : (N : Int) - n < F := by
    rw [decide_eq_true (show 4 ≤ n by omega), decide_eq_true (show n ≤ 256 by omega), decide_eq_true (show 0 ≤ F by omega)] at hb
    simp at hb
    omega
  clear hb
  have hi1 : -256 ≤ -n := by omega
  go_enter Tryz.func33, Tryz.ntmps33
  go_wp2_with fail
  refine HL.out.mono ?_
  rintro e w1 ⟨rfl, rfl⟩
  go_wp2_with fail
  go_ret2
  exact ⟨rfl, rfl⟩
set_option maxHeartbeats 1000000 in
theorem jopen_down {K : Nat → Prop} {w W : World} {b : Nat} {M : Dv} (h : Held K w W b M) (F n : Nat) (h4 : 4 ≤ n) (h256 : n ≤ 256) (hF : F + n ≤ M.n) (hd : M.down = true) :
    Calls Tryz.prog 33 #[devp b, .int .i64 (F : Int), .int .i64 (n : Int)] W fun e w' => e = .returned (.tuple #[.pointer none, .int .i64 30]) ∧ W = w' := by
  have hn := h.fine.n
  have HL := Lib.hid (held_len h)
  have hD := held_down h
  rw [hd] at hD
  have HD := Lib.hid hD
  clear h hD hd
  generalize M.n = N at *
  have e1 : decide ((n : Int) < 4) = false := decide_eq_false (by omega)
  have e2 : decide (256 < (n : Int)) = false := decide_eq_false (by omega)
  have e4 : decide ((N : Int) - (n : Int) < (F : Int)) = false := decide_eq_false (by omega)
  go_enter Tryz.func33, Tryz.ntmps33
  go_wp2_with fail
  refine HL.out.mono ?_
  rintro e w1 ⟨rfl, rfl⟩
  go_wp2_with fail
  refine HD.out.mono ?_
  rintro e w1 ⟨rfl, rfl⟩
  go_wp2_with fail
  go_ret2
  exact ⟨rfl, rfl⟩
theorem cells4 {W : World} {jb b F n : Nat} (h : W.heap[jb]? = some (.cells #[devp b, .int .i64 (F : Int), .int .i64 (n : Int), .int .i64 0] 123 (0, 0))) : JAt W jb b F n 0 := by
  refine ⟨?_, ?_, ?_, ?_⟩ <;> (unfold World.cell?; rw [h]; rfl)
set_option maxHeartbeats 1000000 in
/-- Where nothing is to be recovered. -/
theorem jopen_clean {K : Nat → Prop} {W : World} {b : Nat} {M : Dv} (h : Held K W W b M) (F n : Nat) (h4 : 4 ≤ n) (h256 : n ≤ 256) (hF : F + n ≤ M.n) (hdn : M.down = false) (hw : M.wr ≤ 1099511627776) (hp : (hd (M.cur F)).pend = false) :
    Calls Tryz.prog 33 #[devp b, .int .i64 (F : Int), .int .i64 (n : Int)] W fun e w' => ∃ jb, e = .returned (.tuple #[devp jb, .int .i64 0]) ∧ W.heap.size ≤ jb ∧ JAt w' jb b F n 0 ∧ Below W.heap.size W w' ∧ Held (fun k => K k ∨ k = jb) w' w' b M := by
  have hn := h.fine.n
  have HL := Lib.hid (held_len h)
  have hD := held_down h
  rw [hdn] at hD
  have HD := Lib.hid hD
  have HH := Lib.hid h
  clear hD
  -- the journal
  obtain ⟨V, hV⟩ : ∃ V, V = W.alloc (.cells #[devp b, .int .i64 (F : Int), .int .i64 (n : Int), .int .i64 0] 123) := ⟨_, rfl⟩
  have hVb : Below W.heap.size W V := by rw [hV]; exact (Below.refl _ _).alloc (Nat.le_refl _) _
  have hVs : V.heap.size = W.heap.size + 1 := by rw [hV]; simp
  have hjat : JAt V W.heap.size b F n 0 := cells4 (by rw [hV]; exact heap_alloc_new W _)
  have hhead : Calls Tryz.prog 54 #[devp W.heap.size] V fun e w' => e = .returned (hdV (M.headOf F)) ∧ Below V.heap.size V w' := by
    obtain ⟨h1, S, h3, _⟩ := h
    exact head_any W.heap.size F n 0 (h3.below hVb) hjat (by omega) hw
  have hpd : (M.headOf F).pend = false := by unfold Dv.headOf; rw [hdn, if_neg (by simp)]; exact hp
  have HHD := Lib.hid hhead
  have HJ := Lib.hid hjat
  clear h hhead hjat hp hdn
  generalize M.headOf F = x at *
  obtain ⟨g, p, c⟩ := x
  simp only at hpd
  subst hpd
  unfold hdV at HHD
  simp only at HHD
  have hfin : ∀ w', Below V.heap.size V w' → W.heap.size ≤ W.heap.size ∧ JAt w' W.heap.size b F n 0 ∧ Below W.heap.size W w' ∧ Held (fun k => K k ∨ k = W.heap.size) w' w' b M := fun w' hb => by
    have hbw := hVb.trans (hb.mono (by omega))
    exact ⟨Nat.le_refl _, HJ.out.below hb, hbw, HH.out.more hbw fun k hk => by
      rcases hk with hk | hk
      · exact .inl hk
      · have := hb.size; exact .inr (by omega)⟩
  have HF := Lib.hid hfin
  clear hfin
  generalize hN : M.n = N at *
  have e1 : decide ((n : Int) < 4) = false := decide_eq_false (by omega)
  have e2 : decide (256 < (n : Int)) = false := decide_eq_false (by omega)
  have e4 : decide ((N : Int) - (n : Int) < (F : Int)) = false := decide_eq_false (by omega)
  go_enter Tryz.func33, Tryz.ntmps33
  go_wp2_with fail
  refine HL.out.mono ?_
  rintro e w1 ⟨rfl, rfl⟩
  go_wp2_with fail
  refine HD.out.mono ?_
  rintro e w1 ⟨rfl, rfl⟩
  go_wp2_with fail
  rw [← hV]
  clear hV
  refine HHD.out.mono ?_
  rintro e w1 ⟨rfl, hb1⟩
  have hB2 := Lib.hid (hb1.alloc hb1.size (.cells #[.int .u64 (g : Int), .bool false, .int .i64 (c : Int)] 125))
  obtain ⟨x0, x1, x2⟩ := row3 (heap_alloc_new w1 (.cells #[.int .u64 (g : Int), .bool false, .int .i64 (c : Int)] 125))
  go_wp2_with fail
  go_ret2
  exact ⟨_, rfl, HF.out _ hB2.out⟩
end Go.Proofs.YtdddennhdbmolaaGreat
/- Layer 4 (journal): a journal is opened, and something is recovered. -/
namespace Go.Proofs.YtdddennhdbmolaaGreat
open Go.RowKit Go.Maps
set_option linter.unusedVariables false
set_option linter.unusedSimpArgs false
set_option maxRecDepth 10000
/-- What a journal writes of its own turns no device. -/
theorem held_set {K K' : Nat → Prop} {w W : World} {b : Nat} {M : Dv} (h : Held K w W b M) (a : Addr) (v : Value) (ha : K a.block) (hK : ∀ k, K' k → K k) : Held K' (W.setCell a v) (W.setCell a v) b M := by
  obtain ⟨h1, S, h3, h4⟩ := h
  have hne : ∀ k, S k → k ≠ a.block := fun k hk e => h4 k hk (e ▸ ha)
  have hs : (W.setCell a v).heap.size = W.heap.size := by simp [World.setCell]
  refine ⟨.refl fun k hk => ?_, S, h3.kept (by rw [hs]; exact Nat.le_refl _) (fun k hk => Below.heap_setCell W a v k (hne k hk)), fun k hk hk' => h4 k hk (hK k hk')⟩
  rw [hs]
  exact Nat.lt_of_lt_of_le (h1.lt k (hK k hk)) h1.size
theorem keeps_set {K : Nat → Prop} {w W : World} (h : Keeps K w W) (a : Addr) (v : Value) (ha : ¬ K a.block) : Keeps K w (W.setCell a v) :=
  ⟨h.lt, h.os, h.tape, h.output, by simp [World.setCell]; exact h.size, fun k hk => (Below.heap_setCell W a v k (fun e => ha (e ▸ hk))).trans (h.same k hk)⟩
theorem far2 {W : World} {q : Addr} {v a c : Value} {g : Nat} (h : W.cell? q = some v) (hg : g ≠ q.block) : ((W.setCell ⟨g, 0, none⟩ a).setCell ⟨g, 1, none⟩ c).cell? q = some v := by
  rw [World.cell?_setCell_far _ _ _ _ hg, World.cell?_setCell_far _ _ _ _ hg]
  exact h
theorem set2 {W : World} {g : Nat} {a b : Value} {t : TypeId} (h : W.heap[g]? = some (.cells #[a, b] t (0, 0))) (x y : Value) :
    ((W.setCell ⟨g, 0, none⟩ x).setCell ⟨g, 1, none⟩ y).heap[g]? = some (.cells #[x, y] t (0, 0)) :=
  heap_setCell_same _ g 1 _ t y (heap_setCell_same W g 0 _ t x h)
theorem frz2 {W : World} {g : Nat} {a b : Value} {t : TypeId} (h : W.heap[g]? = some (.cells #[a, b] t (0, 0))) : W.frozen? ⟨g, 0, none⟩ = false ∧ W.frozen? ⟨g, 1, none⟩ = false := ⟨frozen_of_row W _ 0 _ t h, frozen_of_row W _ 1 _ t h⟩
theorem jat_set {W : World} {jb b F n m : Nat} (h : W.heap[jb]? = some (.cells #[devp b, .int .i64 (F : Int), .int .i64 (n : Int), .int .i64 0] 123 (0, 0))) : JAt (W.setCell ⟨jb, 3, none⟩ (.int .i64 (m : Int))) jb b F n m := by
  have h2 : (W.setCell ⟨jb, 3, none⟩ (.int .i64 (m : Int))).heap[jb]? = some (.cells #[devp b, .int .i64 (F : Int), .int .i64 (n : Int), .int .i64 (m : Int)] 123 (0, 0)) := heap_setCell_same W jb 3 _ _ _ h
  refine ⟨?_, ?_, ?_, ?_⟩ <;> (unfold World.cell?; rw [h2]; rfl)
theorem castL_mark (F g st c : Nat) : castL (markP F g st c) = [((F : Int), headL g st c)] := rfl
/-- The steps behind the commit. -/
theorem redo_ok {K : Nat → Prop} {w : World} (jb b F n rec g : Nat) (v : Value) (l : PutL) (hj : JAt w jb b F n rec) (hKj : K jb) (hv : Puts w v (castL l)) (hKv : ∀ k, v.ownBlock = some k → K k) (hg : g < 18446744073709551616) :
    StepOk K w jb (txV g v) 85 l ∧ StepOk K w jb (txV g v) 86 (markP F g 0 0) := by
  obtain ⟨A, c, rfl, hc⟩ := hv
  refine ⟨⟨enters_of Tryz.func85 (by kernel_rfl) rfl, fun W hW => ?_⟩, ⟨enters_of Tryz.func86 (by kernel_rfl) rfl, fun W hW => ?_⟩⟩
  · refine (place_any jb g A _ c).mono ?_
    rintro e w' ⟨rfl, hb⟩
    have hp : Puts W (.slice A (castL l).length c) (castL l) := Puts.kept ⟨A, c, rfl, hc⟩ fun k hk => hW.same k (hKv k hk)
    exact ⟨_, rfl, hp.below hb, fun k hk => .inl (hKv k hk), hb⟩
  · refine (end_any jb b F n rec g A _ c (hj.kept (hW.same jb hKj)) hg).mono ?_
    rintro e w' ⟨v', rfl, hp, hf, hb⟩
    exact ⟨_, rfl, hp, fun k hk => .inr (hf k hk), hb⟩
set_option maxHeartbeats 4000000 in
/-- Where a transaction is committed, and not done. -/
theorem jopen_redo {K : Nat → Prop} {W : World} {b : Nat} {M : Dv} (h : Held K W W b M) (F n g : Nat) (l : PutL) (h4 : 4 ≤ n) (h256 : n ≤ 256) (hdn : M.down = false) (hw : M.wr + 8192 ≤ 1099511627776)
    (hT : Tr M.n F n l) (hcap : l.length ≤ capL n) (hwhy : whyL M.n F n (castL l) = 0) (hhd : hd (M.cur F) = ⟨g, true, l.length⟩) (hbody : ∀ k (hk : k < (bodyL l).length), M.cur (F + 1 + k) = (bodyL l)[k]) :
    Calls Tryz.prog 33 #[devp b, .int .i64 (F : Int), .int .i64 (n : Int)] W fun e w' =>
      ((M.runD (redoP F g l)).down = true ∧ e = .returned (.tuple #[.pointer none, .int .i64 30]) ∧ Held K W w' b (M.runD (redoP F g l))) ∨
      ((M.runD (redoP F g l)).down = false ∧ ∃ jb, e = .returned (.tuple #[devp jb, .int .i64 0]) ∧ W.heap.size ≤ jb ∧ JAt w' jb b F n l.length ∧ Keeps K W w' ∧ Held (fun k => K k ∨ k = jb) w' w' b (M.runD (redoP F g l))) := by
  have hn := h.fine.n
  have hg : g < 18446744073709551616 := by have := hd_gen_lt (M.cur F); rw [hhd] at this; exact this
  have hF := hT.area
  have hfits := hT.fits
  have hll := hT.len
  have HL := Lib.hid (held_len h)
  have hD := held_down h
  rw [hdn] at hD
  have HD := Lib.hid hD
  have HH := Lib.hid h
  have HT := Lib.hid hT
  clear hD
  -- the journal
  obtain ⟨V, hV⟩ : ∃ V, V = W.alloc (.cells #[devp b, .int .i64 (F : Int), .int .i64 (n : Int), .int .i64 0] 123) := ⟨_, rfl⟩
  have hVb : Below W.heap.size W V := by rw [hV]; exact (Below.refl _ _).alloc (Nat.le_refl _) _
  have hVs : V.heap.size = W.heap.size + 1 := by rw [hV]; simp
  have hVn : V.heap[W.heap.size]? = some (.cells #[devp b, .int .i64 (F : Int), .int .i64 (n : Int), .int .i64 0] 123 (0, 0)) := by rw [hV]; exact heap_alloc_new W _
  have hjat : JAt V W.heap.size b F n 0 := cells4 hVn
  have hhead : Calls Tryz.prog 54 #[devp W.heap.size] V fun e w' => e = .returned (hdV ⟨g, true, l.length⟩) ∧ Below V.heap.size V w' := by
    obtain ⟨h1, S, h3, _⟩ := h
    have := head_any W.heap.size F n 0 (h3.below hVb) hjat (by omega) (by omega)
    unfold Dv.headOf at this
    rwa [hdn, if_neg (by simp), hhd] at this
  have hkept : ∀ W', Below V.heap.size V W' → Calls Tryz.prog 55 #[devp W.heap.size, .int .i64 (l.length : Int)] W' fun e w' => ∃ A c, e = .returned (.slice A l.length c) ∧ Puts w' (.slice A l.length c) (castL l) ∧ (∀ k, (Value.slice A l.length c).ownBlock = some k → W'.heap.size ≤ k ∧ k < w'.heap.size) ∧ Below W'.heap.size W' w' := fun W' hb => by
    obtain ⟨h1, S, h3, _⟩ := h
    refine Calls.mono (?_ : Calls _ _ _ _ fun e w' => ∃ v', e = .returned v' ∧ Puts w' v' (castL l) ∧ (∀ k, v'.ownBlock = some k → W'.heap.size ≤ k ∧ k < w'.heap.size) ∧ Below W'.heap.size W' w') fun e w' hx => by
      obtain ⟨v', he, hp, hf, hb⟩ := hx
      have hp2 := hp
      obtain ⟨A, c, hv, _⟩ := hp2
      rw [castL_length] at hv
      subst hv
      exact ⟨A, c, he, hp, hf, hb⟩
    exact kept_any W.heap.size F n 0 l ((h3.below hVb).below hb) (hjat.below hb) hdn (by omega) hT h4 h256 hcap hwhy hbody
  have HHD := Lib.hid hhead
  have HKP := Lib.hid hkept
  have HJ := Lib.hid hjat
  clear h hhead hjat hkept hhd hbody hwhy
  unfold hdV at HHD
  simp only at HHD
  have hcl := castL_length l
  generalize hN : M.n = N at *
  have e1 : decide ((n : Int) < 4) = false := decide_eq_false (by omega)
  have e2 : decide (256 < (n : Int)) = false := decide_eq_false (by omega)
  have e4 : decide ((N : Int) - (n : Int) < (F : Int)) = false := decide_eq_false (by omega)
  go_enter Tryz.func33, Tryz.ntmps33
  go_wp2_with fail
  refine HL.out.mono ?_
  rintro e w1 ⟨rfl, rfl⟩
  go_wp2_with fail
  refine HD.out.mono ?_
  rintro e w1 ⟨rfl, rfl⟩
  go_wp2_with fail
  rw [← hV]
  clear hV
  refine HHD.out.mono ?_
  rintro e w1 ⟨rfl, hb1⟩
  obtain ⟨X, hX⟩ : ∃ X, X = w1.alloc (.cells #[.int .u64 (g : Int), .bool true, .int .i64 (l.length : Int)] 125) := ⟨_, rfl⟩
  have hXn : X.heap[w1.heap.size]? = some (.cells #[.int .u64 (g : Int), .bool true, .int .i64 (l.length : Int)] 125 (0, 0)) := by rw [hX]; exact heap_alloc_new w1 _
  have hXs : X.heap.size = w1.heap.size + 1 := by rw [hX]; simp
  have hB2 : Below V.heap.size V X := by rw [hX]; exact hb1.alloc hb1.size _
  obtain ⟨x0, x1, x2⟩ := row3 hXn
  have hXX : w1.alloc (.cells #[.int .u64 (g : Int), .bool true, .int .i64 (l.length : Int)] 125) = X := hX.symm
  clear hX HHD HL HD
  go_wp2_with fail
  have hs1 := hb1.size
  clear hXX
  obtain ⟨Y, hY⟩ : ∃ Y, Y = X.alloc (.cells #[.int .u64 0, .slice none 0 0] 129) := ⟨_, rfl⟩
  have hYn : Y.heap[X.heap.size]? = some (.cells #[.int .u64 0, .slice none 0 0] 129 (0, 0)) := by rw [hY]; exact heap_alloc_new X _
  have hYs : Y.heap.size = X.heap.size + 1 := by rw [hY]; simp
  have hXY : Below X.heap.size X Y := by rw [hY]; exact (Below.refl _ _).alloc (Nat.le_refl _) _
  have hYX : Y.heap[w1.heap.size]? = some (.cells #[.int .u64 (g : Int), .bool true, .int .i64 (l.length : Int)] 125 (0, 0)) := (hXY.block _ (by omega)).trans hXn
  rw [hXs] at hYn
  have B1 := Lib.hid (hB2.trans (Below.refl V.heap.size X).drew)
  have B2 := Lib.hid ((hB2.trans (hXY.mono (by omega))).trans (Below.refl V.heap.size Y).drew)
  have HYN := Lib.hid (show Y.drew.heap[w1.heap.size + 1]? = _ from hYn)
  obtain ⟨x0, x1, x2⟩ := row3 (show X.drew.heap[w1.heap.size]? = _ from hXn)
  obtain ⟨y0, y1, y2⟩ := row3 (show Y.drew.heap[w1.heap.size]? = _ from hYX)
  have HXN := Lib.hid (show X.drew.heap[w1.heap.size]? = _ from hXn)
  have HYX := Lib.hid (show Y.drew.heap[w1.heap.size]? = _ from hYX)
  have hXd : w1.heap.size < X.drew.heap.size := by show _ < X.heap.size; omega
  have hYd : w1.heap.size + 1 < Y.drew.heap.size := by show _ < Y.heap.size; omega
  have hYZ : X.alloc (.cells #[.int .u64 0, .slice none 0 0] 129) = Y := hY.symm
  clear hY hYn hYX hXn hXY
  have H1 := Lib.hid (HKP.out _ B1.out)
  have H2 := Lib.hid (HKP.out _ B2.out)
  go_region_held3 (fun W' => W'.cell? ⟨w1.heap.size, 0, none⟩ = some (.int .u64 (g : Int)) ∧ W'.cell? ⟨w1.heap.size, 2, none⟩ = some (.int .i64 (l.length : Int)))
    (first | exact ⟨x0, x2⟩ | exact ⟨y0, y2⟩ | exact ⟨z0, z2⟩ | exact ⟨up1 z0, up1 z2⟩ | exact ⟨far2 z0 (by simp), far2 z2 (by simp)⟩ | exact ⟨far2 z0 (by simp; omega), far2 z2 (by simp; omega)⟩)
    (first | (go_at_call 55; (first
      | (with_reducible refine H1.out.mono ?_; rintro e w3 ⟨A3, c3, rfl, hpv, hfv, hb3⟩; obtain ⟨z0, z1, z2⟩ := row3 ((hb3.block w1.heap.size (by omega)).trans HXN.out))
      | (with_reducible refine H2.out.mono ?_; rintro e w3 ⟨A3, c3, rfl, hpv, hfv, hb3⟩; obtain ⟨z0, z1, z2⟩ := row3 ((hb3.block w1.heap.size (by omega)).trans HYX.out); have hzn := (hb3.block (w1.heap.size + 1) hYd).trans HYN.out; obtain ⟨t0, t1⟩ := cells_two hzn; obtain ⟨t2, t3⟩ := frz2 hzn))))
  all_goals clear H1 H2 hYZ
  all_goals first
    | (have PZ : Puts ((w3.setCell ⟨w1.heap.size + 1, 0, none⟩ (.int .u64 (g : Int))).setCell ⟨w1.heap.size + 1, 1, none⟩ (.slice A3 l.length c3)) (.slice A3 l.length c3) (castL l) := hpv.kept fun k hk => by
         have h5 := (hfv k hk).1
         have h6 : Y.drew.heap.size = Y.heap.size := rfl
         rw [Below.heap_setCell _ _ _ _ (show k ≠ w1.heap.size + 1 by omega), Below.heap_setCell _ _ _ _ (show k ≠ w1.heap.size + 1 by omega)]
       have FZ : ∀ k, (Value.slice A3 l.length c3).ownBlock = some k → V.heap.size ≤ k ∧ k < ((w3.setCell ⟨w1.heap.size + 1, 0, none⟩ (.int .u64 (g : Int))).setCell ⟨w1.heap.size + 1, 1, none⟩ (.slice A3 l.length c3)).heap.size := fun k hk => by
         have h5 := hfv k hk
         have h6 : Y.drew.heap.size = Y.heap.size := rfl
         simp only [World.size_setCell]
         omega
       have BZ := ((B2.out.trans (hb3.mono (by show V.heap.size ≤ Y.heap.size; omega))).setCell (p := ⟨w1.heap.size + 1, 0, none⟩) (show V.heap.size ≤ w1.heap.size + 1 by omega) (.int .u64 (g : Int))).setCell (p := ⟨w1.heap.size + 1, 1, none⟩) (show V.heap.size ≤ w1.heap.size + 1 by omega) (.slice A3 l.length c3)
       have ZN := set2 hzn (.int .u64 (g : Int)) (.slice A3 l.length c3)
       have hTB : V.heap.size ≤ w1.heap.size + 1 := by omega
       clear x0 x1 x2 y0 y1 y2 z0 z1 z2 hzn t0 t1 t2 t3 hb3 hpv hfv B1 B2 hYd
       generalize ((w3.setCell ⟨w1.heap.size + 1, 0, none⟩ (.int .u64 (g : Int))).setCell ⟨w1.heap.size + 1, 1, none⟩ (.slice A3 l.length c3)) = Z at *
       generalize w1.heap.size + 1 = tb at *)
    | (have PZ : Puts (w3.alloc (.cells #[.int .u64 (g : Int), .slice A3 l.length c3] 129)) (.slice A3 l.length c3) (castL l) := hpv.below ((Below.refl _ _).alloc (Nat.le_refl _) _)
       have FZ : ∀ k, (Value.slice A3 l.length c3).ownBlock = some k → V.heap.size ≤ k ∧ k < (w3.alloc (.cells #[.int .u64 (g : Int), .slice A3 l.length c3] 129)).heap.size := fun k hk => by
         have h5 := hfv k hk
         have h6 : X.drew.heap.size = X.heap.size := rfl
         simp
         omega
       have BY := B1.out.trans (hb3.mono (by show V.heap.size ≤ X.heap.size; omega))
       have BZ := BY.alloc BY.size (.cells #[.int .u64 (g : Int), .slice A3 l.length c3] 129)
       have ZN := heap_alloc_new w3 (.cells #[.int .u64 (g : Int), .slice A3 l.length c3] 129)
       have hTB : V.heap.size ≤ w3.heap.size := BY.size
       clear x0 x1 x2 y0 y1 y2 z0 z1 z2 hb3 hpv hfv B1 B2 BY
       generalize w3.alloc (.cells #[.int .u64 (g : Int), .slice A3 l.length c3] 129) = Z at *
       generalize w3.heap.size = tb at *)
  all_goals
    have hTZ : tb < Z.heap.size := (Array.getElem?_eq_some_iff.1 ZN).1
    obtain ⟨U, hU⟩ : ∃ U, U = Z.drew.alloc (.cells #[meth 85 W.heap.size, meth 86 W.heap.size] 160) := ⟨_, rfl⟩
    have hUb : Below Z.heap.size Z U := by rw [hU]; exact (Below.refl Z.heap.size Z).drew.alloc (Nat.le_refl _) _
    have hUs : U.heap.size = Z.heap.size + 1 := by rw [hU]; simp
    have hUn : U.heap[Z.heap.size]? = some (.cells #[meth 85 W.heap.size, meth 86 W.heap.size] 160 (0, 0)) := by rw [hU]; exact heap_alloc_new Z.drew _
    have hzs := BZ.size
    have BU : Below V.heap.size V U := BZ.trans (hUb.mono hzs)
    have BWU : Below W.heap.size W U := hVb.trans (BU.mono (by omega))
    obtain ⟨K3, hK3⟩ : ∃ K3 : Nat → Prop, K3 = fun k => K k ∨ k = W.heap.size ∨ k = tb ∨ (Value.slice A3 l.length c3).ownBlock = some k ∨ k = Z.heap.size := ⟨_, rfl⟩
    have hHU : Held K3 U U b M := HH.out.more BWU fun k hk => by
      rw [hK3] at hk
      rcases hk with hk | hk | hk | hk | hk
      · exact .inl hk
      · exact .inr (by omega)
      · exact .inr (by omega)
      · exact .inr (by have := FZ k hk; omega)
      · exact .inr (by omega)
    have k3K : ∀ k, K k → K3 k := fun k hk => by rw [hK3]; exact .inl hk
    have k3j : K3 W.heap.size := by rw [hK3]; exact .inr (.inl rfl)
    have k3t : K3 tb := by rw [hK3]; exact .inr (.inr (.inl rfl))
    have k3v : ∀ k, (Value.slice A3 l.length c3).ownBlock = some k → K3 k := fun k hk => by rw [hK3]; exact .inr (.inr (.inr (.inl hk)))
    have k3s : K3 Z.heap.size := by rw [hK3]; exact .inr (.inr (.inr (.inr rfl)))
    have hjU : JAt U W.heap.size b F n 0 := HJ.out.below BU
    have hjUn := (BU.block W.heap.size (by omega)).trans hVn
    have hTU := (hUb.block tb hTZ).trans ZN
    obtain ⟨hs1', hs2'⟩ := redo_ok W.heap.size b F n 0 g (.slice A3 l.length c3) l hjU k3j (PZ.below hUb) k3v hg
    have hrow : Row U (.slice (some ⟨Z.heap.size, 0, none⟩) 2 2) ([85, 86].map fun f => meth f W.heap.size) := by
      obtain ⟨q0, q1⟩ := cells_two hUn
      refine ⟨_, 2, rfl, fun j u hu => ⟨_, rfl, ?_⟩⟩
      match j, hu with
      | 0, hu => simp at hu; subst hu; exact q0
      | 1, hu => simp at hu; subst hu; exact q1
    have hrun := run_any W.heap.size F n 0 g (.slice A3 l.length c3) (.slice (some ⟨Z.heap.size, 0, none⟩) 2 2) [85, 86] (redoP F g l) hHU hjU k3j hrow (fun k hk => by cases hk; exact k3s) rfl (by simp [redoP])
      (fun i h1 h2 => by
        match i, h1, h2 with
        | 0, _, _ => exact hs1'
        | 1, _, _ => exact hs2')
      (by rw [hN]; exact HT.out.redoOk g) (by simp [redoP, markP]; omega) (fun m hm => by simp only [redoP, List.mem_cons, List.not_mem_nil, or_false] at hm; rcases hm with rfl | rfl; omega; simp [markP]) (by simp)
    have hred := redoing_any Z.drew W.heap.size
    rw [← hU] at hred
    have hkU : Keeps K W U := HH.out.keeps.below BWU
    obtain ⟨t0, t1⟩ := cells_two (show Z.drew.heap[tb]? = _ from ZN)
    obtain ⟨u0, u1⟩ := cells_two hTU
    have HRED := Lib.hid hred
    have HTU := Lib.hid hTU
    have HJU := Lib.hid hjUn
    clear hU hred hrow hs1' hs2' hHU hTU hjUn hUn ZN PZ
    cases hdd : (M.runD (redoP F g l)).down
  all_goals
    rw [hdd] at hrun
    first | rw [if_pos rfl] at hrun | rw [if_neg Bool.false_ne_true] at hrun
    have HRUN := Lib.hid hrun
    have HDD := Lib.hid hdd
    clear hrun hdd
    generalize hM2 : M.runD (redoP F g l) = M2 at *
    go_wp2_with fail
    go_region_held3 (fun W' => W'.cell? ⟨tb, 0, none⟩ = some (.int .u64 (g : Int)) ∧ W'.cell? ⟨tb, 1, none⟩ = some (.slice A3 l.length c3))
      (first | exact ⟨t0, t1⟩ | exact ⟨u0, u1⟩ | exact ⟨s0, s1⟩)
      (first
      | (go_at_call 57; (with_reducible refine HRED.out.mono ?_; rintro e w5 ⟨rfl, rfl⟩))
      | (go_at_call 56; (with_reducible refine HRUN.out.mono ?_; rintro e w6 ⟨rfl, hH⟩; obtain ⟨s0, s1⟩ := cells_two ((hH.keeps.same tb k3t).trans HTU.out))))
  all_goals
    have hj6 := (hH.keeps.same W.heap.size k3j).trans HJU.out
    have c3' : w6.cell? ⟨W.heap.size, 3, none⟩ = some (.int .i64 0) := (cells4 hj6).c3
    have f3' : w6.frozen? ⟨W.heap.size, 3, none⟩ = false := frozen_of_row _ _ 3 _ _ hj6
    have HH6 := Lib.hid hH
    have HJ6 := Lib.hid hj6
    clear hH hj6
    go_wp2_with fail
    go_ret2
    subst hM2
    first
      | exact .inl ⟨HDD.out, rfl, HH6.out.back hkU k3K⟩
      | (refine .inr ⟨HDD.out, W.heap.size, rfl, Nat.le_refl _, ?_, ?_, ?_⟩
         · exact jat_set HJ6.out
         · exact keeps_set (hkU.trans HH6.out.keeps k3K) ⟨W.heap.size, 3, none⟩ _ (fun hk => absurd (HH.out.keeps.lt W.heap.size hk) (Nat.lt_irrefl _))
         · exact held_set (K' := fun k => K k ∨ k = W.heap.size) HH6.out ⟨W.heap.size, 3, none⟩ _ k3j (fun k hk => by
             rcases hk with hk | hk
             · exact k3K k hk
             · rw [hk]; exact k3j))
end Go.Proofs.YtdddennhdbmolaaGreat
/- Layer 4 (journal): a commit. -/
namespace Go.Proofs.YtdddennhdbmolaaGreat
open Go.RowKit Go.Maps
set_option linter.unusedVariables false
set_option linter.unusedSimpArgs false
set_option maxRecDepth 10000
/-- The builtin at steps, closed. -/
def stepAppend (args : Array Value) : Sem Value := Builtin.append_ #[131, 131] 131 args
@[go_sem ↓] theorem step_append_fold (args : Array Value) : Builtin.append_ #[131, 131] 131 args = stepAppend args := rfl
theorem stepInfo : (Tryz.prog.info? 160).map (fun i => (i.zero, i.size, i.bytes)) = some (some .nilFunc, 1, 8) := by kernel_rfl
/-- Two steps, and two more. -/
theorem append_steps (W : World) (base g1 g2 : Nat) (a b c d : Value) (h1 : W.heap[g1]? = some (.cells #[a, b] 160 (0, 0))) (h2 : W.heap[g2]? = some (.cells #[c, d] 160 (0, 0))) (hb1 : base ≤ g1) (hb : base ≤ W.heap.size) (hc : c.oneCell' = true) (hd : d.oneCell' = true) :
    ∃ v' W', (stepAppend #[.slice (some ⟨g1, 0, none⟩) 2 2, .slice (some ⟨g2, 0, none⟩) 2 2]).run Tryz.prog W = .ok v' W' ∧ Row W' v' [a, b, c, d] ∧ Below base W W' ∧ (∀ k, v'.ownBlock = some k → base ≤ k ∧ k < W'.heap.size) := by
  obtain ⟨i, hi, hz, hsz, hby⟩ := info_parts stepInfo
  have hown : W.ownsRow base 160 1 (.slice (some ⟨g1, 0, none⟩) 2 2) 2 [a, b] := ⟨rfl, .inr ⟨g1, 2, #[a, b], rfl, hb1, h1, Nat.le_refl _, by unfold maxLen; omega, rfl, rfl⟩⟩
  obtain ⟨q0, q1⟩ := cells_two h2
  obtain ⟨v', W', hap, hown', hg, _, _⟩ := run_append_own_at (P := Tryz.prog) (w := W) base 131 131 160 i _ 1 8 Tryz.underlying131 hi hz hsz hby rfl (by decide) _ 2 [a, b] hown
    ⟨g2, 0, none⟩ 2 2 [c, d] rfl (fun j u hj => by
      rw [Addr.add_lit]
      match j, hj with
      | 0, hj => simp at hj; subst hj; exact q0
      | 1, hj => simp at hj; subst hj; exact q1) (fun u hu => by simp at hu; rcases hu with rfl | rfl; exact hc; exact hd) (by unfold maxLen; omega) (by omega) hb
  exact ⟨v', W', hap, row_of_own hown', (Below.refl base W).grown hg hb (fun k hk => (hown.lt k hk).1), fun k hk => hown'.lt k hk⟩
end Go.Proofs.YtdddennhdbmolaaGreat
/- Layer 4 (journal): a commit, taken. -/
namespace Go.Proofs.YtdddennhdbmolaaGreat
open Go.RowKit Go.Maps
set_option linter.unusedVariables false
set_option linter.unusedSimpArgs false
set_option maxRecDepth 10000
theorem why_zero {N F n : Nat} {l : PutL} (h : whyL N F n (castL l) = 0) : PutsOk N l ∧ (∀ p ∈ l, p.1 < F ∨ F + n ≤ p.1) ∧ l.length ≤ capL n := by
  unfold whyL at h
  split at h
  · cases h
  rename_i h1
  split at h
  · cases h
  rename_i h2
  split at h
  · cases h
  rename_i h3
  rw [castL_length] at h3
  simp only [Bool.not_eq_true, List.any_eq_false] at h1 h2
  refine ⟨fun p hp => ?_, fun p hp => ?_, by omega⟩
  · have := h1 ((p.1 : Int), p.2) (List.mem_map.2 ⟨p, hp, rfl⟩)
    simp [wrongB] at this
    exact ⟨by omega, this.2⟩
  · have := h2 ((p.1 : Int), p.2) (List.mem_map.2 ⟨p, hp, rfl⟩)
    simp [withinB] at this
    omega
theorem tr_last {N F n : Nat} {l : PutL} (h : whyL N F n (castL l) = 0) (h4 : 4 ≤ n) (hF : F + n ≤ N) (hN : N ≤ 4096) : Tr N F n (lastL l) := by
  obtain ⟨h1, h2, h3⟩ := why_zero h
  have hl := lastL_length l
  refine ⟨lastL_nodup l, fun p hp => h1 p (lastL_mem l p hp), fun p hp => h2 p (lastL_mem l p hp), ?_, hF, hN⟩
  unfold capL at h3
  omega
end Go.Proofs.YtdddennhdbmolaaGreat
/- What a call holds in memory, as a row of things that lie apart: each in blocks of its own; what was there ahead lies as it lay. -/
namespace Go.Proofs.YtdddennhdbmolaaGreat
open Go.RowKit Go.Maps
set_option linter.unusedVariables false
set_option linter.unusedSimpArgs false
set_option maxRecDepth 10000
/-- A thing in memory: it lies in the blocks of S. -/
structure Res where
  at_ : (Nat → Prop) → World → Prop
  lt : ∀ S W, at_ S W → ∀ k, S k → k < W.heap.size
  kept : ∀ S W W', at_ S W → W.heap.size ≤ W'.heap.size → (∀ k, S k → W'.heap[k]? = W.heap[k]?) → at_ S W'
structure SysOn (w W : World) (rs : List Res) (S : Nat → Nat → Prop) : Prop where
  keeps : Keeps (All w) w W
  at_ : ∀ (i : Nat) (r : Res), rs[i]? = some r → r.at_ (S i) W
  new : ∀ i, i < rs.length → ∀ k, S i k → w.heap.size ≤ k
  apart : ∀ i j, i < rs.length → j < rs.length → i ≠ j → ∀ k, S i k → ¬ S j k
/-- The things of rs lie apart, in blocks that are newer than w; what lay in w lies so still. -/
def Sys (w W : World) (rs : List Res) : Prop := ∃ S, SysOn w W rs S
theorem idx_lt {α : Type} {rs : List α} {i : Nat} {r : α} (h : rs[i]? = some r) : i < rs.length := (List.getElem?_eq_some_iff.1 h).1
section
variable {w W : World} {rs : List Res} {S : Nat → Nat → Prop}
theorem SysOn.lt (h : SysOn w W rs S) {i : Nat} (hi : i < rs.length) (k : Nat) (hk : S i k) : k < W.heap.size :=
  rs[i].lt _ _ (h.at_ i _ (List.getElem?_eq_getElem hi)) k hk
theorem SysOn.below (h : SysOn w W rs S) {W' : World} (hb : Below W.heap.size W W') : SysOn w W' rs S :=
  ⟨h.keeps.below hb, fun i r hi => r.kept _ _ _ (h.at_ i r hi) hb.size fun k hk => hb.block k (h.lt (idx_lt hi) k hk), h.new, h.apart⟩
theorem SysOn.set (h : SysOn w W rs S) {i : Nat} {r r' : Res} (hi : rs[i]? = some r) {W' : World} {S' : Nat → Prop} (ho : Only (S i) W W') (hr : r'.at_ S' W') (hs : ∀ k, S' k → S i k ∨ W.heap.size ≤ k) : SysOn w W' (rs.set i r') (upd S i S') := by
  have hil := idx_lt hi
  have hlen : (rs.set i r').length = rs.length := List.length_set
  refine ⟨h.keeps.only ho fun k hk hK => ?_, fun j q hj => ?_, fun j hj k hk => ?_, fun a c ha hc hne k hk hk2 => ?_⟩
  · have := h.new i hil k hk
    have : k < w.heap.size := hK
    omega
  · by_cases e : j = i
    · subst e
      rw [List.getElem?_set_self hil] at hj
      cases hj
      rw [upd_same]
      exact hr
    · rw [List.getElem?_set_ne (fun h => e h.symm)] at hj
      rw [upd_other _ _ e]
      exact q.kept _ _ _ (h.at_ j q hj) ho.size fun k hk => ho.block k (h.lt (idx_lt hj) k hk) (h.apart j i (idx_lt hj) hil e k hk)
  · rw [hlen] at hj
    by_cases e : j = i
    · subst e
      rw [upd_same] at hk
      rcases hs k hk with h1 | h1
      · exact h.new j hj k h1
      · exact Nat.le_trans h.keeps.size h1
    · rw [upd_other _ _ e] at hk
      exact h.new j hj k hk
  · rw [hlen] at ha hc
    by_cases e : a = i
    · subst e
      rw [upd_same] at hk
      rw [upd_other _ _ (fun h => hne h.symm)] at hk2
      rcases hs k hk with h1 | h1
      · exact h.apart a c ha hc hne k h1 hk2
      · have := h.lt hc k hk2; omega
    · rw [upd_other _ _ e] at hk
      by_cases e2 : c = i
      · subst e2
        rw [upd_same] at hk2
        rcases hs k hk2 with h1 | h1
        · exact h.apart a c ha hc hne k hk h1
        · have := h.lt ha k hk; omega
      · rw [upd_other _ _ e2] at hk2
        exact h.apart a c ha hc hne k hk hk2
theorem SysOn.push (h : SysOn w W rs S) {q : Res} {T : Nat → Prop} (hq : q.at_ T W) (hn : ∀ k, T k → w.heap.size ≤ k) (hd : ∀ i, i < rs.length → ∀ k, S i k → ¬ T k) : SysOn w W (rs ++ [q]) (upd S rs.length T) := by
  have hlen : (rs ++ [q]).length = rs.length + 1 := by simp
  refine ⟨h.keeps, fun j r hj => ?_, fun j hj k hk => ?_, fun a c ha hc hne k hk hk2 => ?_⟩
  · by_cases e : j = rs.length
    · subst e
      rw [List.getElem?_append_right (Nat.le_refl _), Nat.sub_self] at hj
      cases hj
      rw [upd_same]
      exact hq
    · have hjl := idx_lt hj
      rw [hlen] at hjl
      rw [List.getElem?_append_left (by omega)] at hj
      rw [upd_other _ _ e]
      exact h.at_ j r hj
  · rw [hlen] at hj
    by_cases e : j = rs.length
    · subst e
      rw [upd_same] at hk
      exact hn k hk
    · rw [upd_other _ _ e] at hk
      exact h.new j (by omega) k hk
  · rw [hlen] at ha hc
    by_cases e : a = rs.length
    · subst e
      rw [upd_same] at hk
      rw [upd_other _ _ (fun h => hne h.symm)] at hk2
      exact hd c (by omega) k hk2 hk
    · rw [upd_other _ _ e] at hk
      by_cases e2 : c = rs.length
      · subst e2
        rw [upd_same] at hk2
        exact hd a (by omega) k hk hk2
      · rw [upd_other _ _ e2] at hk2
        exact h.apart a c (by omega) (by omega) hne k hk hk2
theorem Sys.start (w : World) : Sys w w [] := ⟨fun _ _ => False, Keeps.start w, fun i r h => by simp at h, fun i h => by simp at h, fun i j h => by simp at h⟩
theorem Sys.keeps (h : Sys w W rs) : Keeps (All w) w W := by obtain ⟨S, h⟩ := h; exact h.keeps
theorem Sys.all (h : Sys w W rs) : Below w.heap.size w W := h.keeps.all
theorem Sys.below (h : Sys w W rs) {W' : World} (hb : Below W.heap.size W W') : Sys w W' rs := by
  obtain ⟨S, h⟩ := h
  exact ⟨S, h.below hb⟩
/-- One thing more, in blocks that are new. -/
theorem Sys.push (h : Sys w W rs) {W' : World} (hb : Below W.heap.size W W') {q : Res} {T : Nat → Prop} (hq : q.at_ T W') (hn : ∀ k, T k → W.heap.size ≤ k) : Sys w W' (rs ++ [q]) := by
  obtain ⟨S, h⟩ := h
  refine ⟨_, (h.below hb).push hq (fun k hk => Nat.le_trans h.keeps.size (hn k hk)) fun i hi k hk hT => ?_⟩
  have := h.lt hi k hk
  have := hn k hT
  omega
theorem Sys.take (h : Sys w W rs) (m : Nat) : Sys w W (rs.take m) := by
  obtain ⟨S, h⟩ := h
  have hlen : (rs.take m).length ≤ rs.length := by rw [List.length_take]; omega
  exact ⟨S, h.keeps, fun i r hi => h.at_ i r (by rw [List.getElem?_take] at hi; split at hi; exact hi; cases hi), fun i hi => h.new i (by omega), fun i j hi hj => h.apart i j (by omega) (by omega)⟩
/-- One thing turns. -/
theorem Sys.use (h : Sys w W rs) {i : Nat} {r : Res} (hi : rs[i]? = some r) : ∃ S, r.at_ S W ∧ (∀ k, S k → w.heap.size ≤ k) ∧ (∀ j q, j ≠ i → rs[j]? = some q → ∃ T, q.at_ T W ∧ ∀ k, T k → ¬ S k) ∧
    (∀ W' r' S', Only S W W' → r'.at_ S' W' → (∀ k, S' k → S k ∨ W.heap.size ≤ k) → Sys w W' (rs.set i r')) ∧
    ∀ W' r' S' q T, Only S W W' → r'.at_ S' W' → (∀ k, S' k → S k ∨ W.heap.size ≤ k) → q.at_ T W' → (∀ k, T k → W.heap.size ≤ k) → (∀ k, S' k → ¬ T k) → Sys w W' (rs.set i r' ++ [q]) := by
  obtain ⟨S, h⟩ := h
  have hil := idx_lt hi
  refine ⟨S i, h.at_ i r hi, h.new i hil, fun j q hj hq => ⟨S j, h.at_ j q hq, h.apart j i (idx_lt hq) hil hj⟩, fun W' r' S' ho hr hs => ⟨_, h.set hi ho hr hs⟩, fun W' r' S' q T ho hr hs hq hT hd => ?_⟩
  refine ⟨_, (h.set hi ho hr hs).push hq (fun k hk => Nat.le_trans h.keeps.size (hT k hk)) fun j hj k hk hTk => ?_⟩
  rw [List.length_set] at hj
  by_cases e : j = i
  · subst e
    rw [upd_same] at hk
    exact hd k hk hTk
  · rw [upd_other _ _ e] at hk
    have := h.lt hj k hk
    have := hT k hTk
    omega
end
/-! Things that are read only. -/
def memR (own : Nat → Prop) (p : World → Prop) (hp : ∀ W W', p W → (∀ k, own k → W'.heap[k]? = W.heap[k]?) → p W') : Res where
  at_ S W := (∀ k, S k ↔ own k) ∧ (∀ k, S k → k < W.heap.size) ∧ p W
  lt S W h := h.2.1
  kept S W W' h hs hb := ⟨h.1, fun k hk => Nat.lt_of_lt_of_le (h.2.1 k hk) hs, hp W W' h.2.2 fun k hk => hb k ((h.1 k).2 hk)⟩
section
variable {w W : World} {rs : List Res} {own : Nat → Prop} {p : World → Prop} {hp : ∀ W W', p W → (∀ k, own k → W'.heap[k]? = W.heap[k]?) → p W'}
theorem Sys.mem (h : Sys w W rs) {i : Nat} (hi : rs[i]? = some (memR own p hp)) : p W := by
  obtain ⟨S, h1, _⟩ := h.use hi
  exact h1.2.2
theorem Sys.addMem (h : Sys w W rs) {W' : World} (hb : Below W.heap.size W W') (hp' : p W') (hn : ∀ k, own k → W.heap.size ≤ k ∧ k < W'.heap.size) : Sys w W' (rs ++ [memR own p hp]) :=
  h.push hb (T := own) ⟨fun k => Iff.rfl, fun k hk => (hn k hk).2, hp'⟩ fun k hk => (hn k hk).1
end
/-- A device. -/
def devR (b : Nat) (M : Dv) : Res := ⟨fun S W => DevAt S W b M, fun S W h => h.lt, fun S W W' h => h.kept⟩
/-- A journal. -/
def jourR (jb b F n rec : Nat) : Res := memR (fun k => k = jb) (fun W => JAt W jb b F n rec) fun W W' h hb => h.kept (hb jb rfl)
/-- A device that is used, beside other things. -/
theorem Sys.dev {w W : World} {rs : List Res} (h : Sys w W rs) {i b : Nat} {M : Dv} (hi : rs[i]? = some (devR b M)) :
    ∃ K, Held K W W b M ∧ (∀ k, k < w.heap.size → K k) ∧ (∀ j own p hp, j ≠ i → rs[j]? = some (memR own p hp) → p W ∧ ∀ k, own k → K k) ∧ (∀ W' N, Held K W W' b N → Sys w W' (rs.set i (devR b N))) ∧
      ∀ W' N q jb, Keeps K W W' → Held (fun k => K k ∨ k = jb) W' W' b N → q.at_ (fun k => k = jb) W' → W.heap.size ≤ jb → Sys w W' (rs.set i (devR b N) ++ [q]) := by
  obtain ⟨S, h1, h2, h3, h4, h5⟩ := h.use hi
  have h1' : DevAt S W b M := h1
  have hon : ∀ W', Keeps (fun k => k < W.heap.size ∧ ¬ S k) W W' → Only S W W' := fun W' hk => ⟨hk.os, hk.tape, hk.output, hk.size, fun k hkl hS => hk.same k ⟨hkl, hS⟩⟩
  have hsub : ∀ S' : Nat → Prop, (∀ k, S' k → ¬ (k < W.heap.size ∧ ¬ S k)) → ∀ k, S' k → S k ∨ W.heap.size ≤ k := fun S' hh k hk => by
    by_cases e : S k
    · exact .inl e
    · exact .inr (Nat.le_of_not_lt fun hlt => hh k hk ⟨hlt, e⟩)
  refine ⟨fun k => k < W.heap.size ∧ ¬ S k, ⟨.refl fun k hk => hk.1, S, h1', fun k hk hK => hK.2 hk⟩, fun k hk => ⟨Nat.lt_of_lt_of_le hk h.keeps.size, fun hS => by have := h2 k hS; omega⟩, fun j own p hp hj hq => ?_, fun W' N hH => ?_, fun W' N q jb hk hH hq hjb => ?_⟩
  · obtain ⟨T, hT, hd⟩ := h3 j _ hj hq
    exact ⟨hT.2.2, fun k hk => ⟨hT.2.1 k ((hT.1 k).2 hk), hd k ((hT.1 k).2 hk)⟩⟩
  · obtain ⟨hk, S', hS', hn⟩ := hH
    exact h4 W' (devR b N) S' (hon W' hk) hS' (hsub S' hn)
  · obtain ⟨_, S', hS', hn⟩ := hH
    exact h5 W' (devR b N) S' q _ (hon W' hk) hS' (hsub S' fun k hkS hK => hn k hkS (.inl hK)) hq (fun k hk => by rw [hk]; exact hjb) fun k hkS hkj => hn k hkS (.inr hkj)
end Go.Proofs.YtdddennhdbmolaaGreat
/- Layer 8 (tx): what was written, as mathematics: pairs of a sector and its contents, by sectors rising. -/
namespace Go.Proofs.YtdddennhdbmolaaGreat
open Go.RowKit Go.Maps
set_option linter.unusedVariables false
set_option linter.unusedSimpArgs false
set_option maxRecDepth 10000
/-- By sectors rising. -/
def asc (L : PutL) : Prop := (L.map (·.1)).Pairwise (· < ·)
/-- What was written to a sector. -/
def look : PutL → Nat → Option (List UInt8)
  | [], _ => none
  | p :: r, i => if p.1 = i then some p.2 else look r i
/-- One write more. -/
def ins : PutL → Nat → List UInt8 → PutL
  | [], i, d => [(i, d)]
  | p :: r, i, d => if p.1 < i then p :: ins r i d else if p.1 = i then (i, d) :: r else (i, d) :: p :: r
/-- How many sectors below i were written. -/
def place : PutL → Nat → Nat
  | [], _ => 0
  | p :: r, i => if p.1 < i then place r i + 1 else 0
theorem asc_nil : asc [] := List.Pairwise.nil
theorem asc_cons {p : Nat × List UInt8} {r : PutL} : asc (p :: r) ↔ (∀ q ∈ r, p.1 < q.1) ∧ asc r := by
  unfold asc
  rw [List.map_cons, List.pairwise_cons]
  constructor
  · rintro ⟨h1, h2⟩
    exact ⟨fun q hq => h1 _ (List.mem_map_of_mem hq), h2⟩
  · rintro ⟨h1, h2⟩
    refine ⟨fun a ha => ?_, h2⟩
    obtain ⟨q, hq, rfl⟩ := List.mem_map.1 ha
    exact h1 q hq
theorem look_none {L : PutL} {i : Nat} (h : ∀ p ∈ L, p.1 ≠ i) : look L i = none := by
  induction L with
  | nil => rfl
  | cons p r ih =>
    unfold look
    rw [if_neg (h p (by simp)), ih fun q hq => h q (by simp [hq])]
theorem look_mem {L : PutL} {i : Nat} {d : List UInt8} (h : look L i = some d) : (i, d) ∈ L := by
  induction L with
  | nil => cases h
  | cons p r ih =>
    unfold look at h
    split at h
    · rename_i e
      cases h
      subst e
      simp
    · exact List.mem_cons_of_mem _ (ih h)
theorem look_of {L : PutL} (hL : asc L) {p : Nat × List UInt8} (h : p ∈ L) : look L p.1 = some p.2 := by
  induction L with
  | nil => cases h
  | cons q r ih =>
    obtain ⟨h1, h2⟩ := asc_cons.1 hL
    unfold look
    rcases List.mem_cons.1 h with rfl | h
    · rw [if_pos rfl]
    · have := h1 p h
      rw [if_neg (by omega), ih h2 h]
theorem ins_mem {L : PutL} {i : Nat} {d : List UInt8} {p : Nat × List UInt8} (h : p ∈ ins L i d) : p = (i, d) ∨ p ∈ L := by
  induction L with
  | nil => exact .inl (List.mem_singleton.1 h)
  | cons q r ih =>
    unfold ins at h
    split at h
    · rcases List.mem_cons.1 h with rfl | h
      · exact .inr (by simp)
      · rcases ih h with h | h
        · exact .inl h
        · exact .inr (List.mem_cons_of_mem _ h)
    · split at h
      · rcases List.mem_cons.1 h with rfl | h
        · exact .inl rfl
        · exact .inr (List.mem_cons_of_mem _ h)
      · rcases List.mem_cons.1 h with rfl | h
        · exact .inl rfl
        · exact .inr h
theorem asc_ins {L : PutL} (hL : asc L) (i : Nat) (d : List UInt8) : asc (ins L i d) := by
  induction L with
  | nil => exact asc_cons.2 ⟨fun q hq => by simp at hq, asc_nil⟩
  | cons p r ih =>
    obtain ⟨h1, h2⟩ := asc_cons.1 hL
    unfold ins
    split
    · rename_i h
      refine asc_cons.2 ⟨fun q hq => ?_, ih h2⟩
      rcases ins_mem hq with rfl | hq
      · exact h
      · exact h1 q hq
    · split
      · rename_i h h3
        subst h3
        exact asc_cons.2 ⟨h1, h2⟩
      · refine asc_cons.2 ⟨fun q hq => ?_, hL⟩
        show i < q.1
        rcases List.mem_cons.1 hq with rfl | hq
        · omega
        · have := h1 q hq; omega
theorem look_ins (L : PutL) (i : Nat) (d : List UInt8) : look (ins L i d) = upd (look L) i (some d) := by
  funext j
  induction L with
  | nil =>
    unfold upd ins look look
    by_cases e : j = i
    · subst e; simp
    · rw [if_neg e, if_neg (fun h => e h.symm)]
  | cons p r ih =>
    unfold upd at ih ⊢
    unfold ins
    split
    · rename_i h
      unfold look
      rw [ih]
      by_cases e : j = i
      · subst e; rw [if_neg (by omega), if_pos rfl]; simp
      · rw [if_neg e, if_neg e]
    · split
      · rename_i h h3
        subst h3
        unfold look
        by_cases e : j = p.1
        · subst e; simp
        · rw [if_neg e, if_neg (fun h => e h.symm), if_neg (fun h => e h.symm)]
      · rename_i h h3
        show (if i = j then some d else look (p :: r) j) = _
        by_cases e : j = i
        · subst e; simp
        · rw [if_neg e, if_neg (fun h => e h.symm)]
theorem ins_length {L : PutL} (hL : asc L) (i : Nat) (d : List UInt8) : (ins L i d).length = if (look L i).isSome then L.length else L.length + 1 := by
  induction L with
  | nil => rfl
  | cons p r ih =>
    obtain ⟨h1, h2⟩ := asc_cons.1 hL
    unfold ins
    split
    · rename_i h
      have e : look (p :: r) i = look r i := by show (if p.1 = i then _ else _) = _; rw [if_neg (by omega)]
      rw [List.length_cons, ih h2, e, List.length_cons]
      split <;> rfl
    · split
      · rename_i h h3
        have : look (p :: r) i = some p.2 := by unfold look; rw [if_pos h3]
        rw [this]
        rfl
      · rename_i h h3
        have : look (p :: r) i = none := look_none fun q hq => by
          rcases List.mem_cons.1 hq with rfl | hq
          · exact h3
          · have := h1 q hq; omega
        rw [this]
        rfl
theorem place_le (L : PutL) (i : Nat) : place L i ≤ L.length := by
  induction L with
  | nil => exact Nat.le_refl _
  | cons p r ih =>
    unfold place
    split
    · simpa using ih
    · simp
/-- Below its place all sectors are less. -/
theorem place_lt (L : PutL) (i j : Nat) (hj : j < L.length) (h : j < place L i) : (L[j]).1 < i := by
  induction L generalizing j with
  | nil => simp at hj
  | cons p r ih =>
    unfold place at h
    split at h
    · rename_i hp
      cases j with
      | zero => exact hp
      | succ j => exact ih j (by simpa using hj) (by omega)
    · omega
theorem place_ge (L : PutL) (i : Nat) (h : place L i < L.length) : i ≤ (L[place L i]).1 := by
  induction L with
  | nil => simp at h
  | cons p r ih =>
    by_cases hp : p.1 < i
    · have e : place (p :: r) i = place r i + 1 := by show (if p.1 < i then _ else _) = _; rw [if_pos hp]
      have h' : place r i < r.length := by rw [e] at h; simpa using h
      have := ih h'
      simp only [e, List.getElem_cons_succ]
      exact this
    · have e : place (p :: r) i = 0 := by show (if p.1 < i then _ else _) = _; rw [if_neg hp]
      simp only [e, List.getElem_cons_zero]
      omega
/-- Whether it was written, by its place. -/
theorem look_place {L : PutL} (hL : asc L) (i : Nat) : look L i = if h : place L i < L.length then (if (L[place L i]).1 = i then some (L[place L i]).2 else none) else none := by
  induction L with
  | nil => rfl
  | cons p r ih =>
    obtain ⟨h1, h2⟩ := asc_cons.1 hL
    have ih := ih h2
    by_cases hp : p.1 < i
    · have e : place (p :: r) i = place r i + 1 := by show (if p.1 < i then _ else _) = _; rw [if_pos hp]
      have e2 : look (p :: r) i = look r i := by show (if p.1 = i then _ else _) = _; rw [if_neg (by omega)]
      rw [e2, ih]
      by_cases hl : place r i < r.length
      · rw [dif_pos hl, dif_pos (by rw [e]; simpa using hl)]
        simp only [e, List.getElem_cons_succ]
      · rw [dif_neg hl, dif_neg (by rw [e]; simpa using hl)]
    · have e : place (p :: r) i = 0 := by show (if p.1 < i then _ else _) = _; rw [if_neg hp]
      rw [dif_pos (by rw [e]; simp)]
      simp only [e, List.getElem_cons_zero]
      by_cases h3 : p.1 = i
      · rw [if_pos h3]; show (if p.1 = i then _ else _) = _; rw [if_pos h3]
      · rw [if_neg h3]
        exact look_none fun q hq => by
          rcases List.mem_cons.1 hq with rfl | hq
          · exact h3
          · have := h1 q hq; omega
theorem place_some {L : PutL} (hL : asc L) {i : Nat} {d : List UInt8} (h : look L i = some d) : ∃ hk : place L i < L.length, L[place L i] = (i, d) := by
  rw [look_place hL] at h
  split at h
  · rename_i hk
    split at h
    · rename_i e
      cases h
      exact ⟨hk, Prod.ext e rfl⟩
    · cases h
  · cases h
theorem place_none {L : PutL} (hL : asc L) {i : Nat} (h : look L i = none) (hk : place L i < L.length) : i < (L[place L i]).1 := by
  rw [look_place hL, dif_pos hk] at h
  have := place_ge L i hk
  split at h
  · cases h
  · omega
theorem ins_new {L : PutL} (hL : asc L) {i : Nat} (d : List UInt8) (h : look L i = none) : ins L i d = L.take (place L i) ++ (i, d) :: L.drop (place L i) := by
  induction L with
  | nil => rfl
  | cons p r ih =>
    obtain ⟨h1, h2⟩ := asc_cons.1 hL
    have hne : p.1 ≠ i := fun e => by unfold look at h; rw [if_pos e] at h; cases h
    have hr : look r i = none := by unfold look at h; rwa [if_neg hne] at h
    unfold ins place
    by_cases hp : p.1 < i
    · rw [if_pos hp, if_pos hp, ih h2 hr]; rfl
    · rw [if_neg hp, if_neg hp, if_neg hne]; rfl
theorem ins_old {L : PutL} (hL : asc L) {i : Nat} (d : List UInt8) (h : (look L i).isSome = true) : ins L i d = L.take (place L i) ++ (i, d) :: L.drop (place L i + 1) := by
  induction L with
  | nil => cases h
  | cons p r ih =>
    obtain ⟨h1, h2⟩ := asc_cons.1 hL
    unfold ins place
    by_cases hp : p.1 < i
    · have hr : look (p :: r) i = look r i := by show (if p.1 = i then _ else _) = _; rw [if_neg (by omega)]
      rw [hr] at h
      rw [if_pos hp, if_pos hp, ih h2 h]; rfl
    · have he : p.1 = i := by
        by_cases e : p.1 = i
        · exact e
        · have : look (p :: r) i = none := look_none fun q hq => by
            rcases List.mem_cons.1 hq with rfl | hq
            · exact e
            · have := h1 q hq; omega
          rw [this] at h; cases h
      rw [if_neg hp, if_neg hp, if_pos he]; rfl
theorem asc_nodup {L : PutL} (hL : asc L) : (L.map (·.1)).Nodup := by
  have := hL
  unfold asc at this
  exact List.nodup_iff_pairwise_ne.2 (this.imp fun h => by omega)
/-- What sectors are behind what was written. -/
theorem laid_look {L : PutL} (hL : asc L) (f : Nat → List UInt8) (i : Nat) : laid f L i = (look L i).getD (f i) := by
  cases h : look L i with
  | some d => exact laid_mem f L (asc_nodup hL) (i, d) (look_mem h)
  | none =>
    refine laid_out f L i fun hm => ?_
    obtain ⟨p, hp, rfl⟩ := List.mem_map.1 hm
    rw [look_of hL hp] at h
    cases h
theorem laid_ins {L : PutL} (hL : asc L) (f : Nat → List UInt8) (i : Nat) (d : List UInt8) : laid f (ins L i d) = upd (laid f L) i d := by
  funext j
  rw [laid_look (asc_ins hL i d), look_ins]
  unfold upd
  by_cases e : j = i
  · rw [if_pos e, if_pos e]; rfl
  · rw [if_neg e, if_neg e, laid_look hL]
/-- Two rising rows of the same numbers. -/
theorem asc_eq : ∀ {a b : List Nat}, a.Pairwise (· < ·) → b.Pairwise (· < ·) → (∀ x, x ∈ a ↔ x ∈ b) → a = b
  | [], [], _, _, _ => rfl
  | [], y :: s, _, _, h => by have := (h y).2 (by simp); simp at this
  | x :: r, [], _, _, h => by have := (h x).1 (by simp); simp at this
  | x :: r, y :: s, ha, hb, h => by
    obtain ⟨h1, h2⟩ := List.pairwise_cons.1 ha
    obtain ⟨h3, h4⟩ := List.pairwise_cons.1 hb
    have hxy : x = y := by
      have hx := (h x).1 (by simp)
      have hy := (h y).2 (by simp)
      rcases List.mem_cons.1 hx with e | e
      · exact e
      · rcases List.mem_cons.1 hy with e2 | e2
        · exact e2.symm
        · have := h3 x e; have := h1 y e2; omega
    subst hxy
    refine congrArg _ (asc_eq h2 h4 fun z => ⟨fun hz => ?_, fun hz => ?_⟩)
    · have hlt := h1 z hz
      rcases List.mem_cons.1 ((h z).1 (List.mem_cons_of_mem _ hz)) with e | e
      · omega
      · exact e
    · have hlt := h3 z hz
      rcases List.mem_cons.1 ((h z).2 (List.mem_cons_of_mem _ hz)) with e | e
      · omega
      · exact e
/-- Which sectors were written, among those below n. -/
theorem keys_look {L : PutL} (hL : asc L) {n : Nat} (hn : ∀ p ∈ L, p.1 < n) (f : Nat → Option Value) (hf : ∀ i, (f i).isSome = (look L i).isSome) : keysOf n f = L.map (·.1) := by
  refine asc_eq ((List.pairwise_lt_range).filter _) hL fun x => ?_
  unfold keysOf
  rw [List.mem_filter, List.mem_range, hf, List.mem_map]
  constructor
  · rintro ⟨h1, h2⟩
    obtain ⟨d, hd⟩ := Option.isSome_iff_exists.1 h2
    exact ⟨_, look_mem hd, rfl⟩
  · rintro ⟨p, hp, rfl⟩
    exact ⟨hn p hp, by rw [look_of hL hp]; rfl⟩
theorem ok_ins {L : PutL} {n i : Nat} {d : List UInt8} (h : PutsOk n L) (hi : i < n) (hd : d.length = 64) : PutsOk n (ins L i d) := by
  intro p hp
  rcases ins_mem hp with rfl | hp
  · exact ⟨hi, hd⟩
  · exact h p hp
end Go.Proofs.YtdddennhdbmolaaGreat
/- Layer 8 (tx): a transaction in memory; what is refused. -/
namespace Go.Proofs.YtdddennhdbmolaaGreat
open Go.RowKit Go.Maps
set_option linter.unusedVariables false
set_option linter.unusedSimpArgs false
set_option maxRecDepth 10000
/-- A write, as the map has it. -/
def putX (i : Nat) (d : List UInt8) : Value := .agg #[.int .i64 (i : Int), str d]
def txE (L : PutL) (i : Nat) : Option Value := (look L i).map (putX i)
theorem txE_isSome (L : PutL) (i : Nat) : (txE L i).isSome = (look L i).isSome := by unfold txE; cases look L i <;> rfl
theorem txE_ins (L : PutL) (i : Nat) (d : List UInt8) : txE (ins L i d) = upd (txE L) i (some (putX i d)) := by
  funext j
  unfold txE
  rw [look_ins]
  unfold upd
  by_cases e : j = i
  · subst e; simp
  · rw [if_neg e, if_neg e]
/-- A transaction at tb, on the device at b and the journal at jb; its map is m, of n sectors; it has written L. -/
structure TxIn (W : World) (tb b jb m n : Nat) (L : PutL) : Prop where
  c0 : W.cell? ⟨tb, 0, none⟩ = some (devp b)
  c1 : W.cell? ⟨tb, 1, none⟩ = some (devp jb)
  c2 : W.cell? ⟨tb, 2, none⟩ = some (.map (some m))
  c3 : W.cell? ⟨tb, 3, none⟩ = some (.bool false)
  f2 : W.frozen? ⟨tb, 2, none⟩ = false
  f3 : W.frozen? ⟨tb, 3, none⟩ = false
  map : IMap Tryz.prog 3 W m n (txE L)
  asc : asc L
  ok : PutsOk n L
  small : n ≤ 4096
  ne : tb ≠ m
theorem TxIn.kept {W W' : World} {tb b jb m n : Nat} {L : PutL} (h : TxIn W tb b jb m n L) (h1 : W'.heap[tb]? = W.heap[tb]?) (h2 : W'.heap[m]? = W.heap[m]?) : TxIn W' tb b jb m n L :=
  { h with
    c0 := (cell_same 0 h1).trans h.c0
    c1 := (cell_same 1 h1).trans h.c1
    c2 := (cell_same 2 h1).trans h.c2
    c3 := (cell_same 3 h1).trans h.c3
    f2 := (World.frozen?_of_block (a := ⟨tb, 2, none⟩) h1).trans h.f2
    f3 := (World.frozen?_of_block (a := ⟨tb, 3, none⟩) h1).trans h.f3
    map := h.map.kept h2 }
theorem TxIn.lt {W : World} {tb b jb m n : Nat} {L : PutL} (h : TxIn W tb b jb m n L) : tb < W.heap.size ∧ m < W.heap.size := ⟨World.block_lt_of_cell? W _ h.c0, h.map.lt⟩
theorem TxIn.below {W W' : World} {tb b jb m n : Nat} {L : PutL} (h : TxIn W tb b jb m n L) (hb : Below W.heap.size W W') : TxIn W' tb b jb m n L :=
  h.kept (hb.block tb h.lt.1) (hb.block m h.lt.2)
theorem TxIn.len_le {W : World} {tb b jb m n : Nat} {L : PutL} (h : TxIn W tb b jb m n L) : L.length ≤ n := by
  have := nodup_bound n (L.map (·.1)) (asc_nodup h.asc) (fun x hx => by obtain ⟨p, hp, rfl⟩ := List.mem_map.1 hx; exact (h.ok p hp).1)
  simpa using this
def txR (tb b jb n : Nat) (L : PutL) : Res where
  at_ S W := ∃ m, TxIn W tb b jb m n L ∧ ∀ k, S k ↔ k = tb ∨ k = m
  lt S W h k hk := by
    obtain ⟨m, h1, h2⟩ := h
    rcases (h2 k).1 hk with rfl | rfl
    · exact h1.lt.1
    · exact h1.lt.2
  kept S W W' h hs hb := by
    obtain ⟨m, h1, h2⟩ := h
    exact ⟨m, h1.kept (hb tb ((h2 tb).2 (.inl rfl))) (hb m ((h2 m).2 (.inr rfl))), h2⟩
/-- One that is done. -/
def doneR (tb : Nat) : Res := memR (fun k => k = tb) (fun W => W.cell? ⟨tb, 3, none⟩ = some (.bool true)) fun W W' h hb => (cell_same 3 (hb tb rfl)).trans h
/-! What is refused. -/
theorem over_nil (W : World) : Calls Tryz.prog 92 #[.pointer none] W fun e w' => e = .returned (.int .i64 1) ∧ W = w' := by
  go_enter Tryz.func92, Tryz.ntmps92
  go_wp2
  go_ret
  exact ⟨rfl, rfl⟩
theorem over_any (tb : Nat) (d : Bool) (W : World) (h : W.cell? ⟨tb, 3, none⟩ = some (.bool d)) : Calls Tryz.prog 92 #[devp tb] W fun e w' => e = .returned (.int .i64 (if d then 80 else 0)) ∧ W = w' := by
  cases d
  all_goals
    go_enter Tryz.func92, Tryz.ntmps92
    go_wp2
    go_ret
    exact ⟨rfl, rfl⟩
theorem refusal_nil (i v : Value) (W : World) : Calls Tryz.prog 61 #[.pointer none, i, v] W fun e w' => e = .returned (.int .i64 1) ∧ W = w' := by
  go_enter Tryz.func61, Tryz.ntmps61
  go_wp2_with fail
  refine (over_nil W).mono ?_
  rintro e w1 ⟨rfl, rfl⟩
  go_wp2_with fail
  go_ret
  exact ⟨rfl, rfl⟩
theorem refusal_done (tb : Nat) (i v : Value) (W : World) (h : W.cell? ⟨tb, 3, none⟩ = some (.bool true)) : Calls Tryz.prog 61 #[devp tb, i, v] W fun e w' => e = .returned (.int .i64 80) ∧ W = w' := by
  go_enter Tryz.func61, Tryz.ntmps61
  go_wp2_with fail
  refine (over_any tb true W h).mono ?_
  rintro e w1 ⟨rfl, rfl⟩
  go_wp2_with fail
  go_ret
  exact ⟨rfl, rfl⟩
section
variable (tb b N : Nat) (W : World) (h3 : W.cell? ⟨tb, 3, none⟩ = some (.bool false)) (h0 : W.cell? ⟨tb, 0, none⟩ = some (devp b))
  (hlen : Calls Tryz.prog 52 #[devp b] W fun e w' => e = .returned (.int .i64 (N : Int)) ∧ W = w')
include h3 h0 hlen
theorem refusal_out (i : Int) (v : Value) (hi : i < 0 ∨ (N : Int) ≤ i) : Calls Tryz.prog 61 #[devp tb, .int .i64 i, v] W fun e w' => e = .returned (.int .i64 2) ∧ W = w' := by
  have HL := Lib.hid hlen
  clear hlen
  by_cases h : i < 0
  · have hd : decide (i < 0) = true := decide_eq_true h
    go_enter Tryz.func61, Tryz.ntmps61
    go_wp2_with fail
    refine (over_any tb false W h3).mono ?_
    rintro e w1 ⟨rfl, rfl⟩
    go_wp2_with fail
    go_ret
    exact ⟨rfl, rfl⟩
  · have hd : decide (i < 0) = false := decide_eq_false h
    have hd2 : decide ((N : Int) ≤ i) = true := decide_eq_true (by omega)
    clear hi
    go_enter Tryz.func61, Tryz.ntmps61
    go_wp2_with fail
    refine (over_any tb false W h3).mono ?_
    rintro e w1 ⟨rfl, rfl⟩
    go_wp2_with fail
    refine HL.out.mono ?_
    rintro e w1 ⟨rfl, rfl⟩
    go_wp2_with fail
    go_ret
    exact ⟨rfl, rfl⟩
theorem refusal_read (i : Nat) (hi : i < N) : Calls Tryz.prog 61 #[devp tb, .int .i64 (i : Int), .func (.func 68) #[] #[]] W fun e w' => e = .returned (.int .i64 0) ∧ W = w' := by
  have HL := Lib.hid hlen
  clear hlen
  have hd : decide ((i : Int) < 0) = false := decide_eq_false (by omega)
  have hd2 : decide ((N : Int) ≤ (i : Int)) = false := decide_eq_false (by omega)
  have hm : Calls Tryz.prog 68 #[] W fun e w' => e = .returned (.bool true) ∧ W = w' := by
    go_enter Tryz.func68, Tryz.ntmps68
    go_wp2
    go_ret
    exact ⟨rfl, rfl⟩
  have HM := Lib.hid hm
  clear hm
  go_enter Tryz.func61, Tryz.ntmps61
  go_wp2_with fail
  refine (over_any tb false W h3).mono ?_
  rintro e w1 ⟨rfl, rfl⟩
  go_wp2_with fail
  refine HL.out.mono ?_
  rintro e w1 ⟨rfl, rfl⟩
  go_wp2_with fail
  refine HM.out.mono ?_
  rintro e w1 ⟨rfl, rfl⟩
  go_wp2_with fail
  go_ret
  exact ⟨rfl, rfl⟩
theorem refusal_write (i p : Nat) (s : List UInt8) (r : Bool) (hi : i < N) (hp : W.cell? ⟨p, 0, none⟩ = some (str s)) (hr : ((s.length : Int) == 64) = r) :
    Calls Tryz.prog 61 #[devp tb, .int .i64 (i : Int), .func (.func 62) #[] #[.pointer (some ⟨p, 0, none⟩)]] W fun e w' => e = .returned (.int .i64 (if r then 0 else 2)) ∧ W = w' := by
  have HL := Lib.hid hlen
  clear hlen
  have hd : decide ((i : Int) < 0) = false := decide_eq_false (by omega)
  have hd2 : decide ((N : Int) ≤ (i : Int)) = false := decide_eq_false (by omega)
  have hm : Calls Tryz.prog 62 #[.pointer (some ⟨p, 0, none⟩)] W fun e w' => e = .returned (.bool r) ∧ W = w' := by
    go_enter Tryz.func62, Tryz.ntmps62
    go_wp2
    go_ret
    exact ⟨rfl, rfl⟩
  have HM := Lib.hid hm
  clear hm
  cases r
  all_goals
    go_enter Tryz.func61, Tryz.ntmps61
    go_wp2_with fail
    refine (over_any tb false W h3).mono ?_
    rintro e w1 ⟨rfl, rfl⟩
    go_wp2_with fail
    refine HL.out.mono ?_
    rintro e w1 ⟨rfl, rfl⟩
    go_wp2_with fail
    refine HM.out.mono ?_
    rintro e w1 ⟨rfl, rfl⟩
    go_wp2_with fail
    go_ret
    exact ⟨rfl, rfl⟩
end
/-! Begin, and the end. -/
theorem begin_nil (v : Value) (W : World) : Calls Tryz.prog 34 #[.pointer none, v] W fun e w' => e = .returned (.tuple #[.pointer none, .int .i64 1]) ∧ W = w' := by
  go_enter Tryz.func34, Tryz.ntmps34
  go_wp2_with fail
  go_ret2
  exact ⟨rfl, rfl⟩
theorem begin_any (b jb n : Nat) (hn : n ≤ 4096) (W : World) : Calls Tryz.prog 34 #[devp b, devp jb] W fun e w' => e = .returned (.tuple #[devp (W.heap.size + 1), .int .i64 0]) ∧ Below W.heap.size W w' ∧ TxIn w' (W.heap.size + 1) b jb W.heap.size n [] := by
  have hmm := @run_makeMap Tryz.prog
  go_enter Tryz.func34, Tryz.ntmps34
  go_wp2_with fail
  go_ret2
  have hnew := heap_alloc_new (W.alloc (.map #[] 0)) (.cells #[devp b, devp jb, .map (some W.heap.size), .bool false] 135)
  have hs1 : (W.alloc (.map #[] 0)).heap.size = W.heap.size + 1 := by simp
  rw [hs1] at hnew
  refine ⟨by simp [devp], ((Below.refl _ W).alloc (Nat.le_refl _) _).alloc (by simp) _, ?_⟩
  refine ⟨cell_of_row _ _ 0 _ _ _ hnew, cell_of_row _ _ 1 _ _ _ hnew, cell_of_row _ _ 2 _ _ _ hnew, cell_of_row _ _ 3 _ _ _ hnew, frozen_of_row _ _ 2 _ _ hnew, frozen_of_row _ _ 3 _ _ hnew, ?_, asc_nil, fun p hp => by simp at hp, hn, by omega⟩
  have h1 := (IMap.made W Tryz.prog 3 n).congr (g := txE []) fun i _ => rfl
  exact h1.kept (Below.heap_alloc _ _ _ (by simp))
end Go.Proofs.YtdddennhdbmolaaGreat
/- Layer 8 (tx): Read, Room, Write and Patch of a transaction that isn't done; all methods of one that is, and of none. -/
namespace Go.Proofs.YtdddennhdbmolaaGreat
open Go.RowKit Go.Maps Go.Sort
set_option linter.unusedVariables false
set_option linter.unusedSimpArgs false
set_option maxRecDepth 10000
theorem IMap.len {P : Program} {t k e : TypeId} {W : World} {m n : Nat} {f : Nat → Option Value} (h : IMap P k W m n f) (hk : P.underlying k = some (.int .i64)) (ht : P.underlying t = some (.map k e)) (ty : TypeId) :
    (Builtin.len_ #[t] ty #[.map (some m)]).run P W = .ok (.int .i64 ((keysOf n f).length : Int)) W := by
  obtain ⟨D, h1, h2, h3⟩ := h
  rw [h1.len ht ty]
  have hs := sorted_keys h1 hk h2 (List.Perm.refl (intKeys D))
  have hl := congrArg List.length hs
  rw [List.length_mergeSort, List.length_map] at hl
  obtain ⟨es, rfl, -⟩ := h1.tidy (int_keyed hk)
  have : (intKeys (DataW.map es)).length = es.length := by show (es.map _).length = _; rw [List.length_map]
  rw [← hl, this]
  rfl
theorem zeroPut (W : World) : (zeroValue 140).run Tryz.prog W = .ok (.agg #[.int .i64 0, str []]) W := by kernel_rfl
/-- A transaction, its device and its journal. -/
structure TxOn (W : World) (tb b jb m : Nat) (M : Dv) (L : PutL) (F n rec : Nat) : Prop where
  tx : TxIn W tb b jb m M.n L
  dev : ∃ S, DevAt S W b M
  j : JAt W jb b F n rec
  up : M.down = false
  wr : M.wr ≤ 1099511627776
  h4 : 4 ≤ n
  h256 : n ≤ 256
  cap : L.length ≤ capL n
section
variable {W : World} {tb b jb m F n rec : Nat} {M : Dv} {L : PutL}
theorem TxOn.below (h : TxOn W tb b jb m M L F n rec) {W' : World} (hb : Below W.heap.size W W') : TxOn W' tb b jb m M L F n rec := by
  obtain ⟨S, hS⟩ := h.dev
  exact { h with tx := h.tx.below hb, dev := ⟨S, hS.below hb⟩, j := h.j.below hb }
theorem TxOn.len (h : TxOn W tb b jb m M L F n rec) : Calls Tryz.prog 52 #[devp b] W fun e w' => e = .returned (.int .i64 (M.n : Int)) ∧ W = w' := by
  obtain ⟨S, g, c, m, vals, hI⟩ := h.dev
  exact len_any b g _ _ W hI.head.c2
theorem TxOn.look (h : TxOn W tb b jb m M L F n rec) (i : Nat) (hi : i < M.n) :
    (Instr.lookup 133 (.map (some m)) (.int .i64 (i : Int)) true).run Tryz.prog W = .ok (.tuple #[(txE L i).getD (.agg #[.int .i64 0, str []]), .bool (look L i).isSome]) W := by
  have := h.tx.map.look2 (t := 133) Tryz.underlying3 Tryz.underlying133 (zeroPut W) (by have := h.tx.small; omega) hi
  rwa [txE_isSome] at this
theorem TxOn.count (h : TxOn W tb b jb m M L F n rec) (ty : TypeId) : (Builtin.len_ #[133] ty #[.map (some m)]).run Tryz.prog W = .ok (.int .i64 (L.length : Int)) W := by
  have := h.tx.map.len (t := 133) Tryz.underlying3 Tryz.underlying133 ty
  rwa [keys_look h.tx.asc (fun p hp => (h.tx.ok p hp).1) _ (txE_isSome L), List.length_map] at this
set_option maxRecDepth 100000 in
theorem txRead_any (h : TxOn W tb b jb m M L F n rec) (i : Nat) (hi : i < M.n) :
    Calls Tryz.prog 47 #[devp tb, .int .i64 (i : Int)] W fun e w' => e = .returned (.tuple #[str ((look L i).getD (M.cur i)), .int .i64 0]) ∧ Below W.heap.size W w' := by
  have c0 := h.tx.c0
  have c2 := h.tx.c2
  have hlk := h.look i hi
  have HR := Lib.hid (refusal_read tb b M.n W h.tx.c3 c0 h.len i hi)
  obtain ⟨S, hS⟩ := h.dev
  have hrd := fun W' (hb : Below W.heap.size W W') => read_any (hS.below hb) h.up h.wr i hi
  have HD := Lib.hid hrd
  clear hrd
  have hB0 : ∀ v w' t, Below W.heap.size W w' → Below W.heap.size W (w'.alloc (.cells v t)) := fun v w' t hb => hb.alloc hb.size _
  have hlt := h.tx.lt.1
  cases hl : look L i with
  | none =>
    have hE : txE L i = none := by unfold txE; rw [hl]; rfl
    rw [hE, hl] at hlk
    simp only [Option.getD, Option.isSome] at hlk
    clear h hS hl hE
    go_enter Tryz.func47, Tryz.ntmps47
    go_wp2_with fail
    refine HR.out.mono ?_
    rintro e w1 ⟨rfl, rfl⟩
    go_wp2_with fail
    refine (HD.out _ ((Below.refl _ W).alloc (Nat.le_refl _) _)).mono ?_
    rintro e w2 ⟨rfl, hb⟩
    go_wp2_with fail
    go_ret2
    exact ⟨rfl, ((Below.refl _ W).alloc (Nat.le_refl _) _).trans (hb.mono (by simp))⟩
  | some d =>
    have hE : txE L i = some (putX i d) := by unfold txE; rw [hl]; rfl
    rw [hE, hl] at hlk
    simp only [Option.getD, Option.isSome, putX] at hlk
    clear h hS hl hE
    go_enter Tryz.func47, Tryz.ntmps47
    go_wp2_with fail
    refine HR.out.mono ?_
    rintro e w1 ⟨rfl, rfl⟩
    go_wp2_with fail
    go_ret2
    exact ⟨rfl, (Below.refl _ W).alloc (Nat.le_refl _) _⟩
theorem txRead_out (h : TxOn W tb b jb m M L F n rec) (i : Int) (hi : i < 0 ∨ (M.n : Int) ≤ i) :
    Calls Tryz.prog 47 #[devp tb, .int .i64 i] W fun e w' => e = .returned (.tuple #[str [], .int .i64 2]) ∧ W = w' := by
  have HR := Lib.hid (refusal_out tb b M.n W h.tx.c3 h.tx.c0 h.len i (.func (.func 68) #[] #[]) hi)
  clear h hi
  go_enter Tryz.func47, Tryz.ntmps47
  go_wp2_with fail
  refine HR.out.mono ?_
  rintro e w1 ⟨rfl, rfl⟩
  go_wp2_with fail
  go_ret2
  exact ⟨rfl, rfl⟩
theorem txRoom_quiet (h : TxOn W tb b jb m M L F n rec) : Calls Tryz.prog 63 #[devp tb] W fun e w' => e = .returned (.int .i64 ((capL n : Int) - (L.length : Int))) ∧ ∃ k, w' = W.drewN k := by
  have c1 := h.tx.c1
  have c2 := h.tx.c2
  have c3 := h.tx.c3
  have hct := fun k ty => (h.below (below_drewN (Below.refl _ _) k)).count ty
  have hcap := h.cap
  have hcb : capL n ≤ 256 := by have := h.h256; unfold capL; omega
  have hm : ∀ k, Calls Tryz.prog 79 #[devp jb] (W.drewN k) fun e w' => e = .returned (.int .i64 (capL n : Int)) ∧ w' = W.drewN k := fun k => (max_any jb b F n rec (W.drewN k) (h.j.below (below_drewN (Below.refl _ _) k)) h.h4 h.h256).mono fun e w' hx => ⟨hx.1, hx.2.symm⟩
  have hmax := Lib.hid hm
  clear hm
  have hO := Lib.hid (over_any tb false W c3)
  clear h
  go_enter Tryz.func63, Tryz.ntmps63
  go_wp2_with fail
  refine hO.out.mono ?_
  rintro e w1 ⟨rfl, rfl⟩
  go_wp2_with fail
  go_quiet (refine Calls.quiet_of_same (hmax.out _))
  go_wp2_with fail
  go_ret
  exact ⟨rfl, _, rfl⟩
theorem txRoom_any (h : TxOn W tb b jb m M L F n rec) : Calls Tryz.prog 63 #[devp tb] W fun e w' => e = .returned (.int .i64 ((capL n - L.length : Nat) : Int)) ∧ Below W.heap.size W w' := by
  refine (txRoom_quiet h).mono ?_
  rintro e w' ⟨rfl, k, rfl⟩
  have := h.cap
  exact ⟨by rw [show ((capL n - L.length : Nat) : Int) = (capL n : Int) - (L.length : Int) by omega], below_drewN (Below.refl _ _) k⟩
theorem txWrite_bad (h : TxOn W tb b jb m M L F n rec) (i : Int) (s : List UInt8) (hs : s.length ≤ 140737488351232) (hbad : i < 0 ∨ (M.n : Int) ≤ i ∨ s.length ≠ 64) :
    Calls Tryz.prog 41 #[devp tb, .int .i64 i, str s] W fun e w' => e = .returned (.int .i64 2) ∧ Below W.heap.size W w' := by
  have hB := (Below.refl W.heap.size W).alloc (Nat.le_refl _) (.cells #[str s] 9)
  have hr : Calls Tryz.prog 61 #[devp tb, .int .i64 i, .func (.func 62) #[] #[.pointer (some ⟨W.heap.size, 0, none⟩)]] (W.alloc (.cells #[str s] 9)) fun e w' => e = .returned (.int .i64 2) ∧ (W.alloc (.cells #[str s] 9)) = w' := by
    have h' := h.below hB
    by_cases hi : i < 0 ∨ (M.n : Int) ≤ i
    · exact refusal_out tb b M.n _ h'.tx.c3 h'.tx.c0 h'.len i _ hi
    · obtain ⟨k, rfl⟩ : ∃ k : Nat, i = (k : Int) := ⟨i.toNat, by omega⟩
      exact refusal_write tb b M.n _ h'.tx.c3 h'.tx.c0 h'.len k W.heap.size s false (by omega) (cell_new_l W _ _) (by simp; omega)
  have HR := Lib.hid hr
  have HB := Lib.hid hB
  clear hr hB h hbad
  go_enter Tryz.func41, Tryz.ntmps41
  go_wp2_with fail
  refine HR.out.mono ?_
  rintro e w1 ⟨rfl, rfl⟩
  go_wp2_with fail
  go_ret
  exact ⟨rfl, HB.out⟩
theorem txWrite_full (h : TxOn W tb b jb m M L F n rec) (i : Nat) (hi : i < M.n) (s : List UInt8) (hs : s.length = 64) (hl : look L i = none) (hfull : L.length = capL n) :
    Calls Tryz.prog 41 #[devp tb, .int .i64 (i : Int), str s] W fun e w' => e = .returned (.int .i64 4) ∧ Below W.heap.size W w' := by
  have hB := (Below.refl W.heap.size W).alloc (Nat.le_refl _) (.cells #[str s] 9)
  have h' := h.below hB
  have HR := Lib.hid (refusal_write tb b M.n _ h'.tx.c3 h'.tx.c0 h'.len i W.heap.size s true hi (cell_new_l W _ _) (by simp [hs]))
  have c2 := h'.tx.c2
  have hlk := h'.look i hi
  have hE : txE L i = none := by unfold txE; rw [hl]; rfl
  rw [hE, hl] at hlk
  simp only [Option.getD, Option.isSome] at hlk
  have hroom := fun V (hb : Below W.heap.size W V) => txRoom_any (h.below hb)
  rw [hfull, Nat.sub_self] at hroom
  have HM := Lib.hid hroom
  have HB := Lib.hid hB
  clear h h' hE hl hroom hfull hs
  go_enter Tryz.func41, Tryz.ntmps41
  go_wp2_with fail
  refine HR.out.mono ?_
  rintro e w1 ⟨rfl, rfl⟩
  go_wp2_with fail
  refine (HM.out _ (HB.out.alloc (by simp) _)).mono ?_
  rintro e w2 ⟨rfl, hb⟩
  go_wp2_with fail
  go_ret
  exact ⟨rfl, (HB.out.alloc (by simp) _).trans (hb.mono (by simp; omega))⟩
set_option maxHeartbeats 1000000 in
theorem txWrite_ok (h : TxOn W tb b jb m M L F n rec) (i : Nat) (hi : i < M.n) (s : List UInt8) (hs : s.length = 64) (hl : (look L i).isSome = true ∨ L.length < capL n) :
    Calls Tryz.prog 41 #[devp tb, .int .i64 (i : Int), str s] W fun e w' => e = .returned (.int .i64 0) ∧ TxIn w' tb b jb m M.n (ins L i s) ∧ Only (fun k => k = m) W w' := by
  have hB := (Below.refl W.heap.size W).alloc (Nat.le_refl _) (.cells #[str s] 9)
  have h' := h.below hB
  have HR := Lib.hid (refusal_write tb b M.n _ h'.tx.c3 h'.tx.c0 h'.len i W.heap.size s true hi (cell_new_l W _ _) (by simp [hs]))
  have c2 := h'.tx.c2
  have hlk := h'.look i hi
  have hbx := cell_new_l W (str s) 9
  have hup := fun V (hb : Below W.heap.size W V) => (h.below hb).tx.map.store (t := 133) Tryz.underlying3 Tryz.underlying133 (by have := h.tx.small; omega) hi (putX i s)
  have hfin : ∀ V, Below W.heap.size W V → ∀ W2, IMap Tryz.prog 3 W2 m M.n (upd (txE L) i (some (putX i s))) → V.grownBy W2 (some m) → TxIn W2 tb b jb m M.n (ins L i s) ∧ Only (fun k => k = m) W W2 := fun V hb W2 hm hg => by
    have hV := (h.below hb).tx
    have hk : W2.heap[tb]? = V.heap[tb]? := hg.block tb hV.lt.1 (by intro e; cases e; exact hV.ne rfl)
    refine ⟨?_, (Only.of_below hb).trans (Only.of_grown (S := fun k => k = m) hg fun k e => by cases e; rfl) fun j hj => .inl hj⟩
    exact ⟨(cell_same 0 hk).trans hV.c0, (cell_same 1 hk).trans hV.c1, (cell_same 2 hk).trans hV.c2, (cell_same 3 hk).trans hV.c3, (World.frozen?_of_block (a := ⟨tb, 2, none⟩) hk).trans hV.f2, (World.frozen?_of_block (a := ⟨tb, 3, none⟩) hk).trans hV.f3,
      by rw [txE_ins]; exact hm, asc_ins hV.asc i s, ok_ins hV.ok hi hs, hV.small, hV.ne⟩
  have HF := Lib.hid hfin
  have HU := Lib.hid hup
  have HB := Lib.hid hB
  have hc := fun V (hb : Below W.heap.size W V) => (h.below hb).tx.c2
  have HC := Lib.hid hc
  have hc3 := fun V (hb : Below W.heap.size W V) => hb.cell (p := ⟨W.heap.size, 0, none⟩)
  have hlt := h.tx.lt.1
  clear hfin hup hc hc3
  by_cases hsome : (look L i).isSome = true
  · obtain ⟨d, hd⟩ := Option.isSome_iff_exists.1 hsome
    have hE : txE L i = some (putX i d) := by unfold txE; rw [hd]; rfl
    rw [hE, hd] at hlk
    simp only [Option.getD, Option.isSome, putX] at hlk
    obtain ⟨V, hVe⟩ : ∃ V, V = (W.alloc (.cells #[str s] 9)).alloc (.cells #[.int .i64 (i : Int), str d] 140) := ⟨_, rfl⟩
    have hBV : Below W.heap.size W V := by rw [hVe]; exact HB.out.alloc (by simp) _
    have hVc2 := HC.out V hBV
    have hVb : V.cell? ⟨W.heap.size, 0, none⟩ = some (str s) := by rw [hVe, World.cell?_alloc_lt _ _ _ (by simp)]; exact hbx
    obtain ⟨W2, hrun, hm2, hg2⟩ := HU.out V.drew (below_drewN hBV 1)
    obtain ⟨r1, r2⟩ := HF.out V.drew (below_drewN hBV 1) W2 hm2 hg2
    have R1 := Lib.hid r1
    have R2 := Lib.hid r2
    unfold putX at hrun
    clear h h' hE hd r1 r2 hsome hl hm2 hg2 hBV
    go_enter Tryz.func41, Tryz.ntmps41
    go_wp2_with fail
    refine HR.out.mono ?_
    rintro e w1 ⟨rfl, rfl⟩
    go_wp2_with fail
    rw [← hVe]
    clear hVe
    go_region
    all_goals
      go_wp2_with fail
      go_ret
      exact ⟨rfl, R1.out, R2.out⟩
  · have hnone : look L i = none := by cases h : look L i; rfl; rw [h] at hsome; exact absurd rfl hsome
    have hE : txE L i = none := by unfold txE; rw [hnone]; rfl
    rw [hE, hnone] at hlk
    simp only [Option.getD, Option.isSome] at hlk
    have hroom := fun V (hb : Below W.heap.size W V) => txRoom_any (h.below hb)
    have HM := Lib.hid hroom
    have hpos : ¬ ((capL n - L.length : Nat) : Int) = 0 := by rcases hl with e | e; exact absurd e hsome; omega
    have hne : (((capL n - L.length : Nat) : Int) == 0) = false := by simpa using hpos
    clear h h' hE hnone hroom hsome hl hpos
    generalize ((capL n - L.length : Nat) : Int) = room at *
    go_enter Tryz.func41, Tryz.ntmps41
    go_wp2_with fail
    refine HR.out.mono ?_
    rintro e w1 ⟨rfl, rfl⟩
    go_wp2_with fail
    refine (HM.out _ (HB.out.alloc (by simp) _)).mono ?_
    rintro e V ⟨rfl, hb⟩
    have hBV : Below W.heap.size W V := (HB.out.alloc (by simp) _).trans (hb.mono (by simp; omega))
    have hVc2 := HC.out V hBV
    have hVb : V.cell? ⟨W.heap.size, 0, none⟩ = some (str s) := by
      rw [hb.cell (p := ⟨W.heap.size, 0, none⟩) (by simp; omega), World.cell?_alloc_lt _ _ _ (by simp)]; exact hbx
    obtain ⟨W2, hrun, hm2, hg2⟩ := HU.out V.drew (below_drewN hBV 1)
    obtain ⟨r1, r2⟩ := HF.out V.drew (below_drewN hBV 1) W2 hm2 hg2
    have R1 := Lib.hid r1
    have R2 := Lib.hid r2
    unfold putX at hrun
    clear r1 r2 hm2 hg2 hBV hb
    go_wp2_with fail
    go_region
    all_goals
      go_wp2_with fail
      go_ret
      exact ⟨rfl, R1.out, R2.out⟩
end
end Go.Proofs.YtdddennhdbmolaaGreat
/- Layer 8 (tx): the iterator over what was written; Touched; Collect. -/
namespace Go.Proofs.YtdddennhdbmolaaGreat
open Go.RowKit Go.Maps Go.Sort Go.Shelf
set_option linter.unusedVariables false
set_option linter.unusedSimpArgs false
set_option maxRecDepth 10000
attribute [local go_sem] Oper.semAt_some
/-- What a loop over what was written keeps: the transaction; of what was there only the box B has turned; the row so far, of cells cs. -/
def TouchI (w : World) (tb b jb m n : Nat) (L : PutL) (B p : Nat) (t : TypeId) (sz len : Nat) (cs : List Value) (V : World) : Prop :=
  TxIn V tb b jb m n L ∧ Only (fun k => k = B) w V ∧ ∃ v, V.cell? ⟨B, 0, none⟩ = some v ∧ V.frozen? ⟨B, 0, none⟩ = false ∧ V.ownsRow (w.heap.size + 2) t sz v len cs ∧ ∀ k, v.ownBlock = some k → k ≠ p
section
variable {w : World} {tb b jb m n : Nat} {L : PutL} {B p : Nat} {t : TypeId} {sz len : Nat} {cs : List Value} {V : World}
theorem TouchI.below {W' : World} (h : TouchI w tb b jb m n L B p t sz len cs V) (hB : B < w.heap.size) (hb : Below V.heap.size V W') : TouchI w tb b jb m n L B p t sz len cs W' := by
  obtain ⟨h1, h2, v, h3, h4, h5, h6⟩ := h
  have hBv : B < V.heap.size := Nat.lt_of_lt_of_le hB h2.size
  exact ⟨h1.below hb, h2.trans (Only.of_below (S := fun k => k = B) hb) (fun _ e => .inl e), v, (cell_same 0 (hb.block B hBv)).trans h3, (World.frozen?_of_block (a := ⟨B, 0, none⟩) (hb.block B hBv)).trans h4,
    h5.kept (grown_of_below' hb none) (by cases hv : Value.ownBlock _ <;> simp), h6⟩
theorem TouchI.put (h : TouchI w tb b jb m n L B p t sz len cs V) (hB : B < w.heap.size) (ht : tb < w.heap.size) (hm : m < w.heap.size) (l : Nat) (o : Obj) (hl : w.heap.size ≤ l) (hl2 : l ≤ w.heap.size + 1) : TouchI w tb b jb m n L B p t sz len cs (V.putObj l o) := by
  obtain ⟨h1, h2, v, h3, h4, h5, h6⟩ := h
  have hk : ∀ k, k ≠ l → (V.putObj l o).heap[k]? = V.heap[k]? := fun k hk => World.putObj_heap_other hk
  refine ⟨h1.kept (hk _ (by omega)) (hk _ (by omega)), ⟨h2.os, h2.tape, h2.output, by simpa using h2.size, fun k hkl hS => (hk k (by omega)).trans (h2.block k hkl hS)⟩, v, (cell_same 0 (hk B (by omega))).trans h3, (World.frozen?_of_block (a := ⟨B, 0, none⟩) (hk B (by omega))).trans h4, ?_, h6⟩
  refine h5.kept (row := some l) ⟨rfl, rfl, rfl, by simp, fun k _ hne => hk k (by intro e; subst e; exact hne rfl)⟩ (.inr fun e => ?_)
  have := (h5.lt l e).1
  omega
end
end Go.Proofs.YtdddennhdbmolaaGreat
/- Layer 8 (tx): Touched. -/
namespace Go.Proofs.YtdddennhdbmolaaGreat
open Go.RowKit Go.Maps Go.Sort Go.Shelf
set_option linter.unusedVariables false
set_option linter.unusedSimpArgs false
set_option maxRecDepth 10000
attribute [local go_sem] Oper.semAt_some
/-- The j-th write. -/
def nth (L : PutL) (j : Nat) : Nat × List UInt8 := L.getD j (0, [])
theorem nth_get {L : PutL} {j : Nat} (h : j < L.length) : nth L j = L[j] := by unfold nth; rw [List.getD_eq_getElem?_getD, List.getElem?_eq_getElem h]; rfl
theorem TxIn.at {W : World} {tb b jb m n : Nat} {L : PutL} (h : TxIn W tb b jb m n L) {j : Nat} (hj : j < L.length) :
    (Instr.lookup 133 (.map (some m)) (.int .i64 (((L.map (·.1))[j]'(by rw [List.length_map]; exact hj) : Nat) : Int)) false).run Tryz.prog W = .ok (putX (nth L j).1 (nth L j).2) W := by
  rw [nth_get hj, List.getElem_map]
  have hm := List.getElem_mem hj
  have := h.map.look (t := 133) Tryz.underlying3 Tryz.underlying133 (zeroPut W) (by have := h.small; omega) (h.ok _ hm).1
  rw [show txE L L[j].1 = some (putX L[j].1 L[j].2) by unfold txE; rw [look_of h.asc hm]; rfl] at this
  exact this
theorem TxIn.keys {W : World} {tb b jb m n : Nat} {L : PutL} (h : TxIn W tb b jb m n L) : keysOf n (txE L) = L.map (·.1) := keys_look h.asc (fun p hp => (h.ok p hp).1) _ (txE_isSome L)
end Go.Proofs.YtdddennhdbmolaaGreat
/- Layer 8 (tx): what was written, collected; Commit, Abort. -/
namespace Go.Proofs.YtdddennhdbmolaaGreat
open Go.RowKit Go.Maps Go.Sort Go.Shelf
set_option linter.unusedVariables false
set_option linter.unusedSimpArgs false
set_option maxRecDepth 10000
attribute [local go_sem] Oper.semAt_some
theorem castL_nth {L : PutL} {j : Nat} (hj : j < L.length) : castL (L.take (j + 1)) = castL (L.take j) ++ [(((nth L j).1 : Int), (nth L j).2)] := by
  rw [nth_get hj, List.take_succ_eq_append_getElem hj, castL_snoc]
/-- A transaction's end: it is done; nothing else that was there has turned. -/
structure Ended (w : World) (tb : Nat) (V : World) : Prop where
  only : Only (fun k => k = tb) w V
  done : V.cell? ⟨tb, 3, none⟩ = some (.bool true)
section
variable {W : World} {tb b jb m n : Nat} {L : PutL}
theorem ended_set {w V : World} (h : TxIn V tb b jb m n L) (hb : Below w.heap.size w V) : Ended w tb ((V.setCell ⟨tb, 2, none⟩ (.map none)).setCell ⟨tb, 3, none⟩ (.bool true)) := by
  have h3 : (V.setCell ⟨tb, 2, none⟩ (.map none)).cell? ⟨tb, 3, none⟩ = some (.bool false) := (set_there V tb _ (by decide)).trans h.c3
  refine ⟨(Only.of_below hb).trans ((Only.setCell (fun k => k = tb) V ⟨tb, 2, none⟩ _ rfl).trans (Only.setCell (fun k => k = tb) _ ⟨tb, 3, none⟩ _ rfl) fun j hj => .inl hj) fun j hj => .inl hj, set_here _ h3⟩
theorem log_set {V : World} (h : TxIn V tb b jb m n L) : ((V.setCell ⟨tb, 2, none⟩ (.map none)).setCell ⟨tb, 3, none⟩ (.bool true)).cell? ⟨tb, 1, none⟩ = some (devp jb) := by
  rw [set_there _ tb _ (by decide), set_there _ tb _ (by decide)]
  exact h.c1
end
end Go.Proofs.YtdddennhdbmolaaGreat
/- Layer 8 (tx): Patch; all methods of a transaction that is done, and of none. -/
namespace Go.Proofs.YtdddennhdbmolaaGreat
open Go.RowKit Go.Maps Go.Sort
set_option linter.unusedVariables false
set_option linter.unusedSimpArgs false
set_option maxRecDepth 10000
section
variable {W : World} {tb b jb m F n rec : Nat} {M : Dv} {L : PutL}
/-- The bytes s, laid over l from f on. -/
def over (l : List UInt8) (f : Nat) (s : List UInt8) : List UInt8 := l.take f ++ s ++ l.drop (f + s.length)
theorem over_length {l : List UInt8} (hl : l.length = 64) {f : Nat} {s : List UInt8} (h : f + s.length ≤ 64) : (over l f s).length = 64 := by
  unfold over
  rw [List.length_append, List.length_append, List.length_take, List.length_drop]
  omega
end
/-! What a transaction that is done answers. -/
section
variable (tb : Nat) (W : World) (h : W.cell? ⟨tb, 3, none⟩ = some (.bool true))
include h
theorem doneRead (i : Int) : Calls Tryz.prog 47 #[devp tb, .int .i64 i] W fun e w' => e = .returned (.tuple #[str [], .int .i64 80]) ∧ Below W.heap.size W w' := by
  go_enter Tryz.func47, Tryz.ntmps47
  go_wp2_with fail
  refine (refusal_done tb _ _ W h).mono ?_
  rintro e w1 ⟨rfl, rfl⟩
  go_wp2_with fail
  go_ret2
  exact ⟨rfl, Below.refl _ _⟩
theorem doneWrite (i : Int) (s : List UInt8) : Calls Tryz.prog 41 #[devp tb, .int .i64 i, str s] W fun e w' => e = .returned (.int .i64 80) ∧ Below W.heap.size W w' := by
  have hu := up1 (o := .cells #[str s] 9) h
  go_enter Tryz.func41, Tryz.ntmps41
  go_wp2_with fail
  refine (refusal_done tb _ _ _ hu).mono ?_
  rintro e w1 ⟨rfl, rfl⟩
  go_wp2_with fail
  go_ret
  exact ⟨rfl, (Below.refl _ W).alloc (Nat.le_refl _) _⟩
theorem doneRoom : Calls Tryz.prog 63 #[devp tb] W fun e w' => e = .returned (.int .i64 0) ∧ Below W.heap.size W w' := by
  go_enter Tryz.func63, Tryz.ntmps63
  go_wp2_with fail
  refine (over_any tb true W h).mono ?_
  rintro e w1 ⟨rfl, rfl⟩
  go_wp2_with fail
  go_ret
  exact ⟨rfl, Below.refl _ _⟩
end
/-! What none answers. -/
section
variable (W : World)
theorem nilRead (i : Int) : Calls Tryz.prog 47 #[.pointer none, .int .i64 i] W fun e w' => e = .returned (.tuple #[str [], .int .i64 1]) ∧ Below W.heap.size W w' := by
  go_enter Tryz.func47, Tryz.ntmps47
  go_wp2_with fail
  refine (refusal_nil _ _ W).mono ?_
  rintro e w1 ⟨rfl, rfl⟩
  go_wp2_with fail
  go_ret2
  exact ⟨rfl, Below.refl _ _⟩
theorem nilWrite (i : Int) (s : List UInt8) : Calls Tryz.prog 41 #[.pointer none, .int .i64 i, str s] W fun e w' => e = .returned (.int .i64 1) ∧ Below W.heap.size W w' := by
  go_enter Tryz.func41, Tryz.ntmps41
  go_wp2_with fail
  refine (refusal_nil _ _ _).mono ?_
  rintro e w1 ⟨rfl, rfl⟩
  go_wp2_with fail
  go_ret
  exact ⟨rfl, (Below.refl _ W).alloc (Nat.le_refl _) _⟩
theorem nilRoom : Calls Tryz.prog 63 #[.pointer none] W fun e w' => e = .returned (.int .i64 0) ∧ Below W.heap.size W w' := by
  go_enter Tryz.func63, Tryz.ntmps63
  go_wp2_with fail
  refine (over_nil W).mono ?_
  rintro e w1 ⟨rfl, rfl⟩
  go_wp2_with fail
  go_ret
  exact ⟨rfl, Below.refl _ _⟩
end
end Go.Proofs.YtdddennhdbmolaaGreat
/- Layer 4 (journal): what the statements ask of a transaction. -/
namespace Go.Proofs.YtdddennhdbmolaaGreat
open Go.RowKit Go.Maps
set_option linter.unusedVariables false
set_option linter.unusedSimpArgs false
set_option maxRecDepth 10000
/-- More than a statement plays. -/
def jlong (l : PutI) : Bool := (l.take 100).any (fun p => decide (200 < p.2.length)) || decide (60 < l.length)
end Go.Proofs.YtdddennhdbmolaaGreat
/- Layer 4 (journal): rows of sectors, as the statements make and compare them. -/
namespace Go.Proofs.YtdddennhdbmolaaGreat
open Go.RowKit Go.Maps
set_option linter.unusedVariables false
set_option linter.unusedSimpArgs false
set_option maxRecDepth 10000
/-- All sectors, in order. -/
def secs (N : Nat) (f : Nat → List UInt8) : List (List UInt8) := (List.range N).map f
theorem secs_length (N : Nat) (f : Nat → List UInt8) : (secs N f).length = N := by simp [secs]
theorem secs_get (N : Nat) (f : Nat → List UInt8) (i : Nat) (h : i < (secs N f).length) : (secs N f)[i] = f i := by simp [secs]
theorem secs_take (N : Nat) (f : Nat → List UInt8) (k : Nat) (h : k ≤ N) : (secs N f).take k = secs k f := by
  unfold secs
  rw [← List.map_take, List.take_range, Nat.min_eq_left h]
theorem secs_succ (k : Nat) (f : Nat → List UInt8) : secs (k + 1) f = secs k f ++ [f k] := by simp [secs, List.range_succ]
theorem secs_congr (N : Nat) (f g : Nat → List UInt8) (h : ∀ i, i < N → f i = g i) : secs N f = secs N g := by
  unfold secs
  exact List.map_congr_left fun i hi => h i (List.mem_range.1 hi)
/-- But an area. -/
def mask (F n : Nat) (f : Nat → List UInt8) (i : Nat) : List UInt8 := if F ≤ i ∧ i < F + n then [] else f i
theorem mask_out {F n i : Nat} (f : Nat → List UInt8) (h : i < F ∨ F + n ≤ i) : mask F n f i = f i := by unfold mask; rw [if_neg (by omega)]
/-- A row of texts, read. -/
abbrev Txt (W : World) (v : Value) (ss : List (List UInt8)) : Prop := Row W v (ss.map str)
theorem Txt.below {w W : World} {v : Value} {ss : List (List UInt8)} (h : Txt w v ss) (hb : Below w.heap.size w W) : Txt W v ss := by
  obtain ⟨A, c, rfl, hc⟩ := h
  refine ⟨A, c, rfl, fun j u hu => ?_⟩
  obtain ⟨g, rfl, hcell⟩ := hc j u hu
  exact ⟨g, rfl, (hb.cell (World.block_lt_of_cell? w _ hcell)).trans hcell⟩
theorem Txt.at {W : World} {v : Value} {ss : List (List UInt8)} (h : Txt W v ss) : ∃ A c, v = .slice A ss.length c ∧ ∀ k (hk : k < ss.length), ∃ g, A = some ⟨g, 0, none⟩ ∧ W.cell? ⟨g, k, none⟩ = some (str ss[k]) := by
  obtain ⟨A, c, rfl, hc⟩ := h
  refine ⟨A, c, by simp, fun k hk => ?_⟩
  obtain ⟨g, rfl, hcell⟩ := hc k (str ss[k]) (by simp [hk])
  exact ⟨g, rfl, hcell⟩
/-- The builtin at texts, from none. -/
theorem append_clone (W : World) (base : Nat) (v : Value) (ss : List (List UInt8)) (h : Txt W v ss) (hn : ss ≠ []) (hl : ss.length ≤ 1048576) (hb : base ≤ W.heap.size) :
    ∃ v' W', (txtAppend #[.slice none 0 0, v]).run Tryz.prog W = .ok v' W' ∧ OwnT W' base v' ss ∧ Below W.heap.size W W' := by
  obtain ⟨A, c, rfl, hc⟩ := h.at
  have hp := List.length_pos_iff.2 hn
  obtain ⟨g, rfl, -⟩ := hc 0 hp
  obtain ⟨i, hi, hz, hsz, hby⟩ := info_parts txtInfo
  obtain ⟨v', W', hap, hown, hg, _, hor⟩ := run_append_own_at (P := Tryz.prog) (w := W) base 88 88 9 i (str []) 1 16 Tryz.underlying88 hi hz hsz hby rfl (by decide) (.slice none 0 0) 0 [] ⟨rfl, .inl ⟨rfl, rfl⟩⟩
    ⟨g, 0, none⟩ ss.length c (ss.map str) (by simp) (fun j u hu => by
      rw [Addr.add_lit]
      rw [List.getElem?_map, Option.map_eq_some_iff] at hu
      obtain ⟨s, hs, rfl⟩ := hu
      obtain ⟨hj, rfl⟩ := List.getElem?_eq_some_iff.1 hs
      obtain ⟨g', e, h⟩ := hc j hj
      obtain rfl : g = g' := by injection e with e; injection e
      rw [Nat.zero_add]; exact h) (fun u hu => by obtain ⟨s, _, rfl⟩ := List.mem_map.1 hu; rfl) (by unfold maxLen; omega) (by omega) hb
  rw [Nat.zero_add, List.nil_append] at hown
  exact ⟨v', W', hap, hown, (Below.refl _ W).grown hg (Nat.le_refl _) (fun k hk => by cases hk)⟩
theorem secs_set (N : Nat) (f : Nat → List UInt8) (i : Nat) (h : i < N) (s : List UInt8) : (secs N f).set i s = secs N (upd f i s) := by
  apply List.ext_getElem
  · simp [secs]
  · intro j h1 h2
    simp only [secs, List.getElem_set, List.getElem_map, List.getElem_range]
    unfold upd
    by_cases e : i = j
    · rw [if_pos e, if_pos e.symm]
    · rw [if_neg e, if_neg (fun x => e x.symm)]
theorem own_form {W : World} {base : Nat} {v : Value} {ss : List (List UInt8)} (h : OwnT W base v ss) (hn : 0 < ss.length) : ∃ g cap, v = .slice (some ⟨g, 0, none⟩) ss.length cap ∧ base ≤ g ∧ g < W.heap.size ∧ ss.length ≤ cap ∧ cap ≤ maxLen := by
  rcases h.2 with ⟨h1, h0⟩ | ⟨g, cap, cur, hv, hb, hg, hc1, hc2, _⟩
  · omega
  · exact ⟨g, cap, hv, hb, (Array.getElem?_eq_some_iff.1 hg).1, hc1, hc2⟩
end Go.Proofs.YtdddennhdbmolaaGreat
/- Layer 4 (journal): a device, its journals and rows, held by a statement. -/
namespace Go.Proofs.YtdddennhdbmolaaGreat
open Go.RowKit Go.Maps
set_option linter.unusedVariables false
set_option linter.unusedSimpArgs false
set_option maxRecDepth 10000
abbrev Rows3 := List (Value × List (List UInt8))
/-- What a statement keeps beside its device: what was there, its journals, its rows. -/
def Kept (w : World) (js : List Nat) (vs : Rows3) (k : Nat) : Prop := k < w.heap.size ∨ k ∈ js ∨ ∃ x ∈ vs, x.1.ownBlock = some k
structure Law (F n : Nat) (w W : World) (b : Nat) (M : Dv) (js : List (Nat × Nat)) (vs : Rows3) : Prop where
  keeps : Keeps (All w) w W
  held : Held (Kept w (js.map (·.1)) vs) W W b M
  jat : ∀ x ∈ js, JAt W x.1 b F n x.2
  txt : ∀ x ∈ vs, Txt W x.1 x.2
section
variable {F n : Nat} {w W : World} {b : Nat} {M : Dv} {js : List (Nat × Nat)} {vs : Rows3}
theorem Law.below (h : Law F n w W b M js vs) {W' : World} (hb : Below W.heap.size W W') : Law F n w W' b M js vs :=
  ⟨h.keeps.below hb, h.held.more hb fun k hk => .inl hk, fun x hx => (h.jat x hx).below hb, fun x hx => Txt.below (h.txt x hx) hb⟩
theorem Law.all (h : Law F n w W b M js vs) : Below w.heap.size w W := h.keeps.all
theorem Law.fine (h : Law F n w W b M js vs) : Fine M := h.held.fine
theorem Law.on (h : Law F n w W b M js vs) {W' : World} {N : Dv} (hH : Held (Kept w (js.map (·.1)) vs) W W' b N) : Law F n w W' b N js vs :=
  ⟨h.keeps.trans hH.keeps fun k hk => .inl hk, hH.more (Below.refl _ _) fun k hk => .inl hk,
    fun x hx => (h.jat x hx).kept (hH.keeps.same _ (.inr (.inl (List.mem_map.2 ⟨x, hx, rfl⟩)))),
    fun x hx => Row.kept (h.txt x hx) fun k hk => hH.keeps.same k (.inr (.inr ⟨x, hx, hk⟩))⟩
theorem Law.step (h : Law F n w W b M js vs) {f : FuncId} {args : Array Value} {r : Ending} {N : Dv} (hc : Calls Tryz.prog f args W fun e w' => e = r ∧ Held (Kept w (js.map (·.1)) vs) W w' b N) :
    Calls Tryz.prog f args W fun e w' => e = r ∧ Law F n w w' b N js vs := hc.mono fun e w' hx => ⟨hx.1, h.on hx.2⟩
theorem Law.addTxt (h : Law F n w W b M js vs) {W' : World} {v : Value} {ss : List (List UInt8)} (ho : OwnT W' W.heap.size v ss) (hb : Below W.heap.size W W') : Law F n w W' b M js ((v, ss) :: vs) := by
  refine ⟨h.keeps.below hb, h.held.more hb fun k hk => ?_, fun x hx => (h.jat x hx).below hb, fun x hx => ?_⟩
  · rcases hk with hk | hk | ⟨x, hx, hk⟩
    · exact .inl (.inl hk)
    · exact .inl (.inr (.inl hk))
    · rcases List.mem_cons.1 hx with rfl | hx
      · exact .inr (ho.lt k hk)
      · exact .inl (.inr (.inr ⟨x, hx, hk⟩))
  · rcases List.mem_cons.1 hx with rfl | hx
    · exact row_of_own ho
    · exact Txt.below (h.txt x hx) hb
theorem Law.addJ (h : Law F n w W b M js vs) {W' : World} {N : Dv} (jb rec : Nat) (hk : Keeps (Kept w (js.map (·.1)) vs) W W') (hj : JAt W' jb b F n rec) (hH : Held (fun k => Kept w (js.map (·.1)) vs k ∨ k = jb) W' W' b N) : Law F n w W' b N ((jb, rec) :: js) vs := by
  refine ⟨h.keeps.trans hk fun k hk => .inl hk, hH.more (Below.refl _ _) fun k hk => ?_, fun x hx => ?_, fun x hx => Row.kept (h.txt x hx) fun k hk' => hk.same k (.inr (.inr ⟨x, hx, hk'⟩))⟩
  · rcases hk with hk | hk | hk
    · exact .inl (.inl (.inl hk))
    · rw [List.map_cons] at hk
      rcases List.mem_cons.1 hk with rfl | hk
      · exact .inl (.inr rfl)
      · exact .inl (.inl (.inr (.inl hk)))
    · exact .inl (.inl (.inr (.inr hk)))
  · rcases List.mem_cons.1 hx with rfl | hx
    · exact hj
    · exact (h.jat x hx).kept (hk.same _ (.inr (.inl (List.mem_map.2 ⟨x, hx, rfl⟩))))
theorem Law.less (h : Law F n w W b M js vs) {js' : List (Nat × Nat)} {vs' : Rows3} (hj : ∀ x ∈ js', x ∈ js) (hv : ∀ x ∈ vs', x ∈ vs) : Law F n w W b M js' vs' := by
  refine ⟨h.keeps, h.held.more (Below.refl _ _) fun k hk => .inl ?_, fun x hx => h.jat x (hj x hx), fun x hx => h.txt x (hv x hx)⟩
  rcases hk with hk | hk | ⟨x, hx, hk⟩
  · exact .inl hk
  · obtain ⟨x, hx, rfl⟩ := List.mem_map.1 hk
    exact .inr (.inl (List.mem_map.2 ⟨x, hj x hx, rfl⟩))
  · exact .inr (.inr ⟨x, hv x hx, hk⟩)
theorem law_new (N : Nat) (h8 : 8 ≤ N) (hN : N ≤ 4096) (w : World) : Calls Tryz.prog 32 #[.int .i64 (N : Int)] w fun e w' => ∃ b, e = .returned (.tuple #[devp b, .int .i64 0]) ∧ Law F n w w' b (dev0 N) [] [] := by
  refine (held_new N h8 hN (Keeps.start w)).mono ?_
  rintro e w' ⟨b, rfl, hH, hb⟩
  refine ⟨b, rfl, ⟨hH.keeps, hH.more (Below.refl _ _) fun k hk => .inl ?_, (fun x hx => by cases hx), (fun x hx => by cases hx)⟩⟩
  rcases hk with hk | hk | ⟨x, hx, hk⟩
  · exact hk
  · cases hk
  · cases hx
/-! Between two crashes. -/
/-- What may be durable behind a commit that was cut off. -/
def Aft (N F n g : Nat) (f : Nat → List UInt8) (L : PutL) (d : Nat → List UInt8) : Prop := StA N F n g f d ∨ StB N F n (g + 1) f L d ∨ StA N F n (g + 1) (laid f L) d
theorem calm_head (hc : M.calm) (F : Nat) : M.headOf F = hd (M.dur F) := by
  unfold Dv.headOf
  split
  · rfl
  · rw [calm_cur M hc]
theorem sta_head {N g : Nat} {f d : Nat → List UInt8} (h : StA N F n g f d) : hd (d F) = ⟨g, false, (hd (d F)).cnt⟩ := by
  have h1 := h.gen; have h2 := h.pend
  generalize hd (d F) = x at *
  obtain ⟨a, p, c⟩ := x
  simp only at h1 h2
  rw [h1, h2]
theorem sta_lt {N g : Nat} {f d : Nat → List UInt8} (h : StA N F n g f d) : g < 18446744073709551616 := by have := hd_gen_lt (d F); rw [h.gen] at this; exact this
theorem sta_new (N : Nat) : StA N F n 0 (fun _ => List.replicate 64 0) (dev0 N).dur :=
  ⟨by show (hd (List.replicate 64 0)).gen = 0; rw [hd_zero], by show (hd (List.replicate 64 0)).pend = false; rw [hd_zero], fun i _ => rfl⟩
theorem free_of (hd : M.down = false) (hl : M.left = 0) : M.free := ⟨hd, hl⟩
theorem redo_len (F g : Nat) (l : PutL) : (redoP F g l).flatten.length = l.length + 1 := by simp [redoP, markP]
theorem commit_len (F g : Nat) (l : PutL) : (commitP F g l).flatten.length = 2 * l.length + (l.length + 31) / 32 + 2 := by
  have := keepP_length F l
  have := bodyL_length l
  simp [commitP, markP]
  omega
/-- A commit, cut off or not. -/
theorem commit_all {N g : Nat} {f : Nat → List UInt8} {L : PutL} (hT : Tr N F n L) (hN : M.n = N) (hc : M.calm) (hg : g < 18446744073709551615) (hA : StA N F n g f M.dur) :
    (M.runD (commitP F (g + 1) L)).n = N ∧ (M.runD (commitP F (g + 1) L)).wr ≤ M.wr + (2 * L.length + (L.length + 31) / 32 + 2) ∧
    (∀ keep, Aft N F n g f L ((M.runD (commitP F (g + 1) L)).crash keep).dur) ∧
    ((M.runD (commitP F (g + 1) L)).down = false → (M.runD (commitP F (g + 1) L)).calm ∧ StA N F n (g + 1) (laid f L) (M.runD (commitP F (g + 1) L)).dur) ∧
    (M.down = false → M.left = 0 → (M.runD (commitP F (g + 1) L)).down = false ∧ (M.runD (commitP F (g + 1) L)).left = 0) := by
  refine ⟨(runD_n _ _).trans hN, ?_, fun keep => ?_, fun hd => ?_, fun h1 h2 => runD_free M ⟨h1, h2⟩ _⟩
  · have := runD_wr M (commitP F (g + 1) L)
    rwa [commit_len] at this
  · rcases commit_crash hT M hN hc hg hA keep with ⟨-, h⟩ | ⟨-, h⟩
    · exact .inr (.inr h)
    · exact h
  · obtain ⟨h1, -⟩ := runD_calm M hc (commitP F (g + 1) L) (by rw [hN]; exact hT.commitOk (g + 1)) hd
    refine ⟨h1, ?_⟩
    rcases commit_crash hT M hN hc hg hA [] with ⟨-, h⟩ | ⟨h, -⟩
    · rwa [crash_dur _ h1] at h
    · rw [hd] at h; cases h
theorem redo_all {N g : Nat} {f : Nat → List UInt8} {L : PutL} (hT : Tr N F n L) (hN : M.n = N) (hc : M.calm) (hg : g < 18446744073709551615) (hB : StB N F n (g + 1) f L M.dur) :
    (M.runD (redoP F (g + 1) L)).n = N ∧ (M.runD (redoP F (g + 1) L)).wr ≤ M.wr + (L.length + 1) ∧
    (∀ keep, Aft N F n g f L ((M.runD (redoP F (g + 1) L)).crash keep).dur) ∧
    ((M.runD (redoP F (g + 1) L)).down = false → (M.runD (redoP F (g + 1) L)).calm ∧ StA N F n (g + 1) (laid f L) (M.runD (redoP F (g + 1) L)).dur) ∧
    (M.down = false → M.left = 0 → (M.runD (redoP F (g + 1) L)).down = false ∧ (M.runD (redoP F (g + 1) L)).left = 0) := by
  refine ⟨(runD_n _ _).trans hN, ?_, fun keep => ?_, fun hd => ?_, fun h1 h2 => runD_free M ⟨h1, h2⟩ _⟩
  · have := runD_wr M (redoP F (g + 1) L)
    rwa [redo_len] at this
  · rcases redo_crash hT M hN hc (by omega) hB keep with ⟨-, h⟩ | ⟨-, h | h⟩
    · exact .inr (.inr h)
    · exact .inr (.inl h)
    · exact .inr (.inr h)
  · obtain ⟨h1, -⟩ := runD_calm M hc (redoP F (g + 1) L) (by rw [hN]; exact hT.redoOk (g + 1)) hd
    refine ⟨h1, ?_⟩
    rcases redo_crash hT M hN hc (by omega) hB [] with ⟨-, h⟩ | ⟨h, -⟩
    · rwa [crash_dur _ h1] at h
    · rw [hd] at h; cases h
/-! The calls. -/
/-- A journal, opened on what a commit left. -/
theorem law_open {g : Nat} {f : Nat → List UInt8} {L : PutL} (h : Law F n w W b M js vs) (hT : Tr M.n F n L) (hcap : L.length ≤ capL n) (hwhy : whyL M.n F n (castL L) = 0) (h4 : 4 ≤ n) (h256 : n ≤ 256) (hc : M.calm) (hw : M.wr + 8192 ≤ 1099511627776)
    (hA : Aft M.n F n g f L M.dur) (hg : g < 18446744073709551615) :
    Calls Tryz.prog 33 #[devp b, .int .i64 (F : Int), .int .i64 (n : Int)] W fun e w' =>
      ∃ M2, M2.n = M.n ∧ M2.wr ≤ M.wr + 4097 ∧ (∀ keep, Aft M.n F n g f L (M2.crash keep).dur) ∧
        ((M2.down = true ∧ (M.down = false → M.left ≠ 0) ∧ e = .returned (.tuple #[.pointer none, .int .i64 30]) ∧ Law F n w w' b M2 js vs) ∨
         (M2.down = false ∧ M2.calm ∧ (M.left = 0 → M2.left = 0) ∧ ∃ jb rec g2 f2, e = .returned (.tuple #[devp jb, .int .i64 0]) ∧ Law F n w w' b M2 ((jb, rec) :: js) vs ∧ StA M.n F n g2 f2 M2.dur ∧ (g2 = g ∧ f2 = f ∨ g2 = g + 1 ∧ f2 = laid f L) ∧ ((hd (M.dur F)).pend = false → rec = 0 ∧ M2 = M))) := by
  have hF := hT.area
  have hll := hT.len
  cases hdM : M.down
  · have clean : ∀ g2 f2, StA M.n F n g2 f2 M.dur → (g2 = g ∧ f2 = f ∨ g2 = g + 1 ∧ f2 = laid f L) → Calls Tryz.prog 33 #[devp b, .int .i64 (F : Int), .int .i64 (n : Int)] W fun e w' =>
        ∃ jb, e = .returned (.tuple #[devp jb, .int .i64 0]) ∧ Law F n w w' b M ((jb, 0) :: js) vs := fun g2 f2 hS hor => by
      refine (jopen_clean h.held F n h4 h256 hF hdM (by omega) (by rw [calm_cur M hc]; exact hS.pend)).mono ?_
      rintro e w' ⟨jb, rfl, hjb, hj, hb, hH⟩
      exact ⟨jb, rfl, h.addJ jb 0 (h.held.keeps.below hb) hj hH⟩
    have hkeep : ∀ keep, Aft M.n F n g f L (M.crash keep).dur := fun keep => by rw [crash_dur M hc]; exact hA
    rcases hA with hS | hB | hS
    · refine (clean g f hS (.inl ⟨rfl, rfl⟩)).mono ?_
      rintro e w' ⟨jb, rfl, hL⟩
      exact ⟨M, rfl, by omega, hkeep, .inr ⟨hdM, hc, fun x => x, jb, 0, g, f, rfl, hL, hS, .inl ⟨rfl, rfl⟩, fun _ => ⟨rfl, rfl⟩⟩⟩
    · obtain ⟨r1, r2, r3, r4, r5⟩ := redo_all hT rfl hc hg hB
      have hhd : hd (M.cur F) = ⟨g + 1, true, L.length⟩ := by rw [calm_cur M hc]; exact hB.head
      have hbody : ∀ k (hk : k < (bodyL L).length), M.cur (F + 1 + k) = (bodyL L)[k] := fun k hk => by rw [calm_cur M hc]; exact hB.body k hk
      refine (jopen_redo h.held F n (g + 1) L h4 h256 hdM (by omega) hT hcap hwhy hhd hbody).mono ?_
      rintro e w' (⟨hdn, rfl, hH⟩ | ⟨hdn, jb, rfl, hjb, hj, hk, hH⟩)
      · refine ⟨_, r1, by omega, r3, .inl ⟨hdn, fun _ hl => ?_, rfl, h.on hH⟩⟩
        have := (r5 hdM hl).1
        rw [hdn] at this; cases this
      · exact ⟨_, r1, by omega, r3, .inr ⟨hdn, (r4 hdn).1, fun hl => (r5 hdM hl).2, jb, L.length, g + 1, laid f L, rfl, h.addJ jb L.length hk hj hH, (r4 hdn).2, .inr ⟨rfl, rfl⟩, fun hp => by rw [hB.head] at hp; cases hp⟩⟩
    · refine (clean (g + 1) (laid f L) hS (.inr ⟨rfl, rfl⟩)).mono ?_
      rintro e w' ⟨jb, rfl, hL⟩
      exact ⟨M, rfl, by omega, hkeep, .inr ⟨hdM, hc, fun x => x, jb, 0, g + 1, laid f L, rfl, hL, hS, .inr ⟨rfl, rfl⟩, fun _ => ⟨rfl, rfl⟩⟩⟩
  · refine (jopen_down h.held F n h4 h256 hF hdM).mono ?_
    rintro e w' ⟨rfl, rfl⟩
    exact ⟨M, rfl, by omega, fun keep => by rw [crash_dur M hc]; exact hA, .inl ⟨hdM, (fun hx => by cases hx), rfl, h⟩⟩
end
end Go.Proofs.YtdddennhdbmolaaGreat
/- Layer 4 (journal): the chapter's examples, walked. -/
namespace Go.Proofs.YtdddennhdbmolaaGreat
open Go.RowKit Go.Maps
set_option linter.unusedVariables false
set_option linter.unusedSimpArgs false
set_option maxRecDepth 10000
section
variable {F n : Nat} {w W : World} {b : Nat} {M : Dv} {js : List (Nat × Nat)} {vs : Rows3}
/-- A journal, opened where nothing is to be recovered. -/
theorem law_open_new {g : Nat} {f : Nat → List UInt8} (h : Law F n w W b M js vs) (h4 : 4 ≤ n) (h256 : n ≤ 256) (hF : F + n ≤ M.n) (hc : M.calm) (hd : M.down = false) (hw : M.wr + 8192 ≤ 1099511627776) (hS : StA M.n F n g f M.dur) :
    Calls Tryz.prog 33 #[devp b, .int .i64 (F : Int), .int .i64 (n : Int)] W fun e w' => ∃ jb, e = .returned (.tuple #[devp jb, .int .i64 0]) ∧ Law F n w w' b M ((jb, 0) :: js) vs := by
  refine (jopen_clean h.held F n h4 h256 hF hd (by omega) (by rw [calm_cur M hc]; exact hS.pend)).mono ?_
  rintro e w' ⟨jb, rfl, hjb, hj, hb, hH⟩
  exact ⟨jb, rfl, h.addJ jb 0 (h.held.keeps.below hb) hj hH⟩
theorem law_read (h : Law F n w W b M js vs) (hd : M.down = false) (hw : M.wr ≤ 1099511627776) (i : Nat) (hi : i < M.n) :
    Calls Tryz.prog 69 #[devp b, .int .i64 (i : Int)] W fun e w' => e = .returned (.tuple #[str (M.cur i), .int .i64 0]) ∧ Law F n w w' b M js vs := h.step (held_read h.held hd hw i hi)
theorem law_max {jb rec : Nat} (h : Law F n w W b M js vs) (hj : (jb, rec) ∈ js) (h4 : 4 ≤ n) (h256 : n ≤ 256) :
    Calls Tryz.prog 79 #[devp jb] W fun e w' => e = .returned (.int .i64 (capL n : Int)) ∧ W = w' := max_any jb b F n rec W (h.jat _ hj) h4 h256
end
theorem puts_lit' (w : World) (s : Nat) (d : List UInt8) (n : Int) (hn : n = s) : Puts (w.alloc (.cells #[.int .i64 n, str d] 140)) (.slice (some ⟨w.heap.size, 0, none⟩) 1 1) (castL [(s, d)]) := by
  subst hn
  exact puts_lit w (s : Int) d
def exPut : PutL := [(20, secOf [97])]
theorem exFacts : whyL 32 2 8 (castL exPut) = 0 ∧ whyL 32 2 8 (castL [(9, secOf [97])]) = 40 ∧ capL 8 = 6 ∧ laid (fun _ => List.replicate 64 0) exPut 20 = secOf [97] := by
  decide +kernel
end Go.Proofs.YtdddennhdbmolaaGreat
