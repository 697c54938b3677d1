/- Layer 8 (tx): both sides, a step at a time. -/
import Derived.Test.YthgdkpkhnhjifaaGreatTxL3
namespace Go.Proofs.YthgdkpkhnhjifaaGreat
open Go.RowKit Go.Maps
set_option linter.unusedVariables false
set_option linter.unusedSimpArgs false
set_option maxRecDepth 10000
/-- A transaction and the document's: they have written the same. -/
structure Both (w W : World) (rs : List Res) (t i j r q tb b jb rb rec : Nat) (v : Value) (M : Dv) (L : PutL) : Prop where
  tx : TxSys w W rs t i j tb b jb 4 12 rec M L
  ref : RefSys w W rs r q rb v M.n (capL 12) M.cur L
  tr : t ≠ r
  tq : t ≠ q
  ri : i ≠ r
  rj : j ≠ r
section
variable {w W : World} {rs : List Res} {t i j r q tb b jb rb rec : Nat} {v : Value} {M : Dv} {L : PutL}
theorem Both.below (h : Both w W rs t i j r q tb b jb rb rec v M L) {W' : World} (hb : Below W.heap.size W W') : Both w W' rs t i j r q tb b jb rb rec v M L := { h with tx := h.tx.below hb, ref := h.ref.below hb }
theorem RefSys.other {N most : Nat} {f : Nat → List UInt8} (h : RefSys w W rs r q rb v N most f L) {W' : World} {x : Res} (hs : Sys w W' (rs.set t x)) (h1 : t ≠ r) (h2 : t ≠ q) : RefSys w W' (rs.set t x) r q rb v N most f L :=
  ⟨hs, by rw [List.getElem?_set_ne h1]; exact h.hr, by rw [List.getElem?_set_ne h2]; exact h.hq, h.rq, h.small, h.big, h.ok, h.each⟩
theorem TxSys.other {F n : Nat} (h : TxSys w W rs t i j tb b jb F n rec M L) {W' : World} {x : Res} (hs : Sys w W' (rs.set r x)) (h1 : t ≠ r) (h2 : i ≠ r) (h3 : j ≠ r) : TxSys w W' (rs.set r x) t i j tb b jb F n rec M L :=
  ⟨hs, by rw [List.getElem?_set_ne (fun e => h1 e.symm)]; exact h.ht, by rw [List.getElem?_set_ne (fun e => h2 e.symm)]; exact h.hi, by rw [List.getElem?_set_ne (fun e => h3 e.symm)]; exact h.hj, h.ti, h.tj, h.ij, h.up, h.wr, h.h4, h.h256, h.ok⟩
/-- Ahead of the document's turn: what the transaction has written is L', what the document's has is L. -/
structure Half (w W : World) (rs : List Res) (t i j r q tb b jb rb rec : Nat) (v : Value) (M : Dv) (L L' : PutL) : Prop where
  tx : TxSys w W rs t i j tb b jb 4 12 rec M L'
  ref : RefSys w W rs r q rb v M.n (capL 12) M.cur L
  tr : t ≠ r
  tq : t ≠ q
  ri : i ≠ r
  rj : j ≠ r
theorem Half.below {L' : PutL} (h : Half w W rs t i j r q tb b jb rb rec v M L L') {W' : World} (hb : Below W.heap.size W W') : Half w W' rs t i j r q tb b jb rb rec v M L L' := { h with tx := h.tx.below hb, ref := h.ref.below hb }
theorem both_write (h : Both w W rs t i j r q tb b jb rb rec v M L) (k : Int) (s : List UInt8) (hs : s.length ≤ 140737488351232) :
    Calls Tryz.prog 24 #[devp tb, .int .i64 k, str s] W fun e w' => e = .returned (.int .i64 (wrE M.n (capL 12) L k s)) ∧ Half w w' (rs.set t (txR tb b jb M.n (wrL M.n (capL 12) L k s))) t i j r q tb b jb rb rec v M L (wrL M.n (capL 12) L k s) :=
  (sys_txWrite h.tx k s hs).mono fun e w' hx => ⟨hx.1, hx.2, h.ref.other hx.2.sys h.tr h.tq, h.tr, h.tq, h.ri, h.rj⟩
theorem half_write {L' : PutL} (h : Half w W rs t i j r q tb b jb rb rec v M L L') (k : Int) (s : List UInt8) (hs : s.length ≤ 140737488351232) (hL : L' = wrL M.n (capL 12) L k s) :
    Calls Tryz.prog 25 #[devp rb, .int .i64 k, str s] W fun e w' => e = .returned (.int .i64 (wrE M.n (capL 12) L k s)) ∧ Both w w' (rs.set r (refR rb v L' (capL 12))) t i j r q tb b jb rb rec v M L' := by
  subst hL
  exact (sys_refWrite h.ref k s hs).mono fun e w' hx => ⟨hx.1, h.tx.other hx.2.sys h.tr h.ri h.rj, hx.2, h.tr, h.tq, h.ri, h.rj⟩
theorem both_patch (h : Both w W rs t i j r q tb b jb rb rec v M L) (k f : Int) (s : List UInt8) (hs : s.length ≤ 140737488351232) :
    Calls Tryz.prog 35 #[devp tb, .int .i64 k, .int .i64 f, str s] W fun e w' => e = .returned (.int .i64 (ptE M.n (capL 12) M.cur L k f s)) ∧ Half w w' (rs.set t (txR tb b jb M.n (ptL M.n (capL 12) M.cur L k f s))) t i j r q tb b jb rb rec v M L (ptL M.n (capL 12) M.cur L k f s) :=
  (sys_txPatch h.tx k f s hs).mono fun e w' hx => ⟨hx.1, hx.2, h.ref.other hx.2.sys h.tr h.tq, h.tr, h.tq, h.ri, h.rj⟩
theorem half_patch {L' : PutL} (h : Half w W rs t i j r q tb b jb rb rec v M L L') (k f : Int) (s : List UInt8) (hs : s.length ≤ 140737488351232) (hL : L' = ptL M.n (capL 12) M.cur L k f s) :
    Calls Tryz.prog 39 #[devp rb, .int .i64 k, .int .i64 f, str s] W fun e w' => e = .returned (.int .i64 (ptE M.n (capL 12) M.cur L k f s)) ∧ Both w w' (rs.set r (refR rb v L' (capL 12))) t i j r q tb b jb rb rec v M L' := by
  subst hL
  exact (sys_refPatch h.ref k f s hs).mono fun e w' hx => ⟨hx.1, h.tx.other hx.2.sys h.tr h.ri h.rj, hx.2, h.tr, h.tq, h.ri, h.rj⟩
/-- One thing more, and one less. -/
theorem app_left {α : Type} {rs : List α} {k : Nat} {x y : α} (h : rs[k]? = some x) : (rs ++ [y])[k]? = some x := by rw [List.getElem?_append_left (idx_lt h)]; exact h
theorem app_back {α : Type} {rs : List α} {k : Nat} {x y : α} (h : (rs ++ [y])[k]? = some x) (hk : k < rs.length) : rs[k]? = some x := by rwa [List.getElem?_append_left hk] at h
theorem Both.push (h : Both w W rs t i j r q tb b jb rb rec v M L) {W' : World} {x : Res} (hs : Sys w W' (rs ++ [x])) : Both w W' (rs ++ [x]) t i j r q tb b jb rb rec v M L :=
  { h with
    tx := { h.tx with sys := hs, ht := app_left h.tx.ht, hi := app_left h.tx.hi, hj := app_left h.tx.hj }
    ref := { h.ref with sys := hs, hr := app_left h.ref.hr, hq := app_left h.ref.hq } }
theorem Both.pop {x : Res} (h : Both w W (rs ++ [x]) t i j r q tb b jb rb rec v M L) (ht : t < rs.length) (hi : i < rs.length) (hj : j < rs.length) (hr : r < rs.length) (hq : q < rs.length) : Both w W rs t i j r q tb b jb rb rec v M L := by
  have hs : Sys w W rs := by
    have := h.tx.sys.take rs.length
    rwa [List.take_left] at this
  exact { h with
    tx := { h.tx with sys := hs, ht := app_back h.tx.ht ht, hi := app_back h.tx.hi hi, hj := app_back h.tx.hj hj }
    ref := { h.ref with sys := hs, hr := app_back h.ref.hr hr, hq := app_back h.ref.hq hq } }
/-- A step in a cell of its own. -/
def stepAt (W : World) (p : Nat) (x : TSt) : Prop := W.cell? ⟨p, 0, none⟩ = some (.int .i64 x.do_) ∧ W.cell? ⟨p, 1, none⟩ = some (.int .i64 x.n) ∧ W.cell? ⟨p, 2, none⟩ = some (.int .i64 x.from_) ∧ W.cell? ⟨p, 3, none⟩ = some (str x.s) ∧ W.cell? ⟨p, 4, none⟩ = some (.bool x.raw)
def stepR (p : Nat) (x : TSt) : Res := memR (fun k => k = p) (fun W => stepAt W p x) fun W W' h hb =>
  ⟨(cell_same 0 (hb p rfl)).trans h.1, (cell_same 1 (hb p rfl)).trans h.2.1, (cell_same 2 (hb p rfl)).trans h.2.2.1, (cell_same 3 (hb p rfl)).trans h.2.2.2.1, (cell_same 4 (hb p rfl)).trans h.2.2.2.2⟩
theorem stepR_new (h : Sys w W rs) (x : TSt) : Sys w (W.alloc (.cells #[.int .i64 x.do_, .int .i64 x.n, .int .i64 x.from_, str x.s, .bool x.raw] 41)) (rs ++ [stepR W.heap.size x]) := by
  have hnew := heap_alloc_new W (.cells #[.int .i64 x.do_, .int .i64 x.n, .int .i64 x.from_, str x.s, .bool x.raw] 41)
  exact h.addMem ((Below.refl _ W).alloc (Nat.le_refl _) _) ⟨cell_of_row _ _ 0 _ _ _ hnew, cell_of_row _ _ 1 _ _ _ hnew, cell_of_row _ _ 2 _ _ _ hnew, cell_of_row _ _ 3 _ _ _ hnew, cell_of_row _ _ 4 _ _ _ hnew⟩ fun k hk => by rw [hk]; exact ⟨Nat.le_refl _, by simp⟩
/-- A step's outcome: both have written the same, whatever it is. -/
def Done8 (w W : World) (rs : List Res) (t i j r q tb b jb rb rec : Nat) (v : Value) (M : Dv) : Prop := ∃ L rs', Both w W rs' t i j r q tb b jb rb rec v M L ∧ rs'.length = rs.length ∧ ∀ k, k ≠ t → k ≠ r → rs'[k]? = rs[k]?
set_option maxHeartbeats 2000000 in
theorem does_any (h : Both w W rs t i j r q tb b jb rb rec v M L) (x : TSt) (hs : x.s.length ≤ 140737488351232) :
    Calls Tryz.prog 14 #[devp tb, devp rb, x.v] W fun e w' => e = .returned (.bool true) ∧ Done8 w w' rs t i j r q tb b jb rb rec v M := by
  have hts : x.text.length ≤ 140737488351232 := by
    unfold TSt.text
    split
    · exact hs
    · rw [fullT_length]; omega
  have hlr := idx_lt h.ref.hr
  have hlt := idx_lt h.tx.ht
  obtain ⟨p, hp⟩ : ∃ p, p = W.heap.size := ⟨_, rfl⟩
  have h1 := h.push (stepR_new h.tx.sys x)
  rw [← hp] at h1
  have hT := fun V => text_any x V hs
  have hfin : ∀ V L', Both w V (((rs ++ [stepR p x]).set t (txR tb b jb M.n L')).set r (refR rb v L' (capL 12))) t i j r q tb b jb rb rec v M L' → Done8 w V rs t i j r q tb b jb rb rec v M := fun V L' hV => by
    have e1 : ((rs ++ [stepR p x]).set t (txR tb b jb M.n L')).set r (refR rb v L' (capL 12)) = ((rs.set t (txR tb b jb M.n L')).set r (refR rb v L' (capL 12))) ++ [stepR p x] := by
      rw [List.set_append_left _ _ hlt, List.set_append_left _ _ (by rw [List.length_set]; exact hlr)]
    rw [e1] at hV
    have hl : ((rs.set t (txR tb b jb M.n L')).set r (refR rb v L' (capL 12))).length = rs.length := by rw [List.length_set, List.length_set]
    have hq := idx_lt h.ref.hq
    have hi := idx_lt h.tx.hi
    have hj := idx_lt h.tx.hj
    exact ⟨L', _, hV.pop (by omega) (by omega) (by omega) (by omega) (by omega), hl, fun k hk1 hk2 => by rw [List.getElem?_set_ne (fun e => hk2 e.symm), List.getElem?_set_ne (fun e => hk1 e.symm)]⟩
  have hfin0 : ∀ V, Both w V (rs ++ [stepR p x]) t i j r q tb b jb rb rec v M L → Done8 w V rs t i j r q tb b jb rb rec v M := fun V hV =>
    ⟨L, rs, hV.pop hlt (idx_lt h.tx.hi) (idx_lt h.tx.hj) hlr (idx_lt h.ref.hq), rfl, fun k _ _ => rfl⟩
  have hbox : (rs ++ [stepR p x])[rs.length]? = some (stepR p x) := by simp
  have hboxT : ∀ L', ((rs ++ [stepR p x]).set t (txR tb b jb M.n L'))[rs.length]? = some (stepR p x) := fun L' => by rw [List.getElem?_set_ne (by omega)]; exact hbox
  have hboxR : ∀ L', (((rs ++ [stepR p x]).set t (txR tb b jb M.n L')).set r (refR rb v L' (capL 12)))[rs.length]? = some (stepR p x) := fun L' => by rw [List.getElem?_set_ne (by omega)]; exact hboxT L'
  have H1 := Lib.hid h1
  have HT := Lib.hid hT
  have HF := Lib.hid hfin
  have HF0 := Lib.hid hfin0
  have HX := Lib.hid hbox
  have HXT := Lib.hid hboxT
  have HXR := Lib.hid hboxR
  clear h h1 hT hfin hfin0 hbox hboxT hboxR
  obtain ⟨V0, hV0⟩ : ∃ V0, V0 = W.alloc (.cells #[.int .i64 x.do_, .int .i64 x.n, .int .i64 x.from_, str x.s, .bool x.raw] 41) := ⟨_, rfl⟩
  rw [← hV0] at H1
  obtain ⟨b0, b1, b2, b3, b4⟩ : stepAt V0 p x := H1.out.tx.sys.mem HX.out
  obtain ⟨dv, xn, xf, s, raw⟩ := x
  simp only at b0 b1 b2 b3 b4 hV0 hs
  unfold TSt.v at HT
  simp only at HT
  generalize TSt.text ⟨dv, xn, xf, s, raw⟩ = tx at *
  generalize rs ++ [stepR p ⟨dv, xn, xf, s, raw⟩] = rs1 at *
  by_cases hd0 : dv = 0
  · subst hd0
    have R1 := Lib.hid (fun V (h : Both w V rs1 t i j r q tb b jb rb rec v M L) => sys_txRead h.tx xn)
    have R2 := Lib.hid (fun V (h : Both w V rs1 t i j r q tb b jb rb rec v M L) => sys_refRead h.ref xn)
    generalize rdS M.n M.cur L xn = a at *
    generalize rdE M.n xn = e at *
    go_enter Tryz.func14, Tryz.ntmps14
    go_wp2_with fail
    rw [← hp, ← hV0]
    clear hV0 hp
    refine (R1.out _ H1.out).mono ?_
    rintro e w1 ⟨rfl, hb⟩
    have H2 := Lib.hid (H1.out.below hb)
    obtain ⟨b0, b1, b2, b3, b4⟩ := H2.out.tx.sys.mem HX.out
    clear hb
    go_wp2_with fail
    refine (R2.out _ H2.out).mono ?_
    rintro e w2 ⟨rfl, hb⟩
    have H3 := Lib.hid (H2.out.below hb)
    clear hb
    go_wp2_with fail
    go_ret
    exact ⟨rfl, HF0.out _ H3.out⟩
  have e0 : (dv == 0) = false := by simpa using hd0
  by_cases hd1 : dv = 1
  · subst hd1
    clear hd0
    have R1 := Lib.hid (fun V (h : Both w V rs1 t i j r q tb b jb rb rec v M L) => both_write h xn tx hts)
    have R2 := Lib.hid (fun V L' (h : Half w V (rs1.set t (txR tb b jb M.n L')) t i j r q tb b jb rb rec v M L L') (hL : L' = wrL M.n (capL 12) L xn tx) => half_write h xn tx hts hL)
    obtain ⟨L', hL'⟩ : ∃ L', L' = wrL M.n (capL 12) L xn tx := ⟨_, rfl⟩
    rw [← hL'] at R1
    have HXL := Lib.hid (HXT.out L')
    have R3 := Lib.hid (fun V (h : Half w V (rs1.set t (txR tb b jb M.n L')) t i j r q tb b jb rb rec v M L L') => R2.out V L' h hL')
    have HFL := Lib.hid (fun V => HF.out V L')
    have HXM := Lib.hid (HXR.out L')
    clear R2 hL' HF HXT HXR
    generalize wrE M.n (capL 12) L xn tx = e at *
    have H1d := Lib.hid (H1.out.below ((Below.refl _ V0).drew))
    go_enter Tryz.func14, Tryz.ntmps14
    go_wp2_with fail
    rw [← hp, ← hV0]
    clear hV0 H1 hp
    have HC := H1d
    go_region_held3 (fun W' => W'.cell? ⟨p, 0, none⟩ = some (.int .i64 1) ∧ W'.cell? ⟨p, 1, none⟩ = some (.int .i64 xn) ∧ W'.cell? ⟨p, 2, none⟩ = some (.int .i64 xf) ∧ W'.cell? ⟨p, 3, none⟩ = some (str s) ∧ W'.cell? ⟨p, 4, none⟩ = some (.bool raw))
      (first | exact ⟨b0, b1, b2, b3, b4⟩)
      (first | (go_at_call 23; ((with_reducible refine (HT.out _).mono ?_); rintro e w4 ⟨rfl, hb⟩; have HC := Lib.hid (HC.out.below hb); obtain ⟨b0, b1, b2, b3, b4⟩ : stepAt w4 p _ := HC.out.tx.sys.mem (by first | exact HX.out | exact HXL.out); clear hb))
             | (go_at_call 24; ((with_reducible refine (R1.out _ HC.out).mono ?_); rintro e w4 ⟨rfl, hb⟩; have HC := Lib.hid hb; obtain ⟨b0, b1, b2, b3, b4⟩ : stepAt w4 p _ := HC.out.tx.sys.mem HXL.out; clear hb))
             | (go_at_call 25; ((with_reducible refine (R3.out _ HC.out).mono ?_); rintro e w4 ⟨rfl, hb⟩; have HC := Lib.hid hb; obtain ⟨b0, b1, b2, b3, b4⟩ : stepAt w4 p _ := HC.out.tx.sys.mem HXM.out; clear hb)))
    go_wp2_with fail
    go_ret
    exact ⟨rfl, HFL.out _ HC.out⟩
  have e1 : (dv == 1) = false := by simpa using hd1
  by_cases hd2 : dv = 2
  · subst hd2
    clear hd0 hd1
    have R1 := Lib.hid (fun V (h : Both w V rs1 t i j r q tb b jb rb rec v M L) => both_patch h xn xf s hs)
    have R2 := Lib.hid (fun V L' (h : Half w V (rs1.set t (txR tb b jb M.n L')) t i j r q tb b jb rb rec v M L L') (hL : L' = ptL M.n (capL 12) M.cur L xn xf s) => half_patch h xn xf s hs hL)
    obtain ⟨L', hL'⟩ : ∃ L', L' = ptL M.n (capL 12) M.cur L xn xf s := ⟨_, rfl⟩
    rw [← hL'] at R1
    have HXL := Lib.hid (HXT.out L')
    have R3 := Lib.hid (fun V (h : Half w V (rs1.set t (txR tb b jb M.n L')) t i j r q tb b jb rb rec v M L L') => R2.out V L' h hL')
    have HFL := Lib.hid (fun V => HF.out V L')
    have HXM := Lib.hid (HXR.out L')
    clear R2 hL' HF HXT HXR
    generalize ptE M.n (capL 12) M.cur L xn xf s = e at *
    have H1d := Lib.hid (H1.out.below ((Below.refl _ V0).drew))
    go_enter Tryz.func14, Tryz.ntmps14
    go_wp2_with fail
    rw [← hp, ← hV0]
    clear hV0 H1 hp
    have HC := H1d
    go_region_held3 (fun W' => W'.cell? ⟨p, 0, none⟩ = some (.int .i64 2) ∧ W'.cell? ⟨p, 1, none⟩ = some (.int .i64 xn) ∧ W'.cell? ⟨p, 2, none⟩ = some (.int .i64 xf) ∧ W'.cell? ⟨p, 3, none⟩ = some (str s) ∧ W'.cell? ⟨p, 4, none⟩ = some (.bool raw))
      (first | exact ⟨b0, b1, b2, b3, b4⟩)
      (first | (go_at_call 35; ((with_reducible refine (R1.out _ HC.out).mono ?_); rintro e w4 ⟨rfl, hb⟩; have HC := Lib.hid hb; obtain ⟨b0, b1, b2, b3, b4⟩ : stepAt w4 p _ := HC.out.tx.sys.mem HXL.out; clear hb))
             | (go_at_call 39; ((with_reducible refine (R3.out _ HC.out).mono ?_); rintro e w4 ⟨rfl, hb⟩; have HC := Lib.hid hb; obtain ⟨b0, b1, b2, b3, b4⟩ : stepAt w4 p _ := HC.out.tx.sys.mem HXM.out; clear hb)))
    go_wp2_with fail
    go_ret
    exact ⟨rfl, HFL.out _ HC.out⟩
  · have e2 : (dv == 2) = false := by simpa using hd2
    clear hd0 hd1 hd2
    go_enter Tryz.func14, Tryz.ntmps14
    go_wp2_with fail
    rw [← hV0]
    go_ret
    exact ⟨rfl, HF0.out _ H1.out⟩
set_option maxHeartbeats 1000000 in
theorem touched8_any (h : Both w W rs t i j r q tb b jb rb rec v M L) : Calls Tryz.prog 15 #[devp tb, devp rb] W fun e w' => e = .returned (.bool true) ∧ Both w w' rs t i j r q tb b jb rb rec v M L := by
  obtain ⟨m, hT, -⟩ := h.tx.on
  obtain ⟨u, hR, -⟩ := h.ref.on
  have hcap := h.tx.ok.cap
  have hcb : capL 12 = 10 := by decide
  have HW := Lib.hid h
  have HTc := Lib.hid (touched_any hT.tx)
  have hroom : ∀ V, Below W.heap.size W V → ∀ k, Calls Tryz.prog 30 #[devp tb] (V.drewN k) fun e w' => e = .returned (.int .i64 ((capL 12 : Int) - (L.length : Int))) ∧ ∃ m, w' = (V.drewN k).drewN m := fun V hb k => txRoom_quiet (hT.below (below_drewN hb k))
  have HRm := Lib.hid hroom
  have HR := Lib.hid hR
  obtain ⟨A, c, hu, -, -, hrow⟩ := hR.row
  subst hu
  have c1 := hR.c1
  have c2 := hR.c2
  have hlt := hR.lt.1
  have HRow := Lib.hid hrow
  rw [hcb] at hcap HRm c2
  clear h hT hR hroom hrow hcb
  go_enter Tryz.func15, Tryz.ntmps15
  go_wp2_with fail
  refine HTc.out.mono ?_
  rintro e V ⟨y, rfl, hy, hfresh, hb⟩
  obtain ⟨B, d, rfl, hcells⟩ := hy
  have HC := Lib.hid hcells
  have HB := Lib.hid hb
  have HRV := Lib.hid (HRm.out V hb)
  have k1 := (hb.cell (p := ⟨rb, 1, none⟩) hlt).trans c1
  have k2 := (hb.cell (p := ⟨rb, 2, none⟩) hlt).trans c2
  have hl : (((L.map (·.1)).map encI).length) = L.length := by simp
  rw [hl]
  clear hcells hb hfresh hl HRm HTc
  go_wp2_with fail
  go_quiet (refine Calls.quiet_of (HRV.out _))
  go_wp2_with fail
  go_loopw [6] (fun q wr => ∃ k : Nat, k ≤ L.length ∧ q = .int .i64 k ∧ Below V.heap.size V wr) (fun q _ => L.length - (intOf q).toNat)
  case atStart => exact ⟨0, Nat.zero_le _, rfl, below_drewN (Below.refl _ _) _⟩
  case round =>
    obtain ⟨k, hk, rfl, hbw⟩ := hrel
    by_cases hkl : k < L.length
    · obtain ⟨g1, rfl, r0⟩ := HC.out k (encI L[k].1) (by simp [hkl])
      obtain ⟨g2, rfl, r1, -⟩ := HRow.out k hkl
      have q0 := (hbw.cell (World.block_lt_of_cell? V _ r0)).trans r0
      have r1' := (HB.out.cell (World.block_lt_of_cell? W _ r1)).trans r1
      have q1 := (hbw.cell (World.block_lt_of_cell? V _ r1')).trans r1'
      have q2 := (hbw.cell (World.block_lt_of_cell? V _ k1)).trans k1
      have HBw := Lib.hid hbw
      have hI : (k : Int) < (L.length : Int) := by omega
      clear r0 r1 r1' hbw
      generalize (L[k]).1 = x at *
      go_wp2_with fail
      go_quiet (fail)
      go_wp2_with fail
      go_roundw
      case rel => exact ⟨k + 1, by omega, by simp, below_drewN HBw.out _⟩
      case measure => simp [intOf]; omega
    · obtain rfl : k = L.length := by omega
      have HBw := Lib.hid hbw
      clear hbw
      go_wp2_with fail
      go_ret
      exact ⟨rfl, HW.out.below (HB.out.trans (HBw.out.mono HB.out.size))⟩
/-- What was tried of a transaction that is done. -/
theorem over8_any (tb : Nat) (W : World) (h : W.cell? ⟨tb, 3, none⟩ = some (.bool true)) : Calls Tryz.prog 22 #[devp tb] W fun e w' => e = .returned (.bool true) ∧ Below W.heap.size W w' := by
  have hlt := World.block_lt_of_cell? W _ h
  have HD := Lib.hid (fun V (hb : Below W.heap.size W V) => (hb.cell (p := ⟨tb, 3, none⟩) hlt).trans h)
  have B := Lib.hid (Below.refl W.heap.size W)
  clear h
  go_enter Tryz.func22, Tryz.ntmps22
  go_wp2_with fail
  refine (doneRead tb _ (HD.out _ B.out) 0).mono ?_
  rintro e w1 ⟨rfl, hb⟩
  have B := Lib.hid (B.out.trans (hb.mono B.out.size))
  clear hb
  go_wp2_with fail
  refine (doneCommit tb _ (HD.out _ B.out)).mono ?_
  rintro e w1 ⟨rfl, hb⟩
  have B := Lib.hid (B.out.trans (hb.mono B.out.size))
  clear hb
  go_wp2_with fail
  refine (full_any [] _ (by decide)).mono ?_
  rintro e w1 ⟨rfl, hb⟩
  have B := Lib.hid (B.out.trans (hb.mono B.out.size))
  clear hb
  generalize fullT [] = z
  go_wp2_with fail
  refine (doneWrite tb _ (HD.out _ B.out) 0 z).mono ?_
  rintro e w1 ⟨rfl, hb⟩
  have B := Lib.hid (B.out.trans (hb.mono B.out.size))
  clear hb
  go_wp2_with fail
  refine (donePatch tb _ (HD.out _ B.out) 0 0 []).mono ?_
  rintro e w1 ⟨rfl, hb⟩
  have B := Lib.hid (B.out.trans (hb.mono B.out.size))
  clear hb
  go_wp2_with fail
  refine (doneAbort tb _ (HD.out _ B.out)).mono ?_
  rintro e w1 ⟨rfl, hb⟩
  have B := Lib.hid (B.out.trans (hb.mono B.out.size))
  clear hb
  go_wp2_with fail
  refine (doneTouched tb _ (HD.out _ B.out)).mono ?_
  rintro e w1 ⟨rfl, hb⟩
  have B := Lib.hid (B.out.trans (hb.mono B.out.size))
  clear hb
  go_wp2_with fail
  refine (doneRoom tb _ (HD.out _ B.out)).mono ?_
  rintro e w1 ⟨rfl, hb⟩
  have B := Lib.hid (B.out.trans (hb.mono B.out.size))
  clear hb
  go_wp2_with fail
  go_ret
  exact ⟨rfl, B.out⟩
theorem nothing_any (W : World) : Calls Tryz.prog 11 #[] W fun e w' => e = .returned (.bool true) ∧ Below W.heap.size W w' := by
  have B := Lib.hid (Below.refl W.heap.size W)
  go_enter Tryz.func11, Tryz.ntmps11
  go_wp2_with fail
  refine (nilRead _ 0).mono ?_
  rintro e w1 ⟨rfl, hb⟩
  have B := Lib.hid (B.out.trans (hb.mono B.out.size))
  clear hb
  go_wp2_with fail
  refine (nilCommit _).mono ?_
  rintro e w1 ⟨rfl, hb⟩
  have B := Lib.hid (B.out.trans (hb.mono B.out.size))
  clear hb
  go_wp2_with fail
  refine (nilWrite _ 0 []).mono ?_
  rintro e w1 ⟨rfl, hb⟩
  have B := Lib.hid (B.out.trans (hb.mono B.out.size))
  clear hb
  go_wp2_with fail
  refine (nilPatch _ 0 0 []).mono ?_
  rintro e w1 ⟨rfl, hb⟩
  have B := Lib.hid (B.out.trans (hb.mono B.out.size))
  clear hb
  go_wp2_with fail
  refine (nilAbort _).mono ?_
  rintro e w1 ⟨rfl, hb⟩
  have B := Lib.hid (B.out.trans (hb.mono B.out.size))
  clear hb
  go_wp2_with fail
  refine (nilTouched _).mono ?_
  rintro e w1 ⟨rfl, hb⟩
  have B := Lib.hid (B.out.trans (hb.mono B.out.size))
  clear hb
  go_wp2_with fail
  refine (nilRoom _).mono ?_
  rintro e w1 ⟨rfl, hb⟩
  have B := Lib.hid (B.out.trans (hb.mono B.out.size))
  clear hb
  go_wp2_with fail
  go_ret
  exact ⟨rfl, B.out⟩
theorem keep8_any (N : Nat) (f g : Nat → List UInt8) (v u : Value) (w : World) (hv : Txt w v (secs N f)) (hu : Txt w u (secs N g)) (hN : N ≤ 4096) (hs : ∀ i, i < N → (i < 4 ∨ 16 ≤ i) → f i = g i) :
    Calls Tryz.prog 21 #[v, u] w fun e w' => e = .returned u ∧ Below w.heap.size w w' := by
  have HO := Lib.hid (outside_any N f g v u w hv hu hN)
  have HS := Lib.hid hs
  clear hs hv hu
  go_enter Tryz.func21, Tryz.ntmps21
  go_wp2_with fail
  refine HO.out.mono ?_
  rintro e w1 ⟨⟨r, rfl, hr⟩, hb⟩
  obtain rfl := hr HS.out
  have HB := Lib.hid hb
  clear hb hr
  go_wp2_with fail
  go_ret
  exact ⟨rfl, HB.out⟩
end
end Go.Proofs.YthgdkpkhnhjifaaGreat
