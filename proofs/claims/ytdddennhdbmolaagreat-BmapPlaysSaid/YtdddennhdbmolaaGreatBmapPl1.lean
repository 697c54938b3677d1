/- Layer 9 (bmap): a block's bytes, as the statements tell them. -/
import Derived.Test.YtdddennhdbmolaaGreatBmapL4
namespace Go.Proofs.YtdddennhdbmolaaGreat
open Go.RowKit Go.Maps Go.Lib
set_option linter.unusedVariables false
set_option linter.unusedSimpArgs false
set_option maxRecDepth 10000
/-- What 'told' answers. -/
def toldS (l : List Nat) : List UInt8 := if l.length ≤ 32 then tellL l else List.replicate 64 0
theorem toldS_length (l : List Nat) : (toldS l).length = 64 := by
  unfold toldS
  split
  · rename_i h; exact tellL_length l h
  · rw [List.length_replicate]
set_option maxHeartbeats 1000000 in
theorem told9_any (l : List Nat) (v : Value) (w : World) (hv : U16s w v l) (hlt : ∀ x ∈ l, x < 65536) (hl : l.length ≤ 140737488351232) :
    Calls Tryz.prog 42 #[v] w fun e w' => e = .returned (str (toldS l)) ∧ Below w.heap.size w w' := by
  unfold toldS
  by_cases h : l.length ≤ 32
  · rw [if_pos h]
    have HT := Lib.hid (refTell_ok l v w hv hlt h)
    clear hv hlt hl h
    generalize tellL l = s at *
    go_enter Tryz.func42, Tryz.ntmps42
    go_wp2_with fail
    refine HT.out.mono ?_
    rintro e w1 ⟨rfl, hb⟩
    have HB := Lib.hid hb
    clear hb
    go_wp2_with fail
    go_ret
    exact ⟨rfl, HB.out⟩
  · rw [if_neg h]
    have HT := Lib.hid (refTell_many l v w hv (by unfold maxLen; omega) (by omega))
    have hmk := Lib.hid fun W => make_noughts 64 (by omega) W
    have hcv := Lib.hid fun W => conv_noughts W 64 W.heap.size rfl
    clear hv hlt hl h
    generalize List.replicate 64 (0 : UInt8) = Z at *
    go_enter Tryz.func42, Tryz.ntmps42
    go_wp2_with fail
    refine HT.out.mono ?_
    rintro e w1 ⟨rfl, hb⟩
    have HB := Lib.hid (hb.alloc hb.size (.cells (byteCells Z) 5))
    clear hb
    have m1 : (Instr.makeSlice 89 (.int .i64 64) (.int .i64 64)).run Tryz.prog w1 = .ok (.slice (some ⟨w1.heap.size, 0, none⟩) 64 64) (w1.alloc (.cells (byteCells Z) 5)) := hmk.out w1
    have m2 := hcv.out w1
    go_wp2_with fail
    go_ret
    exact ⟨rfl, HB.out⟩
end Go.Proofs.YtdddennhdbmolaaGreat
/-! Layer 9 (bmap): the document's transaction over sectors of noughts. -/
namespace Go.Proofs.YtdddennhdbmolaaGreat
open Go.RowKit Go.Maps Go.Lib
set_option linter.unusedVariables false
set_option linter.unusedSimpArgs false
set_option maxRecDepth 10000
def RowS (W : World) (g : Nat) (ts : List (List UInt8)) : Prop := W.heap[g]? = some (.cells (ts.map str).toArray 9 (0, 0))
theorem make_texts (n : Nat) (hn : n ≤ 4096) (W : World) : (Instr.makeSlice 88 (.int .i64 (n : Int)) (.int .i64 (n : Int))).run Tryz.prog W = .ok (.slice (some ⟨W.heap.size, 0, none⟩) n n) (W.alloc (.cells ((List.replicate n ([] : List UInt8)).map str).toArray 9)) := by
  have hinfo : (Tryz.prog.info? 9).map (fun i => (i.zero, i.size, i.bytes)) = some (some (str []), 1, 16) := by kernel_rfl
  obtain ⟨i, hi, hz, hsz, hby⟩ := info_parts hinfo
  have hr := run_make (P := Tryz.prog) W 88 9 i _ Tryz.underlying88 hi hz .i64 .i64 n n (by omega) (by omega) (by rw [hby]; omega) (by omega)
  simp only [Int.toNat_natCast] at hr
  rw [hr, hsz, Nat.mul_one]
  have hm : madeCells (str []).cells n = ((List.replicate n ([] : List UInt8)).map str).toArray := by
    apply Array.ext'
    show (madeCells #[str []] n).toList = _
    rw [toList_madeCells_one]
    simp
  rw [hm]
theorem set_blank (N k : Nat) (hk : k < N) (Z : List UInt8) : (List.replicate k Z ++ List.replicate (N - k) []).set k Z = List.replicate (k + 1) Z ++ List.replicate (N - (k + 1)) ([] : List UInt8) := by
  rw [List.set_append_right _ _ (by simp), List.length_replicate, Nat.sub_self, List.replicate_succ', List.append_assoc]
  congr 1
  obtain ⟨m, hm⟩ : ∃ m, N - k = m + 1 := ⟨N - k - 1, by omega⟩
  rw [hm, List.replicate_succ, List.set_cons_zero, show N - (k + 1) = m by omega]
  rfl
section
variable {w W : World} {rs : List Res}
theorem ref_new9 (h : Sys w W rs) (v : Value) (most : Nat) : Sys w (W.alloc (.cells #[v, .slice none 0 0, .int .i64 (most : Int), .bool false] 92)) (rs ++ [refR W.heap.size v [] most]) := by
  have hnew := heap_alloc_new W (.cells #[v, .slice none 0 0, .int .i64 (most : Int), .bool false] 92)
  refine h.push ((Below.refl _ W).alloc (Nat.le_refl _) _) (T := fun k => k = W.heap.size) ⟨.slice none 0 0, ⟨cell_of_row _ _ 0 _ _ _ hnew, cell_of_row _ _ 1 _ _ _ hnew, cell_of_row _ _ 2 _ _ _ hnew, cell_of_row _ _ 3 _ _ _ hnew, frozen_of_row _ _ 1 _ _ hnew, frozen_of_row _ _ 3 _ _ hnew, ⟨rfl, .inl ⟨rfl, rfl⟩⟩, fun k hk => by (cases hk), asc_nil, Nat.zero_le _⟩, fun k => ⟨fun e => .inl e, fun e => ?_⟩⟩ fun k hk => by omega
  rcases e with e | e
  · exact e
  · cases e
set_option maxHeartbeats 1000000 in
/-- The document's transaction over sectors of noughts. -/
theorem blank9_any (h : Sys w W rs) (N : Nat) (hN : N ≤ 4096) : Calls Tryz.prog 17 #[.int .i64 (N : Int)] W fun e w' => ∃ rb v, e = .returned (devp rb) ∧ Sys w w' (rs ++ [txtR v (secs N (dev0 N).cur)] ++ [refR rb v [] 37]) := by
  have HM := Lib.hid (make_texts N hN W)
  have hmk := Lib.hid fun W => make_noughts 64 (by omega) W
  have hcv := Lib.hid fun W => conv_noughts W 64 W.heap.size rfl
  have h0 : RowS (W.alloc (.cells ((List.replicate N ([] : List UInt8)).map str).toArray 9)) W.heap.size (List.replicate 0 (List.replicate 64 0) ++ List.replicate (N - 0) []) := by
    show _ = _
    simp only [List.replicate_zero, List.nil_append, Nat.sub_zero]
    exact heap_alloc_new W _
  have hb0 : Below W.heap.size W (W.alloc (.cells ((List.replicate N ([] : List UInt8)).map str).toArray 9)) := (Below.refl _ _).alloc (Nat.le_refl _) _
  have hcur : secs N (dev0 N).cur = List.replicate N (List.replicate 64 0) := by
    unfold secs
    rw [show (dev0 N).cur = fun _ => List.replicate 64 0 from rfl, List.map_const', List.length_range]
  rw [hcur]
  generalize List.replicate 64 (0 : UInt8) = Z at *
  have H0 := Lib.hid h0
  have HB0 := Lib.hid hb0
  have m0 := HM.out
  clear h0 hb0 hcur HM
  generalize (W.alloc (.cells ((List.replicate N ([] : List UInt8)).map str).toArray 9)) = W0 at *
  obtain ⟨g, hg⟩ : ∃ g, g = W.heap.size := ⟨_, rfl⟩
  rw [← hg] at m0 H0 HB0
  have HG := Lib.hid hg
  clear hg
  go_enter Tryz.func17, Tryz.ntmps17
  go_wp2_with fail
  clear m0
  go_loopw [4] (fun i wr => ∃ k : Nat, k ≤ N ∧ i = .int .i64 k ∧ RowS wr g (List.replicate k Z ++ List.replicate (N - k) []) ∧ Below g W wr) (fun i _ => N - (Go.RowKit.intOf i).toNat)
  case atStart => exact ⟨0, Nat.zero_le _, rfl, H0.out, HB0.out⟩
  case round =>
    clear H0 HB0
    obtain ⟨k, hk, rfl, hr, hb⟩ := hrel
    by_cases hlt : k < N
    · have m1 : (Instr.makeSlice 89 (.int .i64 64) (.int .i64 64)).run Tryz.prog wr = .ok (.slice (some ⟨wr.heap.size, 0, none⟩) 64 64) (wr.alloc (.cells (byteCells Z) 5)) := hmk.out wr
      have m2 := hcv.out wr
      have ha : Below wr.heap.size wr (wr.alloc (.cells (byteCells Z) 5)) := (Below.refl _ _).alloc (Nat.le_refl _) _
      have hr2 : RowS (wr.alloc (.cells (byteCells Z) 5)) g (List.replicate k Z ++ List.replicate (N - k) []) := (ha.block g (Array.getElem?_eq_some_iff.1 hr).1).trans hr
      have hb2 := hb.trans (ha.mono (by have := hb.size; have := HG.out; omega))
      obtain ⟨c0, rc⟩ : ∃ c0, (wr.alloc (.cells (byteCells Z) 5)).cell? ⟨g, k, none⟩ = some c0 := by
        refine ⟨_, (cell_of_row _ g k _ _ _ hr2).trans (List.getElem?_toArray.trans (List.getElem?_eq_getElem ?_))⟩
        simp; omega
      have rf := frozen_of_row _ _ k _ _ hr2
      have hr3 : RowS ((wr.alloc (.cells (byteCells Z) 5)).setCell ⟨g, k, none⟩ (str Z)) g (List.replicate (k + 1) Z ++ List.replicate (N - (k + 1)) []) := by
        rw [← set_blank N k hlt Z]
        unfold RowS at hr2 ⊢
        rw [heap_setCell_same _ g k _ _ _ hr2]
        congr 3
        simp [List.map_set]
      have hb3 : Below g W ((wr.alloc (.cells (byteCells Z) 5)).setCell ⟨g, k, none⟩ (str Z)) := hb2.setCell (Nat.le_refl _) _
      have hkI : (k : Int) < (N : Int) := by omega
      have HR3 := Lib.hid hr3
      have HB3 := Lib.hid hb3
      clear hr3 hb3 hr2 hb2 ha hr hb
      go_wp2_with fail
      go_roundw
      case rel => exact ⟨k + 1, by omega, by simp, HR3.out, HB3.out⟩
      case measure => simp [Go.RowKit.intOf]; omega
    · obtain rfl : k = N := by omega
      have hr2 : RowS wr g (List.replicate k Z) := by simpa using hr
      have HR := Lib.hid hr2
      have HB := Lib.hid hb
      clear hr hr2 hb
      go_wp2_with fail
      go_ret
      have hT : Txt wr (.slice (some ⟨g, 0, none⟩) k k) (List.replicate k Z) := ⟨some ⟨g, 0, none⟩, k, by simp, fun j u hj => ⟨g, rfl, by
        rw [cell_of_row _ g j _ _ _ HR.out, List.getElem?_toArray]; exact hj⟩⟩
      have hlt := (Array.getElem?_eq_some_iff.1 HR.out).1
      have s1 := h.addMem (p := fun W => Txt W (.slice (some ⟨g, 0, none⟩) k k) (List.replicate k Z)) (hp := fun W W' h hb => Row.kept h hb) (own := fun k' => (Value.slice (some ⟨g, 0, none⟩) k k).ownBlock = some k') (by have := HB.out; rwa [HG.out] at this) hT fun k' hk' => by
        have : g = k' := by simpa [Value.ownBlock] using hk'
        have := HG.out
        omega
      refine ⟨_, .slice (some ⟨g, 0, none⟩) k k, rfl, ?_⟩
      exact ref_new9 s1 _ 37
end
end Go.Proofs.YtdddennhdbmolaaGreat
/-! Layer 9 (bmap): both sides, a step at a time. -/
namespace Go.Proofs.YtdddennhdbmolaaGreat
open Go.RowKit Go.Maps Go.Lib
set_option linter.unusedVariables false
set_option linter.unusedSimpArgs false
set_option maxRecDepth 10000
section
variable {w W : World} {rs : List Res} {t i j r q tb b jb rb F n rec : Nat} {v : Value} {M : Dv} {L L' : PutL} {G : Gm}
theorem RefSys.other9 {N most : Nat} {f : Nat → List UInt8} (h : RefSys w W rs r q rb v N most f L) {W' : World} {x : Res} (hs : Sys w W' (rs.set t x)) (h1 : t ≠ r) (h2 : t ≠ q) : RefSys w W' (rs.set t x) r q rb v N most f L :=
  ⟨hs, by rw [List.getElem?_set_ne h1]; exact h.hr, by rw [List.getElem?_set_ne h2]; exact h.hq, h.rq, h.small, h.big, h.ok, h.each⟩
theorem TxSys.other9 (h : TxSys w W rs t i j tb b jb F n rec M L) {W' : World} {x : Res} (hs : Sys w W' (rs.set r x)) (h1 : t ≠ r) (h2 : i ≠ r) (h3 : j ≠ r) : TxSys w W' (rs.set r x) t i j tb b jb F n rec M L :=
  ⟨hs, by rw [List.getElem?_set_ne (fun e => h1 e.symm)]; exact h.ht, by rw [List.getElem?_set_ne (fun e => h2 e.symm)]; exact h.hi, by rw [List.getElem?_set_ne (fun e => h3 e.symm)]; exact h.hj, h.ti, h.tj, h.ij, h.up, h.wr, h.h4, h.h256, h.ok⟩
/-- The transaction has written L', the document's L. -/
structure Half9 (w W : World) (rs : List Res) (t i j r q tb b jb rb F n rec : Nat) (v : Value) (M : Dv) (L L' : PutL) : Prop where
  tx : TxSys w W rs t i j tb b jb F n rec M L'
  ref : RefSys w W rs r q rb v M.n (capL n) M.cur L
  tr : t ≠ r
  tq : t ≠ q
  ri : i ≠ r
  rj : j ≠ r
theorem Half9.below (h : Half9 w W rs t i j r q tb b jb rb F n rec v M L L') {W' : World} (hb : Below W.heap.size W W') : Half9 w W' rs t i j r q tb b jb rb F n rec v M L L' := { h with tx := h.tx.below hb, ref := h.ref.below hb }
theorem both9_set (h : Half9 w W rs t i j r q tb b jb rb F n rec v M L L) (hG : G.ok) (hN : M.n = G.all) (x : Im) (hxf : x.fits) (p : Int) (c : Nat) (hc : c < 65536) :
    Calls Tryz.prog 10 #[devp tb, gv G, x.v, .int .i64 p, w16 c] W fun e w' => e = .returned (.tuple #[(stX x p c (stE M.n (capL n) G M.cur L x p c)).v, .int .i64 (stE M.n (capL n) G M.cur L x p c)]) ∧ Half9 w w' (rs.set t (txR tb b jb M.n (stL M.n (capL n) G M.cur L x p c))) t i j r q tb b jb rb F n rec v M L (stL M.n (capL n) G M.cur L x p c) :=
  (bset_tx h.tx hG hN x hxf p c hc).mono fun e w' hx => ⟨hx.1, hx.2, h.ref.other9 hx.2.sys h.tr h.tq, h.tr, h.tq, h.ri, h.rj⟩
theorem half9_set {x : Im} {p : Int} {c : Nat} (hL : L' = stL M.n (capL n) G M.cur L x p c) (h : Half9 w W rs t i j r q tb b jb rb F n rec v M L L') (hG : G.ok) (hN : M.n = G.all) (hxf : x.fits) (hc : c < 65536) :
    Calls Tryz.prog 37 #[devp rb, gv G, x.v, .int .i64 p, w16 c] W fun e w' => e = .returned (.tuple #[(stX x p c (stE M.n (capL n) G M.cur L x p c)).v, .int .i64 (stE M.n (capL n) G M.cur L x p c)]) ∧ Half9 w w' (rs.set r (refR rb v L' (capL n))) t i j r q tb b jb rb F n rec v M L' L' := by
  subst hL
  exact (rset_ref h.ref hG hN x hxf p c hc).mono fun e w' hx => ⟨hx.1, h.tx.other9 hx.2.sys h.tr h.ri h.rj, hx.2, h.tr, h.tq, h.ri, h.rj⟩
theorem both9_beg (h : Half9 w W rs t i j r q tb b jb rb F n rec v M L L) (hG : G.ok) (x : Im) (hxf : x.fits) (c : Nat) (hc : c < 65536) :
    Calls Tryz.prog 11 #[devp tb, gv G, x.v, w16 c] W fun e w' => e = .returned (.tuple #[(bgX x c (bgE M.n (capL n) G L x c)).v, .int .i64 (bgE M.n (capL n) G L x c)]) ∧ Half9 w w' (rs.set t (txR tb b jb M.n (bgL M.n (capL n) G L x c))) t i j r q tb b jb rb F n rec v M L (bgL M.n (capL n) G L x c) :=
  (bbeg_tx h.tx hG x hxf c hc).mono fun e w' hx => ⟨hx.1, hx.2, h.ref.other9 hx.2.sys h.tr h.tq, h.tr, h.tq, h.ri, h.rj⟩
theorem half9_beg {x : Im} {c : Nat} (hL : L' = bgL M.n (capL n) G L x c) (h : Half9 w W rs t i j r q tb b jb rb F n rec v M L L') (hG : G.ok) (hxf : x.fits) (hc : c < 65536) :
    Calls Tryz.prog 38 #[devp rb, gv G, x.v, w16 c] W fun e w' => e = .returned (.tuple #[(bgX x c (bgE M.n (capL n) G L x c)).v, .int .i64 (bgE M.n (capL n) G L x c)]) ∧ Half9 w w' (rs.set r (refR rb v L' (capL n))) t i j r q tb b jb rb F n rec v M L' L' := by
  subst hL
  exact (rbeg_ref h.ref hG x hxf c hc).mono fun e w' hx => ⟨hx.1, h.tx.other9 hx.2.sys h.tr h.ri h.rj, hx.2, h.tr, h.tq, h.ri, h.rj⟩
theorem both9_cut (h : Half9 w W rs t i j r q tb b jb rb F n rec v M L L) (hG : G.ok) (hN : M.n = G.all) (x : Im) (hxf : x.fits) (p : Int) :
    Calls Tryz.prog 13 #[devp tb, gv G, x.v, .int .i64 p] W fun e w' => ∃ s, e = .returned (.tuple #[(ctX x p (ctE M.n (capL n) G M.cur L x p)).v, s, .int .i64 (ctE M.n (capL n) G M.cur L x p)]) ∧ U16s w' s (ctF G M.cur L x p (ctE M.n (capL n) G M.cur L x p)) ∧ (∀ k, s.ownBlock = some k → k ≠ rb) ∧ Half9 w w' (rs.set t (txR tb b jb M.n (ctL M.n (capL n) G M.cur L x p))) t i j r q tb b jb rb F n rec v M L (ctL M.n (capL n) G M.cur L x p) :=
  (bcut_txk h.tx hG hN x hxf p).mono fun e w' hx => by
    obtain ⟨s, h1, h2, hfr, -, h3⟩ := hx
    obtain ⟨u, hR, -⟩ := h.ref.on
    exact ⟨s, h1, h2, fun k hk e => (by have := hfr k hk; have := hR.lt.1; omega), h3, h.ref.other9 h3.sys h.tr h.tq, h.tr, h.tq, h.ri, h.rj⟩
theorem U16s.other9 {W W' : World} {u : Value} {k : List Nat} {b : Nat} (h : U16s W u k) (hn : ∀ m, u.ownBlock = some m → m ≠ b) (ho : Only (fun k => k = b) W W') : U16s W' u k :=
  h.kept' fun m hm hl => ho.block m hl (hn m hm)
theorem half9_cut {x : Im} {p : Int} {s : Value} {fl : List Nat} (hL : L' = ctL M.n (capL n) G M.cur L x p) (h : Half9 w W rs t i j r q tb b jb rb F n rec v M L L') (hG : G.ok) (hN : M.n = G.all) (hxf : x.fits) (hs : U16s W s fl) (hfr : ∀ k, s.ownBlock = some k → k ≠ rb) :
    Calls Tryz.prog 39 #[devp rb, gv G, x.v, .int .i64 p] W fun e w' => ∃ u, e = .returned (.tuple #[(ctX x p (ctE M.n (capL n) G M.cur L x p)).v, u, .int .i64 (ctE M.n (capL n) G M.cur L x p)]) ∧ U16s w' u (ctF G M.cur L x p (ctE M.n (capL n) G M.cur L x p)) ∧ U16s w' s fl ∧ Half9 w w' (rs.set r (refR rb v L' (capL n))) t i j r q tb b jb rb F n rec v M L' L' := by
  subst hL
  refine (rcut_ref h.ref hG hN x hxf p).mono fun e w' hx => ?_
  obtain ⟨u, h1, h2, -, ho, h3⟩ := hx
  exact ⟨u, h1, h2, hs.other9 hfr ho, h.tx.other9 h3.sys h.tr h.ri h.rj, h3, h.tr, h.tq, h.ri, h.rj⟩
theorem both9_write (h : Half9 w W rs t i j r q tb b jb rb F n rec v M L L) (k : Int) (s : List UInt8) (hs : s.length ≤ 140737488351232) :
    Calls Tryz.prog 41 #[devp tb, .int .i64 k, str s] W fun e w' => e = .returned (.int .i64 (wrE M.n (capL n) L k s)) ∧ Half9 w w' (rs.set t (txR tb b jb M.n (wrL M.n (capL n) L k s))) t i j r q tb b jb rb F n rec v M L (wrL M.n (capL n) L k s) :=
  (sys_txWrite h.tx k s hs).mono fun e w' hx => ⟨hx.1, hx.2, h.ref.other9 hx.2.sys h.tr h.tq, h.tr, h.tq, h.ri, h.rj⟩
theorem half9_write {k : Int} {s : List UInt8} (hL : L' = wrL M.n (capL n) L k s) (h : Half9 w W rs t i j r q tb b jb rb F n rec v M L L') (hs : s.length ≤ 140737488351232) :
    Calls Tryz.prog 43 #[devp rb, .int .i64 k, str s] W fun e w' => e = .returned (.int .i64 (wrE M.n (capL n) L k s)) ∧ Half9 w w' (rs.set r (refR rb v L' (capL n))) t i j r q tb b jb rb F n rec v M L' L' := by
  subst hL
  exact (sys_refWrite h.ref k s hs).mono fun e w' hx => ⟨hx.1, h.tx.other9 hx.2.sys h.tr h.ri h.rj, hx.2, h.tr, h.tq, h.ri, h.rj⟩
end
/-! The two, with anything behind them. -/
def plR (b jb tb rb N : Nat) (v : Value) (L L' : PutL) (qs : List Res) : List Res := devR b (dev0 N) :: jourR jb b 1 40 0 :: txR tb b jb N L' :: txtR v (secs N (dev0 N).cur) :: refR rb v L (capL 40) :: qs
def Pl (w W : World) (b jb tb rb : Nat) (v : Value) (G : Gm) (L L' : PutL) (qs : List Res) : Prop := Half9 w W (plR b jb tb rb G.all v L L' qs) 2 0 1 4 3 tb b jb rb 1 40 0 v (dev0 G.all) L L'
section
variable {w W : World} {b jb tb rb : Nat} {v : Value} {G : Gm} {L L' : PutL} {qs : List Res}
theorem Pl.sys (h : Pl w W b jb tb rb v G L L' qs) : Sys w W (plR b jb tb rb G.all v L L' qs) := h.tx.sys
theorem Pl.below (h : Pl w W b jb tb rb v G L L' qs) {W' : World} (hb : Below W.heap.size W W') : Pl w W' b jb tb rb v G L L' qs := Half9.below h hb
theorem Pl.with (h : Pl w W b jb tb rb v G L L' qs) {W' : World} {qs' : List Res} (hs : Sys w W' (plR b jb tb rb G.all v L L' qs')) : Pl w W' b jb tb rb v G L L' qs' :=
  { h with tx := { h.tx with sys := hs, ht := rfl, hi := rfl, hj := rfl }, ref := { h.ref with sys := hs, hr := rfl, hq := rfl } }
theorem Pl.ino (h : Pl w W b jb tb rb v G L L' qs) (x : Im) : Pl w (W.alloc (.cells #[.int .u8 x.k, w16 x.n, .int .u32 x.z, w16 x.d0, w16 x.d1, w16 x.d2, w16 x.d3, w16 x.i] 28)) b jb tb rb v G L L' (qs ++ [inoR W.heap.size x]) := h.with (h.sys.ino x)
theorem Pl.geo (h : Pl w W b jb tb rb v G L L' qs) (i j k : Int) : Pl w (W.alloc (.cells #[.int .i64 i, .int .i64 j, .int .i64 k] 23)) b jb tb rb v G L L' (qs ++ [geoR W.heap.size i j k]) := h.with (h.sys.geo i j k)
theorem Pl.take (h : Pl w W b jb tb rb v G L L' qs) (m : Nat) : Pl w W b jb tb rb v G L L' (qs.take m) := h.with (h.sys.take (m + 5))
theorem Pl.all (h : Pl w W b jb tb rb v G L L' qs) : Below w.heap.size w W := h.sys.all
/-- An inode's box, stored into. -/
theorem Pl.setIno (h : Pl w W b jb tb rb v G L L' qs) {i p : Nat} {x : Im} (hi : qs[i]? = some (inoR p x)) (y : Im) : Pl w ((((((((W.setCell ⟨p, 0, none⟩ (.int .u8 y.k)).setCell ⟨p, 1, none⟩ (w16 y.n)).setCell ⟨p, 2, none⟩ (.int .u32 y.z)).setCell ⟨p, 3, none⟩ (w16 y.d0)).setCell ⟨p, 4, none⟩ (w16 y.d1)).setCell ⟨p, 5, none⟩ (w16 y.d2)).setCell ⟨p, 6, none⟩ (w16 y.d3)).setCell ⟨p, 7, none⟩ (w16 y.i)) b jb tb rb v G L L' (qs.set i (inoR p y)) :=
  h.with (al_store h.sys (i := i + 5) hi y)
theorem pl_get (h : Pl w W b jb tb rb v G L L qs) (hG : G.ok) (x : Im) (hxf : x.fits) (p : Int) :
    Calls Tryz.prog 16 #[devp tb, gv G, x.v, .int .i64 p] W fun e w' => e = .returned (.tuple #[w16 (gtV G (dev0 G.all).cur L x p), .int .i64 (gtE G x p)]) ∧ Pl w w' b jb tb rb v G L L qs :=
  (bget_tx h.tx hG rfl x hxf p).mono fun e w' hx => ⟨hx.1, h.below hx.2⟩
theorem pl_rget (h : Pl w W b jb tb rb v G L L qs) (hG : G.ok) (x : Im) (hxf : x.fits) (p : Int) :
    Calls Tryz.prog 35 #[devp rb, gv G, x.v, .int .i64 p] W fun e w' => e = .returned (.tuple #[w16 (gtV G (dev0 G.all).cur L x p), .int .i64 (gtE G x p)]) ∧ Pl w w' b jb tb rb v G L L qs :=
  (rget_ref h.ref hG rfl x hxf p).mono fun e w' hx => ⟨hx.1, h.below hx.2⟩
theorem pl_all (h : Pl w W b jb tb rb v G L L qs) (hG : G.ok) (x : Im) (hxf : x.fits) :
    Calls Tryz.prog 12 #[devp tb, gv G, x.v] W fun e w' => ∃ s, e = .returned (.tuple #[s, .int .i64 (ctE G.all (capL 40) G (dev0 G.all).cur L x 0)]) ∧ U16s w' s (ctF G (dev0 G.all).cur L x 0 (ctE G.all (capL 40) G (dev0 G.all).cur L x 0)) ∧ Pl w w' b jb tb rb v G L L qs :=
  (ball_tx h.tx hG rfl x hxf).mono fun e w' hx => by
    obtain ⟨s, h1, h2, h3⟩ := hx
    exact ⟨s, h1, h2, h.below h3⟩
theorem pl_rall (h : Pl w W b jb tb rb v G L L qs) (hG : G.ok) (x : Im) (hxf : x.fits) {s : Value} {fl : List Nat} (hs : U16s W s fl) :
    Calls Tryz.prog 36 #[devp rb, gv G, x.v] W fun e w' => ∃ u, e = .returned (.tuple #[u, .int .i64 (ctE G.all (capL 40) G (dev0 G.all).cur L x 0)]) ∧ U16s w' u (ctF G (dev0 G.all).cur L x 0 (ctE G.all (capL 40) G (dev0 G.all).cur L x 0)) ∧ U16s w' s fl ∧ Pl w w' b jb tb rb v G L L qs :=
  (rall_ref h.ref hG rfl x hxf).mono fun e w' hx => by
    obtain ⟨u, h1, h2, h3⟩ := hx
    exact ⟨u, h1, h2, hs.below9 h3, h.below h3⟩
theorem pl_set (h : Pl w W b jb tb rb v G L L qs) (hG : G.ok) (x : Im) (hxf : x.fits) (p : Int) (c : Nat) (hc : c < 65536) :
    Calls Tryz.prog 10 #[devp tb, gv G, x.v, .int .i64 p, w16 c] W fun e w' => e = .returned (.tuple #[(stX x p c (stE G.all (capL 40) G (dev0 G.all).cur L x p c)).v, .int .i64 (stE G.all (capL 40) G (dev0 G.all).cur L x p c)]) ∧ Pl w w' b jb tb rb v G L (stL G.all (capL 40) G (dev0 G.all).cur L x p c) qs :=
  both9_set h hG rfl x hxf p c hc
theorem pl_rset {x : Im} {p : Int} {c : Nat} (hL : L' = stL G.all (capL 40) G (dev0 G.all).cur L x p c) (h : Pl w W b jb tb rb v G L L' qs) (hG : G.ok) (hxf : x.fits) (hc : c < 65536) :
    Calls Tryz.prog 37 #[devp rb, gv G, x.v, .int .i64 p, w16 c] W fun e w' => e = .returned (.tuple #[(stX x p c (stE G.all (capL 40) G (dev0 G.all).cur L x p c)).v, .int .i64 (stE G.all (capL 40) G (dev0 G.all).cur L x p c)]) ∧ Pl w w' b jb tb rb v G L' L' qs :=
  half9_set (M := dev0 G.all) (n := 40) hL h hG rfl hxf hc
theorem pl_beg (h : Pl w W b jb tb rb v G L L qs) (hG : G.ok) (x : Im) (hxf : x.fits) (c : Nat) (hc : c < 65536) :
    Calls Tryz.prog 11 #[devp tb, gv G, x.v, w16 c] W fun e w' => e = .returned (.tuple #[(bgX x c (bgE G.all (capL 40) G L x c)).v, .int .i64 (bgE G.all (capL 40) G L x c)]) ∧ Pl w w' b jb tb rb v G L (bgL G.all (capL 40) G L x c) qs :=
  both9_beg h hG x hxf c hc
theorem pl_rbeg {x : Im} {c : Nat} (hL : L' = bgL G.all (capL 40) G L x c) (h : Pl w W b jb tb rb v G L L' qs) (hG : G.ok) (hxf : x.fits) (hc : c < 65536) :
    Calls Tryz.prog 38 #[devp rb, gv G, x.v, w16 c] W fun e w' => e = .returned (.tuple #[(bgX x c (bgE G.all (capL 40) G L x c)).v, .int .i64 (bgE G.all (capL 40) G L x c)]) ∧ Pl w w' b jb tb rb v G L' L' qs :=
  half9_beg (M := dev0 G.all) (n := 40) hL h hG hxf hc
theorem pl_cut (h : Pl w W b jb tb rb v G L L qs) (hG : G.ok) (x : Im) (hxf : x.fits) (p : Int) :
    Calls Tryz.prog 13 #[devp tb, gv G, x.v, .int .i64 p] W fun e w' => ∃ s, e = .returned (.tuple #[(ctX x p (ctE G.all (capL 40) G (dev0 G.all).cur L x p)).v, s, .int .i64 (ctE G.all (capL 40) G (dev0 G.all).cur L x p)]) ∧ U16s w' s (ctF G (dev0 G.all).cur L x p (ctE G.all (capL 40) G (dev0 G.all).cur L x p)) ∧ (∀ k, s.ownBlock = some k → k ≠ rb) ∧ Pl w w' b jb tb rb v G L (ctL G.all (capL 40) G (dev0 G.all).cur L x p) qs :=
  both9_cut h hG rfl x hxf p
theorem pl_rcut {x : Im} {p : Int} {s : Value} {fl : List Nat} (hL : L' = ctL G.all (capL 40) G (dev0 G.all).cur L x p) (h : Pl w W b jb tb rb v G L L' qs) (hG : G.ok) (hxf : x.fits) (hs : U16s W s fl) (hfr : ∀ k, s.ownBlock = some k → k ≠ rb) :
    Calls Tryz.prog 39 #[devp rb, gv G, x.v, .int .i64 p] W fun e w' => ∃ u, e = .returned (.tuple #[(ctX x p (ctE G.all (capL 40) G (dev0 G.all).cur L x p)).v, u, .int .i64 (ctE G.all (capL 40) G (dev0 G.all).cur L x p)]) ∧ U16s w' u (ctF G (dev0 G.all).cur L x p (ctE G.all (capL 40) G (dev0 G.all).cur L x p)) ∧ U16s w' s fl ∧ Pl w w' b jb tb rb v G L' L' qs :=
  half9_cut (M := dev0 G.all) (n := 40) hL h hG rfl hxf hs hfr
theorem pl_write (h : Pl w W b jb tb rb v G L L qs) (k : Int) (s : List UInt8) (hs : s.length ≤ 140737488351232) :
    Calls Tryz.prog 41 #[devp tb, .int .i64 k, str s] W fun e w' => e = .returned (.int .i64 (wrE G.all (capL 40) L k s)) ∧ Pl w w' b jb tb rb v G L (wrL G.all (capL 40) L k s) qs :=
  both9_write h k s hs
theorem pl_rwrite {k : Int} {s : List UInt8} (hL : L' = wrL G.all (capL 40) L k s) (h : Pl w W b jb tb rb v G L L' qs) (hs : s.length ≤ 140737488351232) :
    Calls Tryz.prog 43 #[devp rb, .int .i64 k, str s] W fun e w' => e = .returned (.int .i64 (wrE G.all (capL 40) L k s)) ∧ Pl w w' b jb tb rb v G L' L' qs :=
  half9_write (M := dev0 G.all) (n := 40) hL h hs
end
end Go.Proofs.YtdddennhdbmolaaGreat
/-! Layer 9 (bmap): both sides, with boxes ahead of what lies behind them. -/
namespace Go.Proofs.YtdddennhdbmolaaGreat
open Go.RowKit Go.Maps Go.Lib
set_option linter.unusedVariables false
set_option linter.unusedSimpArgs false
set_option maxRecDepth 10000
attribute [local go_sem ↓] ino_store_fold
section
variable {w W : World} {rs : List Res}
/-- The same things in another order, or some of them. -/
theorem Sys.ren (h : Sys w W rs) (qs : List Res) (f : Nat → Nat) (hinj : ∀ a b, a < qs.length → b < qs.length → f a = f b → a = b) (hq : ∀ j, j < qs.length → qs[j]? = rs[f j]?) : Sys w W qs := by
  obtain ⟨S, h⟩ := h
  have hlt : ∀ j, j < qs.length → f j < rs.length := fun j hj => by
    have h1 := hq j hj
    rw [List.getElem?_eq_getElem hj] at h1
    exact idx_lt h1.symm
  exact ⟨fun j => S (f j), h.keeps, fun j r hj => h.at_ _ _ ((hq j (idx_lt hj)).symm.trans hj), fun j hj k hk => h.new _ (hlt j hj) k hk, fun a b ha hb hne k hk hk2 => h.apart _ _ (hlt a ha) (hlt b hb) (fun e => hne (hinj a b ha hb e)) k hk hk2⟩
theorem Sys.front {A B : List Res} {x : Res} (h : Sys w W (A ++ B ++ [x])) : Sys w W (A ++ x :: B) := by
  refine h.ren _ (fun j => if j < A.length then j else if j = A.length then A.length + B.length else j - 1) (fun a b ha hb e => ?_) (fun j hj => ?_)
  · simp only [List.length_append, List.length_cons] at ha hb
    split at e <;> split at e <;> (try split at e) <;> (try split at e) <;> omega
  · simp only [List.length_append, List.length_cons] at hj
    by_cases h1 : j < A.length
    · simp only [if_pos h1]
      rw [List.getElem?_append_left h1, List.append_assoc, List.getElem?_append_left h1]
    · by_cases h2 : j = A.length
      · subst h2
        simp
      · simp only [if_neg h1, if_neg h2]
        obtain ⟨k, rfl⟩ : ∃ k, j = A.length + (k + 1) := ⟨j - A.length - 1, by omega⟩
        rw [List.getElem?_append_right (by omega), show A.length + (k + 1) - A.length = k + 1 by omega, List.getElem?_cons_succ, show A.length + (k + 1) - 1 = A.length + k by omega, List.getElem?_append_left (by rw [List.length_append]; omega), List.getElem?_append_right (by omega), show A.length + k - A.length = k by omega]
theorem Sys.unfront {A B : List Res} {x : Res} (h : Sys w W (A ++ x :: B)) : Sys w W (A ++ B) := by
  refine h.ren _ (fun j => if j < A.length then j else j + 1) (fun a b ha hb e => ?_) (fun j hj => ?_)
  · split at e <;> split at e <;> omega
  · by_cases h1 : j < A.length
    · simp only [if_pos h1]
      rw [List.getElem?_append_left h1, List.getElem?_append_left h1]
    · simp only [if_neg h1]
      obtain ⟨k, rfl⟩ : ∃ k, j = A.length + k := ⟨j - A.length, by omega⟩
      rw [List.getElem?_append_right (by omega), List.getElem?_append_right (by omega), show A.length + k - A.length = k by omega, show A.length + k + 1 - A.length = k + 1 by omega, List.getElem?_cons_succ]
end
section
variable {w W : World} {b jb tb rb : Nat} {v : Value} {G : Gm} {L L' : PutL} {qs : List Res} {x : Res}
theorem Pl.front (h : Pl w W b jb tb rb v G L L' qs) {W' : World} (hs : Sys w W' (plR b jb tb rb G.all v L L' qs ++ [x])) : Pl w W' b jb tb rb v G L L' (x :: qs) :=
  h.with (Sys.front (A := [devR b (dev0 G.all), jourR jb b 1 40 0, txR tb b jb G.all L', txtR v (secs G.all (dev0 G.all).cur), refR rb v L (capL 40)]) (B := qs) hs)
theorem Pl.drop (h : Pl w W b jb tb rb v G L L' (x :: qs)) : Pl w W b jb tb rb v G L L' qs :=
  h.with (Sys.unfront (A := [devR b (dev0 G.all), jourR jb b 1 40 0, txR tb b jb G.all L', txtR v (secs G.all (dev0 G.all).cur), refR rb v L (capL 40)]) (B := qs) h.sys)
theorem Pl.fino (h : Pl w W b jb tb rb v G L L' qs) (x : Im) : Pl w (W.alloc (.cells #[.int .u8 x.k, w16 x.n, .int .u32 x.z, w16 x.d0, w16 x.d1, w16 x.d2, w16 x.d3, w16 x.i] 28)) b jb tb rb v G L L' (inoR W.heap.size x :: qs) := h.front (h.sys.ino x)
theorem Pl.fgeo (h : Pl w W b jb tb rb v G L L' qs) (i j k : Int) : Pl w (W.alloc (.cells #[.int .i64 i, .int .i64 j, .int .i64 k] 23)) b jb tb rb v G L L' (geoR W.heap.size i j k :: qs) := h.front (h.sys.geo i j k)
/-- An inode stored into its box, folded. -/
theorem Pl.put (h : Pl w W b jb tb rb v G L L' qs) {i p : Nat} {x : Im} (hi : qs[i]? = some (inoR p x)) (y : Im) : ∃ W', (inoStore (.pointer (some ⟨p, 0, none⟩)) y.v).run Tryz.prog W = .ok () W' ∧ Pl w W' b jb tb rb v G L L' (qs.set i (inoR p y)) ∧ Only (fun k => k = p) W W' := by
  obtain ⟨W', h1, h2, h3⟩ := h.sys.setIno (i := i + 5) hi y
  exact ⟨W', h1, h.with h2, h3⟩
end
/-! A step in a box of its own. -/
def stepAt9 (W : World) (p : Nat) (x : BSt) (sv : Value) : Prop := W.cell? ⟨p, 0, none⟩ = some (.int .i64 x.do_) ∧ W.cell? ⟨p, 1, none⟩ = some (.int .i64 x.page) ∧ W.cell? ⟨p, 2, none⟩ = some (w16 x.b) ∧ W.cell? ⟨p, 3, none⟩ = some sv
def stepR9 (p : Nat) (x : BSt) (sv : Value) : Res := memR (fun k => k = p) (fun W => stepAt9 W p x sv) fun W W' h hb =>
  ⟨(cell_same 0 (hb p rfl)).trans h.1, (cell_same 1 (hb p rfl)).trans h.2.1, (cell_same 2 (hb p rfl)).trans h.2.2.1, (cell_same 3 (hb p rfl)).trans h.2.2.2⟩
abbrev stepV9 (x : BSt) (sv : Value) : Value := .agg #[.int .i64 x.do_, .int .i64 x.page, w16 x.b, sv]
theorem Sys.step9 {w W : World} {rs : List Res} (h : Sys w W rs) (x : BSt) (sv : Value) : Sys w (W.alloc (.cells #[.int .i64 x.do_, .int .i64 x.page, w16 x.b, sv] 55)) (rs ++ [stepR9 W.heap.size x sv]) := by
  have hnew := heap_alloc_new W (.cells #[.int .i64 x.do_, .int .i64 x.page, w16 x.b, sv] 55)
  exact h.addMem ((Below.refl _ W).alloc (Nat.le_refl _) _) ⟨cell_of_row _ _ 0 _ _ _ hnew, cell_of_row _ _ 1 _ _ _ hnew, cell_of_row _ _ 2 _ _ _ hnew, cell_of_row _ _ 3 _ _ _ hnew⟩ fun k hk => by rw [hk]; exact ⟨Nat.le_refl _, by simp⟩
/-- What a step's turn holds in boxes: geometry, inode, step, result, both sides' inodes. -/
def dsR (g q m o a c : Nat) (G : Gm) (x : Im) (s : BSt) (sv : Value) (xo xa xc : Im) (qs : List Res) : List Res := inoR c xc :: inoR a xa :: inoR o xo :: stepR9 m s sv :: inoR q x :: geoR g G.i G.b G.j :: qs
def doesW (W : World) (G : Gm) (x : Im) (s : BSt) (sv : Value) : World :=
  (((((W.alloc (.cells #[.int .i64 (G.i : Int), .int .i64 (G.b : Int), .int .i64 (G.j : Int)] 23)).alloc (.cells #[.int .u8 x.k, w16 x.n, .int .u32 x.z, w16 x.d0, w16 x.d1, w16 x.d2, w16 x.d3, w16 x.i] 28)).alloc (.cells #[.int .i64 s.do_, .int .i64 s.page, w16 s.b, sv] 55)).alloc (.cells #[.int .u8 0, .int .u16 0, .int .u32 0, .int .u16 0, .int .u16 0, .int .u16 0, .int .u16 0, .int .u16 0] 28)).alloc (.cells #[.int .u8 0, .int .u16 0, .int .u32 0, .int .u16 0, .int .u16 0, .int .u16 0, .int .u16 0, .int .u16 0] 28)).alloc (.cells #[.int .u8 0, .int .u16 0, .int .u32 0, .int .u16 0, .int .u16 0, .int .u16 0, .int .u16 0, .int .u16 0] 28)
theorem Im.setDir_fits {x : Im} (h : x.fits) (p : Nat) {c : Nat} (hc : c < 65536) : (x.setDir p c).fits := by
  obtain ⟨h1, h2, h3, h4, h5, h6, h7, h8⟩ := h
  unfold Im.setDir
  split
  · exact ⟨h1, h2, h3, hc, h5, h6, h7, h8⟩
  · exact ⟨h1, h2, h3, h4, hc, h6, h7, h8⟩
  · exact ⟨h1, h2, h3, h4, h5, hc, h7, h8⟩
  · exact ⟨h1, h2, h3, h4, h5, h6, hc, h8⟩
theorem Im.cut_fits {x : Im} (h : x.fits) (p : Nat) : (x.cut p).fits := by
  obtain ⟨h1, h2, h3, h4, h5, h6, h7, h8⟩ := h
  refine ⟨h1, h2, h3, ?_, ?_, ?_, ?_, show (0 : Nat) < 65536 by decide⟩
  all_goals
    simp only [Im.cut]
    split <;> omega
theorem Im.nought_fits : Im.nought.fits := by simp [Im.fits, Im.nought]
theorem stX_fits {x : Im} (h : x.fits) (p : Int) {c : Nat} (hc : c < 65536) (e : Int) : (stX x p c e).fits := by
  unfold stX
  split
  · split
    · exact Im.setDir_fits h _ hc
    · exact h
  · exact Im.nought_fits
theorem bgX_fits {x : Im} (h : x.fits) {c : Nat} (hc : c < 65536) (e : Int) : (bgX x c e).fits := by
  unfold bgX
  split
  · obtain ⟨h1, h2, h3, h4, h5, h6, h7, h8⟩ := h
    exact ⟨h1, h2, h3, h4, h5, h6, h7, hc⟩
  · exact Im.nought_fits
theorem ctX_fits {x : Im} (h : x.fits) (p : Int) (e : Int) : (ctX x p e).fits := by
  unfold ctX
  split
  · split
    · exact Im.cut_fits h _
    · exact h
  · exact Im.nought_fits
section
variable {w W : World} {b jb tb rb : Nat} {v : Value} {G : Gm} {L L' : PutL} {qs : List Res}
/-- Where a step's turn begins. -/
theorem Pl.start (h : Pl w W b jb tb rb v G L L' qs) (x : Im) (s : BSt) (sv : Value) :
    ∃ g q m o a c, g = W.heap.size ∧ q = g + 1 ∧ m = q + 1 ∧ o = m + 1 ∧ a = o + 1 ∧ c = a + 1 ∧ Pl w (doesW W G x s sv) b jb tb rb v G L L' (dsR g q m o a c G x s sv Im.nought Im.nought Im.nought qs) := by
  have h1 := h.fgeo G.i G.b G.j
  have h2 := h1.fino x
  have h3 := h2.front (h2.sys.step9 s sv)
  have h4 := h3.fino Im.nought
  have h5 := h4.fino Im.nought
  have h6 := h5.fino Im.nought
  refine ⟨_, _, _, _, _, _, rfl, rfl, rfl, rfl, rfl, rfl, ?_⟩
  have e : ∀ (V : World) ob, (V.alloc ob).heap.size = V.heap.size + 1 := fun V ob => by simp
  simp only [e] at h6
  exact h6
theorem Pl.done {g q m o a c : Nat} {x xo xa xc : Im} {s : BSt} {sv : Value} (h : Pl w W b jb tb rb v G L L' (dsR g q m o a c G x s sv xo xa xc qs)) : Pl w W b jb tb rb v G L L' qs := h.drop.drop.drop.drop.drop.drop
end
end Go.Proofs.YtdddennhdbmolaaGreat
