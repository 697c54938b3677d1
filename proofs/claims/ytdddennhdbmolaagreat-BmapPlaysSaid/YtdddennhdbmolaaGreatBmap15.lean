/- Layer 9 (bmap): what each function answers in a transaction, and what is written then. -/
import Derived.Test.YtdddennhdbmolaaGreatBmap14
namespace Go.Proofs.YtdddennhdbmolaaGreat
open Go.RowKit Go.Maps Go.Lib
set_option linter.unusedVariables false
set_option linter.unusedSimpArgs false
set_option maxRecDepth 10000
/-! What is answered, and what is written. -/
def gtE (G : Gm) (x : Im) (p : Int) : Int := if fitB G x 0 ∧ pageP p then 0 else 2
def gtV (G : Gm) (f : Nat → List UInt8) (L : PutL) (x : Im) (p : Int) : Nat := if fitB G x 0 ∧ pageP p then (if p < 4 then x.dir.getD p.toNat 0 else (lisL G f L x.i).getD (p.toNat - 4) 0) else 0
def stS (G : Gm) (f : Nat → List UInt8) (L : PutL) (x : Im) (p : Int) (c : Nat) : List UInt8 := tellL ((lisL G f L x.i).set (p.toNat - 4) c)
def stE (N cap : Nat) (G : Gm) (f : Nat → List UInt8) (L : PutL) (x : Im) (p : Int) (c : Nat) : Int :=
  if fitB G x c ∧ pageP p then (if p < 4 then 0 else if x.i = 0 then 3 else wrE N cap L (secB G x.i : Nat) (stS G f L x p c)) else 2
def stL (N cap : Nat) (G : Gm) (f : Nat → List UInt8) (L : PutL) (x : Im) (p : Int) (c : Nat) : PutL :=
  if fitB G x c ∧ pageP p ∧ 4 ≤ p ∧ x.i ≠ 0 then wrL N cap L (secB G x.i : Nat) (stS G f L x p c) else L
def stX (x : Im) (p : Int) (c : Nat) (e : Int) : Im := if e = 0 then (if p < 4 then x.setDir p.toNat c else x) else Im.nought
def bgE (N cap : Nat) (G : Gm) (L : PutL) (x : Im) (c : Nat) : Int := if fitB G x c ∧ c ≠ 0 ∧ x.i = 0 then wrE N cap L (secB G c : Nat) (List.replicate 64 0) else 2
def bgL (N cap : Nat) (G : Gm) (L : PutL) (x : Im) (c : Nat) : PutL := if fitB G x c ∧ c ≠ 0 ∧ x.i = 0 then wrL N cap L (secB G c : Nat) (List.replicate 64 0) else L
def bgX (x : Im) (c : Nat) (e : Int) : Im := if e = 0 then { x with i := c } else Im.nought
def cutP (p : Int) : Prop := 0 ≤ p ∧ p ≤ 36
instance (p : Int) : Decidable (cutP p) := by unfold cutP; infer_instance
def ctS (G : Gm) (f : Nat → List UInt8) (L : PutL) (x : Im) (p : Int) : List Nat := keepL (lisL G f L x.i) (p.toNat - 4)
def ctE (N cap : Nat) (G : Gm) (f : Nat → List UInt8) (L : PutL) (x : Im) (p : Int) : Int :=
  if fitB G x 0 ∧ cutP p then (if p ≤ 4 then 0 else if ctS G f L x p = lisL G f L x.i then 0 else wrE N cap L (secB G x.i : Nat) (tellL (ctS G f L x p))) else 2
def ctL (N cap : Nat) (G : Gm) (f : Nat → List UInt8) (L : PutL) (x : Im) (p : Int) : PutL :=
  if fitB G x 0 ∧ cutP p ∧ 4 < p ∧ ctS G f L x p ≠ lisL G f L x.i then wrL N cap L (secB G x.i : Nat) (tellL (ctS G f L x p)) else L
def ctX (x : Im) (p : Int) (e : Int) : Im := if e = 0 then (if p ≤ 4 then x.cut p.toNat else x) else Im.nought
def ctF (G : Gm) (f : Nat → List UInt8) (L : PutL) (x : Im) (p : Int) (e : Int) : List Nat := if e = 0 then freeL p (prL x (lisL G f L x.i)) else []
theorem setDir_page (x : Im) (p : Nat) (hp : p < 4) (c : Nat) : x.setDir (p : Int).toNat c = x.setDir p c := by rw [Int.toNat_natCast]
theorem u16s_box {V : World} {g c : Nat} (h : V.heap[g]? = some (.cells #[w16 c] 24 (0, 0))) : U16s V (.slice (some ⟨g, 0, none⟩) 1 1) [c] := by
  refine ⟨_, _, rfl, fun j n hj => ⟨_, rfl, ?_⟩⟩
  match j, hj with
  | 0, hj => cases hj; exact cell_of_row V g 0 _ _ _ h
/-- Refused, or not. -/
theorem ref_one {G : Gm} (hG : G.ok) (tb : Nat) (x : Im) (hxf : x.fits) (m : Bool) (c : Nat) (hc : c < 65536) (r : Int) (hr : r = if fitB G x c ∧ m = true then 0 else 2) (V : World) (g : Nat) (h : V.heap[g]? = some (.cells #[w16 c] 24 (0, 0))) :
    Calls Tryz.prog 25 #[.pointer (some ⟨tb, 0, none⟩), gv G, x.v, .bool m, .slice (some ⟨g, 0, none⟩) 1 1] V fun e w' => e = .returned (.int .i64 r) ∧ Below V.heap.size V w' := by
  have := bref_any tb G.i G.b G.j x hxf m _ [c] V (u16s_box h) (fun m c e => by cases e) (Nat.le_refl _) (fun n hn => by rw [List.mem_singleton.1 hn]; exact hc)
  rw [askB_one hG] at this
  have e : (if (decide (fitB G x c) && m) = true then (0 : Int) else 2) = r := by
    rw [hr]
    simp only [Bool.and_eq_true, decide_eq_true_eq]
  rwa [e] at this
theorem ref_none {G : Gm} (hG : G.ok) (tb : Nat) (x : Im) (hxf : x.fits) (m : Bool) (r : Int) (hr : r = if fitB G x 0 ∧ m = true then 0 else 2) (V : World) :
    Calls Tryz.prog 25 #[.pointer (some ⟨tb, 0, none⟩), gv G, x.v, .bool m, .slice none 0 0] V fun e w' => e = .returned (.int .i64 r) ∧ Below V.heap.size V w' := by
  have := bref_any tb G.i G.b G.j x hxf m _ [] V (u16s_nil V) (fun m c e => by cases e; rfl) (by simp) (fun n hn => by simp at hn)
  rw [askB_none hG] at this
  have e : (if (decide (fitB G x 0) && m) = true then (0 : Int) else 2) = r := by
    rw [hr]
    simp only [Bool.and_eq_true, decide_eq_true_eq]
  rwa [e] at this
theorem ref_bad {i b j : Int} (hm : ¬ mayI i b j) (tb : Nat) (x : Im) (hxf : x.fits) (m : Bool) (V : World) :
    Calls Tryz.prog 25 #[.pointer (some ⟨tb, 0, none⟩), geoV i b j, x.v, .bool m, .slice none 0 0] V fun e w' => e = .returned (.int .i64 2) ∧ Below V.heap.size V w' := by
  have := bref_any tb i b j x hxf m _ [] V (u16s_nil V) (fun m c e => by cases e; rfl) (by simp) (fun n hn => by simp at hn)
  rw [askB_bad hm] at this
  exact this
section
variable {w W : World} {rs : List Res} {t i j tb b jb F n rec : Nat} {M : Dv} {L : PutL} {G : Gm}
theorem TxSys.same (h : TxSys w W rs t i j tb b jb F n rec M L) {W' : World} (hb : Below W.heap.size W W') : TxSys w W' (rs.set t (txR tb b jb M.n L)) t i j tb b jb F n rec M L := by
  rw [set_same h.ht]
  exact h.below hb
/-- A write, told by what stays. -/
theorem write_in (h : TxSys w W rs t i j tb b jb F n rec M L) (hG : G.ok) (k : Nat) (h1 : 1 ≤ k) (h2 : k ≤ G.b) (l : List Nat) (hl : l.length = 32) (hlt : ∀ x ∈ l, x < 65536) {m : Nat} (hT : TxOn W tb b jb m M L F n rec) (V : World) (hV : Below W.heap.size W V) :
    Calls Tryz.prog 28 #[devp tb, gv G, w16 k, lisV l] V fun e w' => e = .returned (.int .i64 (wrE M.n (capL n) L (secB G k : Nat) (tellL l))) ∧
      TxIn w' tb b jb m M.n (wrL M.n (capL n) L (secB G k : Nat) (tellL l)) ∧ Only (fun k => k = m) V w' :=
  bwrite_any _ G hG k h1 h2 l hl hlt _ (fun w' => TxIn w' tb b jb m M.n (wrL M.n (capL n) L (secB G k : Nat) (tellL l)) ∧ Only (fun k => k = m) V w') V fun V2 hV2 =>
    (tx_write (h.below (hV.trans (hV2.mono hV.size))) _ _ (by rw [tellL_length l (by omega)]; omega) (hT.below (hV.trans (hV2.mono hV.size)))).mono fun e w' hx => ⟨hx.1, hx.2.1, (Only.of_below hV2).trans hx.2.2 fun j hj => .inl hj⟩
theorem shorten_in (h : TxSys w W rs t i j tb b jb F n rec M L) (hG : G.ok) (k : Nat) (h1 : 1 ≤ k) (h2 : k ≤ G.b) (l : List Nat) (hl : l.length = 32) (hlt : ∀ x ∈ l, x < 65536) (q : Nat) (hq : q ≤ 32) (p : Int) (hp : p = (q : Int) + 4) (he : keepL l q ≠ l) {m : Nat} (hT : TxOn W tb b jb m M L F n rec) (V : World) (hV : Below W.heap.size W V) :
    Calls Tryz.prog 30 #[devp tb, gv G, w16 k, lisV l, .int .i64 p] V fun e w' => e = .returned (.int .i64 (wrE M.n (capL n) L (secB G k : Nat) (tellL (keepL l q)))) ∧
      TxIn w' tb b jb m M.n (wrL M.n (capL n) L (secB G k : Nat) (tellL (keepL l q))) ∧ Only (fun k => k = m) V w' :=
  shorten_write _ G hG k h1 h2 l hl hlt q hq p hp he _ (fun w' => TxIn w' tb b jb m M.n (wrL M.n (capL n) L (secB G k : Nat) (tellL (keepL l q))) ∧ Only (fun k => k = m) V w') V fun V2 hV2 =>
    (tx_write (h.below (hV.trans (hV2.mono hV.size))) _ _ (by rw [tellL_length _ (by rw [keepL_length hl hq]; omega)]; omega) (hT.below (hV.trans (hV2.mono hV.size)))).mono fun e w' hx => ⟨hx.1, hx.2.1, (Only.of_below hV2).trans hx.2.2 fun j hj => .inl hj⟩
theorem bget_tx (h : TxSys w W rs t i j tb b jb F n rec M L) (hG : G.ok) (hN : M.n = G.all) (x : Im) (hxf : x.fits) (p : Int) :
    Calls Tryz.prog 16 #[devp tb, gv G, x.v, .int .i64 p] W fun e w' => e = .returned (.tuple #[w16 (gtV G M.cur L x p), .int .i64 (gtE G x p)]) ∧ Below W.heap.size W w' := by
  unfold gtV gtE
  have hr := fun r hr V => ref_none hG tb x hxf (decide (0 ≤ p ∧ p < 36)) r hr V
  by_cases hok : fitB G x 0 ∧ pageP p
  · rw [if_pos hok, if_pos hok]
    have h0 : (0 : Int) = if fitB G x 0 ∧ decide (0 ≤ p ∧ p < 36) = true then 0 else 2 := by rw [if_pos ⟨hok.1, decide_eq_true hok.2⟩]
    by_cases h4 : p < 4
    · rw [if_pos h4]
      obtain ⟨q, rfl⟩ : ∃ q : Nat, p = (q : Int) := ⟨p.toNat, by have := hok.2.1; omega⟩
      rw [Int.toNat_natCast]
      exact get_dir _ _ _ _ x q (by omega) W fun V => hr 0 h0 V
    · rw [if_neg h4]
      obtain ⟨q, hq⟩ : ∃ q : Nat, p = (q : Int) + 4 := ⟨p.toNat - 4, by omega⟩
      have hpq := hok.2.2
      rw [show p.toNat - 4 = q by omega]
      exact get_ind _ _ _ _ x q (by omega) p hq _ (h.lis hN hok.1.2.2.2.2.2) W (fun V => hr 0 h0 V) fun V hV => read_tx (h.below hV) hG hN x.i hok.1.2.2.2.2.2
  · rw [if_neg hok, if_neg hok]
    have h2 : (2 : Int) = if fitB G x 0 ∧ decide (0 ≤ p ∧ p < 36) = true then 0 else 2 := by rw [if_neg (fun e => hok ⟨e.1, of_decide_eq_true e.2⟩)]
    exact get_no _ _ _ _ x p 2 (by decide) W fun V => hr 2 h2 V
/-- What a call leaves that may have written: the transaction, with what was written. -/
theorem TxSys.wrote (h : TxSys w W rs t i j tb b jb F n rec M L) {m : Nat} (hset : ∀ W' L', TxIn W' tb b jb m M.n L' → Only (fun k => k = m) W W' → Sys w W' (rs.set t (txR tb b jb M.n L'))) {W' : World} (s : Int) (d : List UInt8)
    (hT : TxIn W' tb b jb m M.n (wrL M.n (capL n) L s d)) (ho : Only (fun k => k = m) W W') : TxSys w W' (rs.set t (txR tb b jb M.n (wrL M.n (capL n) L s d))) t i j tb b jb F n rec M (wrL M.n (capL n) L s d) :=
  h.turn (hset W' _ hT ho) (h.ok.wr s d)
theorem lis_set {l : List Nat} (h : ∀ x ∈ l, x < 65536) (q : Nat) {c : Nat} (hc : c < 65536) : ∀ x ∈ l.set q c, x < 65536 := by
  intro x hx
  rcases List.mem_or_eq_of_mem_set hx with h1 | rfl
  · exact h x h1
  · exact hc
theorem txIn_lt {V : World} {tb b jb m n : Nat} {L : PutL} (h : TxIn V tb b jb m n L) : m < V.heap.size := h.lt.2
theorem bset_tx (h : TxSys w W rs t i j tb b jb F n rec M L) (hG : G.ok) (hN : M.n = G.all) (x : Im) (hxf : x.fits) (p : Int) (c : Nat) (hc : c < 65536) :
    Calls Tryz.prog 10 #[devp tb, gv G, x.v, .int .i64 p, w16 c] W fun e w' => e = .returned (.tuple #[(stX x p c (stE M.n (capL n) G M.cur L x p c)).v, .int .i64 (stE M.n (capL n) G M.cur L x p c)]) ∧
      TxSys w w' (rs.set t (txR tb b jb M.n (stL M.n (capL n) G M.cur L x p c))) t i j tb b jb F n rec M (stL M.n (capL n) G M.cur L x p c) := by
  have hr := fun r hr V g hg => ref_one hG tb x hxf (decide (0 ≤ p ∧ p < 36)) c hc r hr V g hg
  by_cases hok : fitB G x c ∧ pageP p
  · have h0 : (0 : Int) = if fitB G x c ∧ decide (0 ≤ p ∧ p < 36) = true then 0 else 2 := by rw [if_pos ⟨hok.1, decide_eq_true hok.2⟩]
    by_cases h4 : p < 4
    · have hE : stE M.n (capL n) G M.cur L x p c = 0 := by unfold stE; rw [if_pos hok, if_pos h4]
      have hL : stL M.n (capL n) G M.cur L x p c = L := by unfold stL; rw [if_neg (by rintro ⟨-, -, h1, -⟩; omega)]
      rw [hE, hL]
      unfold stX
      rw [if_pos rfl, if_pos h4]
      obtain ⟨q, rfl⟩ : ∃ q : Nat, p = (q : Int) := ⟨p.toNat, by have := hok.2.1; omega⟩
      rw [setDir_page x q (by omega)]
      exact (set_dir _ _ _ _ x q c (by omega) W fun V g hg => hr 0 h0 V g hg).mono fun e w' hx => ⟨hx.1, h.same hx.2⟩
    · by_cases hi : x.i = 0
      · have hE : stE M.n (capL n) G M.cur L x p c = 3 := by unfold stE; rw [if_pos hok, if_neg h4, if_pos hi]
        have hL : stL M.n (capL n) G M.cur L x p c = L := by unfold stL; rw [if_neg (by rintro ⟨-, -, -, h1⟩; exact h1 hi)]
        rw [hE, hL]
        have hX : stX x p c 3 = Im.nought := by unfold stX; rw [if_neg (by decide)]
        rw [hX]
        exact (set_none _ _ _ _ x p c ⟨by omega, hok.2.2, hi⟩ W fun V g hg => hr 0 h0 V g hg).mono fun e w' hx => ⟨hx.1, h.same hx.2⟩
      · obtain ⟨q, hq⟩ : ∃ q : Nat, p = (q : Int) + 4 := ⟨p.toNat - 4, by omega⟩
        have hpq := hok.2.2
        have hE : stE M.n (capL n) G M.cur L x p c = wrE M.n (capL n) L (secB G x.i : Nat) (stS G M.cur L x p c) := by unfold stE; rw [if_pos hok, if_neg h4, if_neg hi]
        have hL : stL M.n (capL n) G M.cur L x p c = wrL M.n (capL n) L (secB G x.i : Nat) (stS G M.cur L x p c) := by unfold stL; rw [if_pos ⟨hok.1, hok.2, by omega, hi⟩]
        have hS : stS G M.cur L x p c = tellL ((lisL G M.cur L x.i).set q c) := by unfold stS; rw [show p.toNat - 4 = q by omega]
        rw [hE, hL, hS]
        obtain ⟨m, hT, hset⟩ := h.on
        have hll := h.lis hN hok.1.2.2.2.2.2
        refine (set_ind _ _ _ _ x q (by omega) p hq c hi _ hll _ W m (txIn_lt hT.tx) (fun w' => TxIn w' tb b jb m M.n (wrL M.n (capL n) L (secB G x.i : Nat) (tellL ((lisL G M.cur L x.i).set q c)))) (fun V V' hV hs => hV.kept (hs _ hT.tx.lt.1) (hs _ hT.tx.lt.2)) (fun V g hg => hr 0 h0 V g hg)
          (fun V hV => read_tx (h.below hV) hG hN x.i hok.1.2.2.2.2.2) (fun V hV => write_in h hG x.i (by omega) hok.1.2.2.2.2.2 _ (by rw [List.length_set]; exact hll) (lis_set (lisL_lt _ _ _ _) q hc) hT V hV)).mono ?_
        rintro e w' ⟨y, rfl, hy0, hy1, hT', ho⟩
        refine ⟨?_, h.wrote hset _ _ hT' ho⟩
        unfold stX
        by_cases hz : wrE M.n (capL n) L (secB G x.i : Nat) (tellL ((lisL G M.cur L x.i).set q c)) = 0
        · rw [if_pos hz, if_neg h4, hy0 hz]
        · rw [if_neg hz, hy1 hz]
  · have h2 : (2 : Int) = if fitB G x c ∧ decide (0 ≤ p ∧ p < 36) = true then 0 else 2 := by rw [if_neg (fun e => hok ⟨e.1, of_decide_eq_true e.2⟩)]
    have hE : stE M.n (capL n) G M.cur L x p c = 2 := by unfold stE; rw [if_neg hok]
    have hL : stL M.n (capL n) G M.cur L x p c = L := by unfold stL; rw [if_neg (by rintro ⟨h1, h3, -⟩; exact hok ⟨h1, h3⟩)]
    have hX : stX x p c 2 = Im.nought := by unfold stX; rw [if_neg (by decide)]
    rw [hE, hL, hX]
    exact (set_no _ _ _ _ x p c 2 (by decide) W fun V g hg => hr 2 h2 V g hg).mono fun e w' hx => ⟨hx.1, h.same hx.2⟩
theorem bbeg_tx (h : TxSys w W rs t i j tb b jb F n rec M L) (hG : G.ok) (x : Im) (hxf : x.fits) (c : Nat) (hc : c < 65536) :
    Calls Tryz.prog 11 #[devp tb, gv G, x.v, w16 c] W fun e w' => e = .returned (.tuple #[(bgX x c (bgE M.n (capL n) G L x c)).v, .int .i64 (bgE M.n (capL n) G L x c)]) ∧
      TxSys w w' (rs.set t (txR tb b jb M.n (bgL M.n (capL n) G L x c))) t i j tb b jb F n rec M (bgL M.n (capL n) G L x c) := by
  have hr := fun r hr V g hg => ref_one hG tb x hxf (decide (c ≠ 0 ∧ x.i = 0)) c hc r hr V g hg
  by_cases hok : fitB G x c ∧ c ≠ 0 ∧ x.i = 0
  · have h0 : (0 : Int) = if fitB G x c ∧ decide (c ≠ 0 ∧ x.i = 0) = true then 0 else 2 := by rw [if_pos ⟨hok.1, decide_eq_true hok.2⟩]
    have hz64 : tellL (List.replicate 32 0) = List.replicate 64 0 := by decide
    have hE : bgE M.n (capL n) G L x c = wrE M.n (capL n) L (secB G c : Nat) (tellL (List.replicate 32 0)) := by unfold bgE; rw [if_pos hok, hz64]
    have hL : bgL M.n (capL n) G L x c = wrL M.n (capL n) L (secB G c : Nat) (tellL (List.replicate 32 0)) := by unfold bgL; rw [if_pos hok, hz64]
    rw [hE, hL]
    obtain ⟨m, hT, hset⟩ := h.on
    refine (begin_ok _ _ _ _ x c hok.2.1 hok.2.2 _ W m (txIn_lt hT.tx) (fun w' => TxIn w' tb b jb m M.n (wrL M.n (capL n) L (secB G c : Nat) (tellL (List.replicate 32 0)))) (fun V V' hV hs => hV.kept (hs _ hT.tx.lt.1) (hs _ hT.tx.lt.2)) (fun V g hg => hr 0 h0 V g hg)
      (fun V hV => write_in h hG c (by have := hok.2.1; omega) hok.1.1 _ rfl (fun y hy => by rw [List.eq_of_mem_replicate hy]; decide) hT V hV)).mono ?_
    rintro e w' ⟨y, rfl, hy0, hy1, hT', ho⟩
    refine ⟨?_, h.wrote hset _ _ hT' ho⟩
    unfold bgX
    by_cases hz : wrE M.n (capL n) L (secB G c : Nat) (tellL (List.replicate 32 0)) = 0
    · rw [if_pos hz, hy0 hz]
    · rw [if_neg hz, hy1 hz]
  · have h2 : (2 : Int) = if fitB G x c ∧ decide (c ≠ 0 ∧ x.i = 0) = true then 0 else 2 := by rw [if_neg (fun e => hok ⟨e.1, of_decide_eq_true e.2⟩)]
    have hE : bgE M.n (capL n) G L x c = 2 := by unfold bgE; rw [if_neg hok]
    have hL : bgL M.n (capL n) G L x c = L := by unfold bgL; rw [if_neg hok]
    have hX : bgX x c 2 = Im.nought := by unfold bgX; rw [if_neg (by decide)]
    rw [hE, hL, hX]
    exact (begin_no _ _ _ _ x c 2 (by decide) W fun V g hg => hr 2 h2 V g hg).mono fun e w' hx => ⟨hx.1, h.same hx.2⟩
theorem bcut_tx (h : TxSys w W rs t i j tb b jb F n rec M L) (hG : G.ok) (hN : M.n = G.all) (x : Im) (hxf : x.fits) (p : Int) :
    Calls Tryz.prog 13 #[devp tb, gv G, x.v, .int .i64 p] W fun e w' => ∃ v, e = .returned (.tuple #[(ctX x p (ctE M.n (capL n) G M.cur L x p)).v, v, .int .i64 (ctE M.n (capL n) G M.cur L x p)]) ∧ U16s w' v (ctF G M.cur L x p (ctE M.n (capL n) G M.cur L x p)) ∧ (p ≤ 4 → Below W.heap.size W w') ∧
      TxSys w w' (rs.set t (txR tb b jb M.n (ctL M.n (capL n) G M.cur L x p))) t i j tb b jb F n rec M (ctL M.n (capL n) G M.cur L x p) := by
  have hr := fun r hr V => ref_none hG tb x hxf (decide (0 ≤ p ∧ p ≤ 36)) r hr V
  by_cases hok : fitB G x 0 ∧ cutP p
  · have h0 : (0 : Int) = if fitB G x 0 ∧ decide (0 ≤ p ∧ p ≤ 36) = true then 0 else 2 := by rw [if_pos ⟨hok.1, decide_eq_true hok.2⟩]
    have hll := h.lis hN hok.1.2.2.2.2.2
    by_cases h4 : p ≤ 4
    · have hE : ctE M.n (capL n) G M.cur L x p = 0 := by unfold ctE; rw [if_pos hok, if_pos h4]
      have hL : ctL M.n (capL n) G M.cur L x p = L := by unfold ctL; rw [if_neg (by rintro ⟨-, -, h1, -⟩; omega)]
      rw [hE, hL]
      unfold ctX ctF
      rw [if_pos rfl, if_pos h4, if_pos rfl]
      obtain ⟨q, rfl⟩ : ∃ q : Nat, p = (q : Int) := ⟨p.toNat, by have := hok.2.1; omega⟩
      rw [Int.toNat_natCast]
      refine (cut_low _ _ _ _ x hxf q (by omega) _ hll (lisL_lt _ _ _ _) W (fun V => hr 0 h0 V) fun V hV => read_tx (h.below hV) hG hN x.i hok.1.2.2.2.2.2).mono ?_
      rintro e w' ⟨v, rfl, -, hu, hb⟩
      exact ⟨v, rfl, hu, fun _ => hb, h.same hb⟩
    · obtain ⟨q, rfl⟩ : ∃ q : Nat, p = (q : Int) := ⟨p.toNat, by have := hok.2.1; omega⟩
      have hq36 : q ≤ 36 := by have := hok.2.2; omega
      have hS : ctS G M.cur L x (q : Int) = keepL (lisL G M.cur L x.i) (q - 4) := by unfold ctS; rw [Int.toNat_natCast]
      by_cases hk : keepL (lisL G M.cur L x.i) (q - 4) = lisL G M.cur L x.i
      · have hE : ctE M.n (capL n) G M.cur L x (q : Int) = 0 := by unfold ctE; rw [if_pos hok, if_neg h4, hS, if_pos hk]
        have hL : ctL M.n (capL n) G M.cur L x (q : Int) = L := by unfold ctL; rw [if_neg (by rintro ⟨-, -, -, h1⟩; rw [hS] at h1; exact h1 hk)]
        rw [hE, hL]
        unfold ctX ctF
        rw [if_pos rfl, if_neg h4, if_pos rfl]
        obtain ⟨m, hT, hset⟩ := h.on
        refine (cut_high _ _ _ _ x hxf q (by omega) hq36 _ hll (lisL_lt _ _ _ _) 0 W m (txIn_lt hT.tx) (fun w' => TxIn w' tb b jb m M.n L) (fun V V' hV hs => hV.kept (hs _ hT.tx.lt.1) (hs _ hT.tx.lt.2)) (fun V => hr 0 h0 V) (fun V hV => read_tx (h.below hV) hG hN x.i hok.1.2.2.2.2.2)
          (fun V hV => (shorten_same _ _ _ _ x.i _ hll (q - 4) (by omega) _ (by omega) hk V).mono fun e w' hx => ⟨hx.1, (hT.tx.below hV).below hx.2, Only.of_below hx.2⟩)).mono ?_
        rintro e w' ⟨y, v, rfl, hy, -, hT', ho⟩
        obtain ⟨rfl, -, hu⟩ := hy rfl
        exact ⟨v, rfl, hu, fun h => absurd h h4, h.turn (hset w' _ hT' ho) h.ok⟩
      · have hi : x.i ≠ 0 := fun hi => hk (by
          unfold lisL
          rw [if_pos hi]
          unfold keepL
          rw [List.take_replicate, List.replicate_append_replicate]
          congr 1; omega)
        have hE : ctE M.n (capL n) G M.cur L x (q : Int) = wrE M.n (capL n) L (secB G x.i : Nat) (tellL (keepL (lisL G M.cur L x.i) (q - 4))) := by unfold ctE; rw [if_pos hok, if_neg h4, hS, if_neg hk]
        have hL : ctL M.n (capL n) G M.cur L x (q : Int) = wrL M.n (capL n) L (secB G x.i : Nat) (tellL (keepL (lisL G M.cur L x.i) (q - 4))) := by unfold ctL; rw [hS, if_pos ⟨hok.1, hok.2, by omega, hk⟩]
        rw [hE, hL]
        obtain ⟨m, hT, hset⟩ := h.on
        refine (cut_high _ _ _ _ x hxf q (by omega) hq36 _ hll (lisL_lt _ _ _ _) _ W m (txIn_lt hT.tx) (fun w' => TxIn w' tb b jb m M.n (wrL M.n (capL n) L (secB G x.i : Nat) (tellL (keepL (lisL G M.cur L x.i) (q - 4))))) (fun V V' hV hs => hV.kept (hs _ hT.tx.lt.1) (hs _ hT.tx.lt.2)) (fun V => hr 0 h0 V) (fun V hV => read_tx (h.below hV) hG hN x.i hok.1.2.2.2.2.2)
          (fun V hV => shorten_in h hG x.i (by omega) hok.1.2.2.2.2.2 _ hll (lisL_lt _ _ _ _) (q - 4) (by omega) _ (by omega) hk hT V hV)).mono ?_
        rintro e w' ⟨y, v, rfl, hy0, hy1, hT', ho⟩
        have hnl : ¬ ((q : Int) ≤ 4) := h4
        unfold ctX ctF
        by_cases hz : wrE M.n (capL n) L (secB G x.i : Nat) (tellL (keepL (lisL G M.cur L x.i) (q - 4))) = 0
        · obtain ⟨rfl, -, hu⟩ := hy0 hz
          rw [if_pos hz, if_neg hnl, if_pos hz]
          exact ⟨v, rfl, hu, fun h => absurd h hnl, h.wrote hset _ _ hT' ho⟩
        · obtain ⟨rfl, rfl⟩ := hy1 hz
          rw [if_neg hz, if_neg hz]
          exact ⟨_, rfl, u16s_nil _, fun h => absurd h hnl, h.wrote hset _ _ hT' ho⟩
  · have h2 : (2 : Int) = if fitB G x 0 ∧ decide (0 ≤ p ∧ p ≤ 36) = true then 0 else 2 := by rw [if_neg (fun e => hok ⟨e.1, of_decide_eq_true e.2⟩)]
    have hE : ctE M.n (capL n) G M.cur L x p = 2 := by unfold ctE; rw [if_neg hok]
    have hL : ctL M.n (capL n) G M.cur L x p = L := by unfold ctL; rw [if_neg (by rintro ⟨h1, h3, -⟩; exact hok ⟨h1, h3⟩)]
    have hX : ctX x p 2 = Im.nought := by unfold ctX; rw [if_neg (by decide)]
    have hF : ctF G M.cur L x p 2 = [] := by unfold ctF; rw [if_neg (by decide)]
    rw [hE, hL, hX, hF]
    exact (cut_no _ _ _ _ x p 2 (by decide) W fun V => hr 2 h2 V).mono fun e w' hx => ⟨_, hx.1, u16s_nil _, fun _ => hx.2, h.same hx.2⟩
theorem ball_tx (h : TxSys w W rs t i j tb b jb F n rec M L) (hG : G.ok) (hN : M.n = G.all) (x : Im) (hxf : x.fits) :
    Calls Tryz.prog 12 #[devp tb, gv G, x.v] W fun e w' => ∃ v, e = .returned (.tuple #[v, .int .i64 (ctE M.n (capL n) G M.cur L x 0)]) ∧ U16s w' v (ctF G M.cur L x 0 (ctE M.n (capL n) G M.cur L x 0)) ∧ Below W.heap.size W w' :=
  all_of _ _ _ _ x _ _ _ W fun V hV => (bcut_tx (h.below hV) hG hN x hxf 0).mono fun e w' hx => by
    obtain ⟨v, he, hu, hb, -⟩ := hx
    exact ⟨v, he, hu, hb (by decide)⟩
end
end Go.Proofs.YtdddennhdbmolaaGreat
