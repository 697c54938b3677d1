/- Layer 9 (bmap): an inode with an indirect block on the chapter's geometry: what its calls answer. -/
import Derived.Test.YtdddennhdbmolaaGreatBmapArgs
namespace Go.Proofs.YtdddennhdbmolaaGreat
open Go.RowKit Go.Maps Go.Lib
set_option linter.unusedVariables false
set_option linter.unusedSimpArgs false
set_option maxRecDepth 10000
/-- An inode with an indirect block, or none; what that tells. -/
structure Kp (x : Im) (l : List Nat) : Prop where
  k : x.k = 1
  n : x.n = 0
  z : x.z = 2304
  d0 : x.d0 ≤ 16
  d1 : x.d1 ≤ 16
  d2 : x.d2 ≤ 16
  d3 : x.d3 ≤ 16
  i : x.i = 0 ∨ x.i = 16
  ll : l.length = 32
  lt : ∀ y ∈ l, y ≤ 16
theorem Kp.fits {x : Im} {l : List Nat} (h : Kp x l) : x.fits := by
  obtain ⟨h1, h2, h3, h4, h5, h6, h7, h8, -, -⟩ := h
  unfold Im.fits; omega
theorem Kp.fit {x : Im} {l : List Nat} (h : Kp x l) {c : Nat} (hc : c ≤ 16) : fitB smallG x c := by
  obtain ⟨h1, h2, h3, h4, h5, h6, h7, h8, -, -⟩ := h
  have e : smallG.b = 16 := rfl
  unfold fitB; rw [e]; omega
/-- The blocks of all pages. -/
def vecL (x : Im) (l : List Nat) : List Nat := x.dir ++ if x.i = 0 then List.replicate 32 0 else l
theorem vecL_length {x : Im} {l : List Nat} (h : l.length = 32) : (vecL x l).length = 36 := by
  unfold vecL
  rw [List.length_append]
  split
  · rw [List.length_replicate]; rfl
  · rw [h]; rfl
def frL (l : List Nat) : PutL := [(62, tellL l)]
theorem fr_nums {l : List Nat} (hl : l.length = 32) (h : ∀ y ∈ l, y ≤ 16) : numsL (tellL l) = l := by
  rw [nums_tell fun y hy => by have := h y hy; omega, hl]
  simp
theorem fr_look (l : List Nat) : look (frL l) 62 = some (tellL l) := by simp [frL, look]
theorem fr_lis {x : Im} {l : List Nat} (h : Kp x l) (f : Nat → List UInt8) : lisL smallG f (frL l) x.i = if x.i = 0 then List.replicate 32 0 else l := by
  unfold lisL
  rcases h.i with e | e
  · rw [if_pos e, if_pos e]
  · have : secB smallG 16 = 62 := rfl
    rw [if_neg (by omega), if_neg (by omega), e, this, fr_look, Option.getD_some, fr_nums h.ll h.lt]
theorem fr_wr (l : List Nat) {d : List UInt8} (hd : d.length = 64) : wrE 63 (capL 40) (frL l) ((secB smallG 16 : Nat) : Int) d = 0 ∧ wrL 63 (capL 40) (frL l) ((secB smallG 16 : Nat) : Int) d = [(62, d)] := by
  have hs : secB smallG 16 = 62 := rfl
  have e : wrE 63 (capL 40) (frL l) ((secB smallG 16 : Nat) : Int) d = 0 := by
    unfold wrE
    rw [hs, if_neg (by omega), if_neg]
    rintro ⟨h1, -⟩
    have : ((62 : Nat) : Int).toNat = 62 := rfl
    rw [this, fr_look] at h1
    cases h1
  refine ⟨e, ?_⟩
  unfold wrL
  rw [if_pos e, hs]
  have : ((62 : Nat) : Int).toNat = 62 := rfl
  rw [this]
  simp [frL, ins]
/-! The outcomes. -/
section
variable {x : Im} {l : List Nat} {f : Nat → List UInt8}
theorem kp_get (h : Kp x l) {p : Nat} (hp : p < 36) : gtE smallG x (p : Int) = 0 ∧ gtV smallG f (frL l) x (p : Int) = (vecL x l).getD p 0 := by
  have hok : fitB smallG x 0 ∧ pageP (p : Int) := ⟨h.fit (Nat.zero_le _), by unfold pageP; omega⟩
  refine ⟨by unfold gtE; rw [if_pos hok], ?_⟩
  unfold gtV vecL
  rw [if_pos hok, fr_lis h, Int.toNat_natCast]
  have hdl : x.dir.length = 4 := rfl
  by_cases h4 : p < 4
  · rw [if_pos (by omega), List.getD_eq_getElem?_getD, List.getD_eq_getElem?_getD, List.getElem?_append_left (by omega)]
  · rw [if_neg (by omega), List.getD_eq_getElem?_getD, List.getD_eq_getElem?_getD, List.getElem?_append_right (by omega), hdl]
theorem setDir_dir (x : Im) {p : Nat} (hp : p < 4) (c : Nat) : (x.setDir p c).dir = x.dir.set p c := by
  match p, hp with
  | 0, _ | 1, _ | 2, _ | 3, _ => rfl
theorem kp_set (h : Kp x l) (hi : x.i = 16) {p c : Nat} (hp : p < 36) (hc : c ≤ 16) :
    stE 63 (capL 40) smallG f (frL l) x (p : Int) c = 0 ∧ ∃ x' l', stX x (p : Int) c 0 = x' ∧ stL 63 (capL 40) smallG f (frL l) x (p : Int) c = frL l' ∧ Kp x' l' ∧ x'.i = 16 ∧ vecL x' l' = (vecL x l).set p c := by
  have hok : fitB smallG x c ∧ pageP (p : Int) := ⟨h.fit hc, by unfold pageP; omega⟩
  have hdl : x.dir.length = 4 := rfl
  by_cases h4 : p < 4
  · refine ⟨by unfold stE; rw [if_pos hok, if_pos (by omega)], x.setDir p c, l, by unfold stX; rw [if_pos rfl, if_pos (by omega), Int.toNat_natCast], by unfold stL; rw [if_neg (by rintro ⟨-, -, h1, -⟩; omega)], ?_, ?_, ?_⟩
    · obtain ⟨q1, q2, q3, q4, q5, q6, q7, q8, q9, q10⟩ := h
      match p with
      | 0 => exact ⟨q1, q2, q3, hc, q5, q6, q7, q8, q9, q10⟩
      | 1 => exact ⟨q1, q2, q3, q4, hc, q6, q7, q8, q9, q10⟩
      | 2 => exact ⟨q1, q2, q3, q4, q5, hc, q7, q8, q9, q10⟩
      | 3 => exact ⟨q1, q2, q3, q4, q5, q6, hc, q8, q9, q10⟩
      | q + 4 => omega
    · match p with
      | 0 | 1 | 2 | 3 => exact hi
      | q + 4 => omega
    · have e : (x.setDir p c).i = x.i := by
        match p with
        | 0 | 1 | 2 | 3 => rfl
        | q + 4 => omega
      unfold vecL
      rw [e, setDir_dir x h4, List.set_append_left _ _ (by omega)]
  · have hst : stS smallG f (frL l) x (p : Int) c = tellL (l.set (p - 4) c) := by unfold stS; rw [fr_lis h, if_neg (by omega), Int.toNat_natCast]
    obtain ⟨w1, w2⟩ := fr_wr l (d := tellL (l.set (p - 4) c)) (tellL_length _ (by rw [List.length_set, h.ll]; omega))
    refine ⟨by unfold stE; rw [if_pos hok, if_neg (by omega), if_neg (by omega), hst, hi, w1], x, l.set (p - 4) c, by unfold stX; rw [if_pos rfl, if_neg (by omega)], by unfold stL; rw [if_pos ⟨hok.1, hok.2, by omega, by omega⟩, hst, hi, w2]; rfl, ?_, hi, ?_⟩
    · refine { h with ll := by rw [List.length_set, h.ll], lt := fun y hy => ?_ }
      rcases List.mem_or_eq_of_mem_set hy with h1 | rfl
      · exact h.lt y h1
      · exact hc
    · unfold vecL
      rw [if_neg (by omega), if_neg (by omega), List.set_append_right _ _ (by omega), hdl]
def cutX (x : Im) (n : Nat) : Im := if n ≤ 4 then x.cut n else x
def keepV (V : List Nat) (n : Nat) : List Nat := V.take n ++ List.replicate (36 - n) 0
def freeV (x : Im) (l : List Nat) (n : Nat) : List Nat := ((vecL x l).drop n).filter (fun b => b != 0) ++ if x.i = 0 ∨ 4 < n then [] else [x.i]
theorem cut_dir (x : Im) {n : Nat} (hn : n ≤ 4) : (x.cut n).dir = x.dir.take n ++ List.replicate (4 - n) 0 := by
  match n, hn with
  | 0, _ | 1, _ | 2, _ | 3, _ | 4, _ => rfl
theorem keep_zero (q : Nat) (hq : q ≤ 32) : keepL (List.replicate 32 0) q = List.replicate 32 0 := by
  unfold keepL
  rw [List.take_replicate, List.replicate_append_replicate]
  congr 1; omega
theorem kp_cut (h : Kp x l) {n : Nat} (hn : n ≤ 36) :
    ctE 63 (capL 40) smallG f (frL l) x (n : Int) = 0 ∧ ctX x (n : Int) 0 = cutX x n ∧ ctF smallG f (frL l) x (n : Int) 0 = freeV x l n ∧ ∃ l', ctL 63 (capL 40) smallG f (frL l) x (n : Int) = frL l' ∧ Kp (cutX x n) l' ∧ vecL (cutX x n) l' = keepV (vecL x l) n := by
  have hok : fitB smallG x 0 ∧ cutP (n : Int) := ⟨h.fit (Nat.zero_le _), by unfold cutP; omega⟩
  have hdl : x.dir.length = 4 := rfl
  have hF : ctF smallG f (frL l) x (n : Int) 0 = freeV x l n := by
    unfold ctF freeV
    rw [if_pos rfl, fr_lis h, freeL_spare]
    rfl
  by_cases h4 : n ≤ 4
  · refine ⟨by unfold ctE; rw [if_pos hok, if_pos (by omega)], by unfold ctX cutX; rw [if_pos rfl, if_pos (by omega), if_pos h4, Int.toNat_natCast], hF, l, by unfold ctL; rw [if_neg (by rintro ⟨-, -, h1, -⟩; omega)], ?_, ?_⟩
    · unfold cutX
      rw [if_pos h4]
      obtain ⟨h1, h2, h3, h4, h5, h6, h7, h8, h9, h10⟩ := h
      refine ⟨h1, h2, h3, ?_, ?_, ?_, ?_, .inl rfl, h9, h10⟩
      · show (if n ≤ 0 then 0 else x.d0) ≤ 16; split <;> omega
      · show (if n ≤ 1 then 0 else x.d1) ≤ 16; split <;> omega
      · show (if n ≤ 2 then 0 else x.d2) ≤ 16; split <;> omega
      · show (if n ≤ 3 then 0 else x.d3) ≤ 16; split <;> omega
    · unfold vecL keepV cutX
      rw [if_pos h4, cut_dir x h4]
      have : (x.cut n).i = 0 := rfl
      rw [if_pos this, List.take_append_of_le_length (by omega), List.append_assoc, List.replicate_append_replicate]
      congr 2; omega
  · have hX : ctX x (n : Int) 0 = cutX x n := by unfold ctX cutX; rw [if_pos rfl, if_neg (by omega), if_neg h4]
    have hcx : cutX x n = x := by unfold cutX; rw [if_neg h4]
    have hS : ctS smallG f (frL l) x (n : Int) = keepL (if x.i = 0 then List.replicate 32 0 else l) (n - 4) := by unfold ctS; rw [fr_lis h, Int.toNat_natCast]
    have hv : ∀ l', (x.i = 0 ∨ l' = keepL l (n - 4)) → vecL x l' = keepV (vecL x l) n := by
      intro l' hl'
      unfold vecL keepV
      rw [List.take_append, hdl, List.take_of_length_le (by omega), List.append_assoc]
      congr 1
      rcases h.i with e | e
      · rw [if_pos e, if_pos e, List.take_replicate, List.replicate_append_replicate]
        congr 1; omega
      · rw [if_neg (by omega), if_neg (by omega)]
        rcases hl' with h0 | rfl
        · omega
        · unfold keepL
          congr 2; omega
    by_cases hk : ctS smallG f (frL l) x (n : Int) = lisL smallG f (frL l) x.i
    · refine ⟨by unfold ctE; rw [if_pos hok, if_neg (by omega), if_pos hk], hX, hF, l, by unfold ctL; rw [if_neg (by rintro ⟨-, -, -, h1⟩; exact h1 hk)], by rw [hcx]; exact h, ?_⟩
      rw [hcx]
      refine hv l ?_
      rcases h.i with e | e
      · exact .inl e
      · rw [hS, fr_lis h, if_neg (by omega)] at hk
        exact .inr hk.symm
    · have hi : x.i = 16 := by
        rcases h.i with e | e
        · refine absurd ?_ hk
          rw [hS, fr_lis h, if_pos e, keep_zero _ (by omega)]
        · exact e
      have hS2 : ctS smallG f (frL l) x (n : Int) = keepL l (n - 4) := by rw [hS, if_neg (by omega)]
      have hlen : (keepL l (n - 4)).length = 32 := keepL_length h.ll (by omega)
      obtain ⟨w1, w2⟩ := fr_wr l (d := tellL (keepL l (n - 4))) (tellL_length _ (by omega))
      refine ⟨by unfold ctE; rw [if_pos hok, if_neg (by omega), if_neg hk, hS2, hi, w1], hX, hF, keepL l (n - 4), by unfold ctL; rw [if_pos ⟨hok.1, hok.2, by omega, hk⟩, hS2, hi, w2]; rfl, ?_, by rw [hcx]; exact hv _ (.inr rfl)⟩
      rw [hcx]
      refine { h with ll := hlen, lt := fun y hy => ?_ }
      unfold keepL at hy
      rcases List.mem_append.1 hy with h1 | h1
      · exact h.lt y (List.mem_of_mem_take h1)
      · rw [List.eq_of_mem_replicate h1]; omega
end
/-! A row of numbers stays, whatever a call writes into the transaction. -/
theorem U16s.below9 {W W' : World} {u : Value} {k : List Nat} (h : U16s W u k) (hb : Below W.heap.size W W') : U16s W' u k := by
  obtain ⟨A, c, rfl, hc⟩ := h
  refine ⟨A, c, rfl, fun j n hj => ?_⟩
  obtain ⟨a, ha, hx⟩ := hc j n hj
  exact ⟨a, ha, (hb.cell (World.block_lt_of_cell? W _ hx)).trans hx⟩
theorem U16s.only9 {W W' : World} {u : Value} {k : List Nat} (h : U16s W u k) {tb b jb m n : Nat} {L : PutL} (hT : TxIn W tb b jb m n L) (ho : Only (fun k => k = m) W W') : U16s W' u k := by
  obtain ⟨A, c, rfl, hc⟩ := h
  refine ⟨A, c, rfl, fun j n hj => ?_⟩
  obtain ⟨a, ha, hx⟩ := hc j n hj
  refine ⟨a, ha, ?_⟩
  have hlt := World.block_lt_of_cell? W _ hx
  obtain ⟨es, cl, hm⟩ := hT.map.isMap
  have hne : (a.add j).block ≠ m := fun e => by
    unfold World.cell? at hx
    rw [e, hm] at hx
    cases hx
  exact (World.cell?_of_block (ho.block _ hlt hne)).trans hx
section
variable {w W : World} {rs : List Res} {t i j tb b jb F n rec : Nat} {M : Dv} {L : PutL} {G : Gm}
theorem bcut_txk (h : TxSys w W rs t i j tb b jb F n rec M L) (hG : G.ok) (hN : M.n = G.all) (x : Im) (hxf : x.fits) (p : Int) :
    Calls Tryz.prog 13 #[devp tb, gv G, x.v, .int .i64 p] W fun e w' => ∃ v, e = .returned (.tuple #[(ctX x p (ctE M.n (capL n) G M.cur L x p)).v, v, .int .i64 (ctE M.n (capL n) G M.cur L x p)]) ∧ U16s w' v (ctF G M.cur L x p (ctE M.n (capL n) G M.cur L x p)) ∧ (∀ k, v.ownBlock = some k → W.heap.size ≤ k) ∧ (∀ u k, U16s W u k → U16s w' u k) ∧
      TxSys w w' (rs.set t (txR tb b jb M.n (ctL M.n (capL n) G M.cur L x p))) t i j tb b jb F n rec M (ctL M.n (capL n) G M.cur L x p) := by
  have hr := fun r hr V => ref_none hG tb x hxf (decide (0 ≤ p ∧ p ≤ 36)) r hr V
  by_cases hok : fitB G x 0 ∧ cutP p
  · have h0 : (0 : Int) = if fitB G x 0 ∧ decide (0 ≤ p ∧ p ≤ 36) = true then 0 else 2 := by rw [if_pos ⟨hok.1, decide_eq_true hok.2⟩]
    have hll := h.lis hN hok.1.2.2.2.2.2
    by_cases h4 : p ≤ 4
    · have hE : ctE M.n (capL n) G M.cur L x p = 0 := by unfold ctE; rw [if_pos hok, if_pos h4]
      have hL : ctL M.n (capL n) G M.cur L x p = L := by unfold ctL; rw [if_neg (by rintro ⟨-, -, h1, -⟩; omega)]
      rw [hE, hL]
      unfold ctX ctF
      rw [if_pos rfl, if_pos h4, if_pos rfl]
      obtain ⟨q, rfl⟩ : ∃ q : Nat, p = (q : Int) := ⟨p.toNat, by have := hok.2.1; omega⟩
      rw [Int.toNat_natCast]
      refine (cut_low _ _ _ _ x hxf q (by omega) _ hll (lisL_lt _ _ _ _) W (fun V => hr 0 h0 V) fun V hV => read_tx (h.below hV) hG hN x.i hok.1.2.2.2.2.2).mono ?_
      rintro e w' ⟨v, rfl, hfr, hu, hb⟩
      exact ⟨v, rfl, hu, hfr, fun u k hk => hk.below9 hb, h.same hb⟩
    · obtain ⟨q, rfl⟩ : ∃ q : Nat, p = (q : Int) := ⟨p.toNat, by have := hok.2.1; omega⟩
      have hq36 : q ≤ 36 := by have := hok.2.2; omega
      have hS : ctS G M.cur L x (q : Int) = keepL (lisL G M.cur L x.i) (q - 4) := by unfold ctS; rw [Int.toNat_natCast]
      by_cases hk : keepL (lisL G M.cur L x.i) (q - 4) = lisL G M.cur L x.i
      · have hE : ctE M.n (capL n) G M.cur L x (q : Int) = 0 := by unfold ctE; rw [if_pos hok, if_neg h4, hS, if_pos hk]
        have hL : ctL M.n (capL n) G M.cur L x (q : Int) = L := by unfold ctL; rw [if_neg (by rintro ⟨-, -, -, h1⟩; rw [hS] at h1; exact h1 hk)]
        rw [hE, hL]
        unfold ctX ctF
        rw [if_pos rfl, if_neg h4, if_pos rfl]
        obtain ⟨m, hT, hset⟩ := h.on
        refine (cut_high _ _ _ _ x hxf q (by omega) hq36 _ hll (lisL_lt _ _ _ _) 0 W m (txIn_lt hT.tx) (fun w' => TxIn w' tb b jb m M.n L) (fun V V' hV hs => hV.kept (hs _ hT.tx.lt.1) (hs _ hT.tx.lt.2)) (fun V => hr 0 h0 V) (fun V hV => read_tx (h.below hV) hG hN x.i hok.1.2.2.2.2.2)
          (fun V hV => (shorten_same _ _ _ _ x.i _ hll (q - 4) (by omega) _ (by omega) hk V).mono fun e w' hx => ⟨hx.1, (hT.tx.below hV).below hx.2, Only.of_below hx.2⟩)).mono ?_
        rintro e w' ⟨y, v, rfl, hy, -, hT', ho⟩
        obtain ⟨rfl, hfr, hu⟩ := hy rfl
        exact ⟨v, rfl, hu, hfr, fun u k hk => hk.only9 hT.tx ho, h.turn (hset w' _ hT' ho) h.ok⟩
      · have hi : x.i ≠ 0 := fun hi => hk (by
          unfold lisL
          rw [if_pos hi]
          unfold keepL
          rw [List.take_replicate, List.replicate_append_replicate]
          congr 1; omega)
        have hE : ctE M.n (capL n) G M.cur L x (q : Int) = wrE M.n (capL n) L (secB G x.i : Nat) (tellL (keepL (lisL G M.cur L x.i) (q - 4))) := by unfold ctE; rw [if_pos hok, if_neg h4, hS, if_neg hk]
        have hL : ctL M.n (capL n) G M.cur L x (q : Int) = wrL M.n (capL n) L (secB G x.i : Nat) (tellL (keepL (lisL G M.cur L x.i) (q - 4))) := by unfold ctL; rw [hS, if_pos ⟨hok.1, hok.2, by omega, hk⟩]
        rw [hE, hL]
        obtain ⟨m, hT, hset⟩ := h.on
        refine (cut_high _ _ _ _ x hxf q (by omega) hq36 _ hll (lisL_lt _ _ _ _) _ W m (txIn_lt hT.tx) (fun w' => TxIn w' tb b jb m M.n (wrL M.n (capL n) L (secB G x.i : Nat) (tellL (keepL (lisL G M.cur L x.i) (q - 4))))) (fun V V' hV hs => hV.kept (hs _ hT.tx.lt.1) (hs _ hT.tx.lt.2)) (fun V => hr 0 h0 V) (fun V hV => read_tx (h.below hV) hG hN x.i hok.1.2.2.2.2.2)
          (fun V hV => shorten_in h hG x.i (by omega) hok.1.2.2.2.2.2 _ hll (lisL_lt _ _ _ _) (q - 4) (by omega) _ (by omega) hk hT V hV)).mono ?_
        rintro e w' ⟨y, v, rfl, hy0, hy1, hT', ho⟩
        have hnl : ¬ ((q : Int) ≤ 4) := h4
        unfold ctX ctF
        by_cases hz : wrE M.n (capL n) L (secB G x.i : Nat) (tellL (keepL (lisL G M.cur L x.i) (q - 4))) = 0
        · obtain ⟨rfl, hfr, hu⟩ := hy0 hz
          rw [if_pos hz, if_neg hnl, if_pos hz]
          exact ⟨v, rfl, hu, hfr, fun u k hk => hk.only9 hT.tx ho, h.wrote hset _ _ hT' ho⟩
        · obtain ⟨rfl, rfl⟩ := hy1 hz
          rw [if_neg hz, if_neg hz]
          exact ⟨_, rfl, u16s_nil _, fun k hk => (by cases hk), fun u k hk => hk.only9 hT.tx ho, h.wrote hset _ _ hT' ho⟩
  · have h2 : (2 : Int) = if fitB G x 0 ∧ decide (0 ≤ p ∧ p ≤ 36) = true then 0 else 2 := by rw [if_neg (fun e => hok ⟨e.1, of_decide_eq_true e.2⟩)]
    have hE : ctE M.n (capL n) G M.cur L x p = 2 := by unfold ctE; rw [if_neg hok]
    have hL : ctL M.n (capL n) G M.cur L x p = L := by unfold ctL; rw [if_neg (by rintro ⟨h1, h3, -⟩; exact hok ⟨h1, h3⟩)]
    have hX : ctX x p 2 = Im.nought := by unfold ctX; rw [if_neg (by decide)]
    have hF : ctF G M.cur L x p 2 = [] := by unfold ctF; rw [if_neg (by decide)]
    rw [hE, hL, hX, hF]
    exact (cut_no _ _ _ _ x p 2 (by decide) W fun V => hr 2 h2 V).mono fun e w' hx => ⟨_, hx.1, u16s_nil _, fun k hk => (by cases hk), fun u k hk => hk.below9 hx.2, h.same hx.2⟩
end
/-! The calls. -/
def frR (b jb tb : Nat) (l : List Nat) (rs : List Res) : List Res := devR b (dev0 63) :: jourR jb b 1 40 0 :: txR tb b jb 63 (frL l) :: rs
def Fr (w W : World) (b jb tb : Nat) (l : List Nat) (rs : List Res) : Prop := TxSys w W (frR b jb tb l rs) 2 0 1 tb b jb 1 40 0 (dev0 63) (frL l)
section
variable {w W : World} {b jb tb : Nat} {x : Im} {l : List Nat} {rs : List Res}
theorem Fr.below (h : Fr w W b jb tb l rs) {W' : World} (hb : Below W.heap.size W W') : Fr w W' b jb tb l rs := TxSys.below h hb
theorem Fr.all (h : Fr w W b jb tb l rs) : Below w.heap.size w W := h.sys.all
theorem fr_get (h : Fr w W b jb tb l rs) (hk : Kp x l) (p : Nat) (hp : p < 36) :
    Calls Tryz.prog 16 #[devp tb, smallV, x.v, .int .i64 (p : Int)] W fun e w' => e = .returned (.tuple #[w16 ((vecL x l).getD p 0), .int .i64 0]) ∧ Below W.heap.size W w' := by
  have := bget_tx h smallG_ok rfl x hk.fits (p : Int)
  rw [(kp_get (f := (dev0 63).cur) hk hp).1, (kp_get (f := (dev0 63).cur) hk hp).2] at this
  exact this
theorem fr_set (h : Fr w W b jb tb l rs) (hk : Kp x l) (hi : x.i = 16) (p c : Nat) (hp : p < 36) (hc : c ≤ 16) :
    Calls Tryz.prog 10 #[devp tb, smallV, x.v, .int .i64 (p : Int), w16 c] W fun e w' => ∃ x' l', e = .returned (.tuple #[x'.v, .int .i64 0]) ∧ Fr w w' b jb tb l' rs ∧ Kp x' l' ∧ x'.i = 16 ∧ vecL x' l' = (vecL x l).set p c := by
  have hs := bset_tx h smallG_ok rfl x hk.fits (p : Int) c (by omega)
  obtain ⟨h0, x', l', h1, h2, h3, h4, h5⟩ := kp_set (f := (dev0 63).cur) hk hi hp hc
  have e63 : (dev0 63).n = 63 := rfl
  rw [e63, h0, h1, h2] at hs
  exact hs.mono fun e w' hx => ⟨x', l', hx.1, hx.2, h3, h4, h5⟩
theorem fr_cut (h : Fr w W b jb tb l rs) (hk : Kp x l) (n : Nat) (hn : n ≤ 36) :
    Calls Tryz.prog 13 #[devp tb, smallV, x.v, .int .i64 (n : Int)] W fun e w' => ∃ v l', e = .returned (.tuple #[(cutX x n).v, v, .int .i64 0]) ∧ U16s w' v (freeV x l n) ∧ (∀ u k, U16s W u k → U16s w' u k) ∧ Fr w w' b jb tb l' rs ∧ Kp (cutX x n) l' ∧ vecL (cutX x n) l' = keepV (vecL x l) n := by
  have hs := bcut_txk h smallG_ok rfl x hk.fits (n : Int)
  obtain ⟨h0, h1, h2, l', h3, h4, h5⟩ := kp_cut (f := (dev0 63).cur) hk hn
  have e63 : (dev0 63).n = 63 := rfl
  rw [e63, h0, h1, h2, h3] at hs
  exact hs.mono fun e w' hx => by
    obtain ⟨v, he, hu, -, hq, hT⟩ := hx
    exact ⟨v, l', he, hu, hq, hT, h4, h5⟩
theorem fr_all (h : Fr w W b jb tb l rs) (hk : Kp x l) :
    Calls Tryz.prog 12 #[devp tb, smallV, x.v] W fun e w' => ∃ v, e = .returned (.tuple #[v, .int .i64 0]) ∧ U16s w' v (freeV x l 0) ∧ Below W.heap.size W w' := by
  have hs := ball_tx h smallG_ok rfl x hk.fits
  obtain ⟨h0, h1, h2, l', h3, h4, h5⟩ := kp_cut (f := (dev0 63).cur) hk (n := 0) (by omega)
  have e63 : (dev0 63).n = 63 := rfl
  have ez : ((0 : Nat) : Int) = 0 := rfl
  rw [ez] at h0 h2
  rw [e63, h0, h2] at hs
  exact hs
end
end Go.Proofs.YtdddennhdbmolaaGreat
