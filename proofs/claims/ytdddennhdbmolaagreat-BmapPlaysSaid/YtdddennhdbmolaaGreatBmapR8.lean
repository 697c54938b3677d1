/- Layer 9 (bmap), the document's answers: what each function answers, by the same words as the code's. -/
import Derived.Test.YtdddennhdbmolaaGreatBmapR7
namespace Go.Proofs.YtdddennhdbmolaaGreat
open Go.RowKit Go.Maps Go.Lib
set_option linter.unusedVariables false
set_option linter.unusedSimpArgs false
set_option maxRecDepth 10000
theorem freeL_spare (x : Im) (l : List Nat) (p : Nat) : freeL (p : Int) (prL x l) = spareL x l p := by
  rw [← prL_spare]
  unfold freeL
  congr 1
  apply List.filter_congr
  intro r _
  rw [Bool.eq_iff_iff, decide_eq_true_iff, decide_eq_true_iff]
  omega
section
variable {w W : World} {rs : List Res} {r q rb N most : Nat} {f : Nat → List UInt8} {v : Value} {L : PutL} {G : Gm}
theorem RefSys.val (h : RefSys w W rs r q rb v N most f L) (hN : N = G.all) {k : Nat} (h1 : 1 ≤ k) (h2 : k ≤ G.b) : ((look L (secB G k)).getD (f (secB G k))).length = 64 :=
  val_length h.ok.ok (g := f) (h.each _ (by rw [hN]; exact secB_lt h1 h2))
theorem RefSys.lis (h : RefSys w W rs r q rb v N most f L) (hN : N = G.all) {k : Nat} (h2 : k ≤ G.b) : (lisL G f L k).length = 32 := by
  unfold lisL
  split
  · rfl
  · rw [numsL_length, h.val hN (by omega) h2]
theorem RefSys.same (h : RefSys w W rs r q rb v N most f L) {W' : World} (hb : Below W.heap.size W W') : RefSys w W' (rs.set r (refR rb v L most)) r q rb v N most f L := by
  rw [set_same h.hr]
  exact h.below hb
theorem told_ref (h : RefSys w W rs r q rb v N most f L) (hG : G.ok) (hN : N = G.all) (x : Im) (hk : x.i ≤ G.b) :
    Calls Tryz.prog 59 #[devp rb, gv G, x.v] W fun e w' => ∃ u, e = .returned (.tuple #[u, .int .i64 0]) ∧ OwnN w' W.heap.size u (lisL G f L x.i) ∧ Below W.heap.size W w' := by
  unfold lisL
  by_cases h0 : x.i = 0
  · rw [if_pos h0]
    exact refTold9_zero _ G x h0 W
  · rw [if_neg h0]
    refine refTold9_ok _ G hG x (by omega) hk _ (h.val hN (by omega) hk) W fun V hV => ?_
    have hsec := secB_lt (G := G) (k := x.i) (by omega) hk
    have hr := sys_refRead (h.below hV) ((secB G x.i : Nat) : Int)
    have hE : rdE N ((secB G x.i : Nat) : Int) = 0 := by unfold rdE; rw [if_neg (by omega)]
    have hS : rdS N f L ((secB G x.i : Nat) : Int) = (look L (secB G x.i)).getD (f (secB G x.i)) := by unfold rdS; rw [if_neg (by omega), Int.toNat_natCast]
    rw [hE, hS] at hr
    exact hr
/-- The document's transaction, written to, in a world whose new blocks begin at n. -/
def RefQ (rb : Nat) (v u : Value) (most : Nat) (L' : PutL) (n : Nat) (V : World) : Prop := ∃ u', RefIn V rb v u' L' most ∧ (u' = u ∨ ∀ k, u'.ownBlock = some k → n ≤ k)
theorem RefQ.keep {u : Value} (hR : RefIn W rb v u L most) {L' : PutL} (n : Nat) (V V' : World) (hn : W.heap.size ≤ n) (h : RefQ rb v u most L' n V) (hs : ∀ k, k < W.heap.size ∨ n ≤ k → V'.heap[k]? = V.heap[k]?) : RefQ rb v u most L' W.heap.size V' := by
  obtain ⟨u', h1, h2⟩ := h
  refine ⟨u', h1.kept (hs _ (.inl hR.lt.1)) (fun k hk => ?_), ?_⟩
  · rcases h2 with rfl | h2
    · exact hs k (.inl (hR.lt.2 k hk))
    · exact hs k (.inr (h2 k hk))
  · rcases h2 with rfl | h2
    · exact .inl rfl
    · exact .inr fun k hk => Nat.le_trans hn (h2 k hk)
theorem tell_in (h : RefSys w W rs r q rb v N most f L) (hG : G.ok) (x : Im) (h1 : 1 ≤ x.i) (h2 : x.i ≤ G.b) (l : List Nat) (hl : l.length ≤ 32) (hlt : ∀ y ∈ l, y < 65536) {u : Value} (hR : RefIn W rb v u L most) (hv : Txt W v (secs N f)) (V : World) (hV : Below W.heap.size W V) (sv : Value) (hsv : U16s V sv l) :
    Calls Tryz.prog 60 #[devp rb, gv G, x.v, sv] V fun e w' => e = .returned (.int .i64 (wrE N most L (secB G x.i : Nat) (tellL l))) ∧ RefQ rb v u most (wrL N most L (secB G x.i : Nat) (tellL l)) V.heap.size w' ∧ Only (fun k => k = rb) V w' :=
  refTell9_any _ G hG x h1 h2 l hl hlt sv _ V hsv (fun w' => RefQ rb v u most (wrL N most L (secB G x.i : Nat) (tellL l)) V.heap.size w' ∧ Only (fun k => k = rb) V w') fun V2 hV2 => by
    have hV3 := hV.trans (hV2.mono hV.size)
    obtain ⟨-, -, hv2, -⟩ := (h.below hV3).on
    refine (ref_write (h.below hV3) _ _ (by rw [tellL_length l hl]; omega) (hR.below hV3) hv2).mono ?_
    rintro e w' ⟨rfl, u', g1, g2, g3⟩
    refine ⟨rfl, ⟨u', g1, ?_⟩, (Only.of_below hV2).trans g2 fun j hj => .inl hj⟩
    rcases g3 with g3 | g3
    · exact .inl g3
    · exact .inr fun k hk => Nat.le_trans hV2.size (g3 k hk)
theorem RefSys.wrote (h : RefSys w W rs r q rb v N most f L) {u : Value} (hset : ∀ W' L' u', RefIn W' rb v u' L' most → Only (fun k => k = rb) W W' → (u' = u ∨ ∀ k, u'.ownBlock = some k → W.heap.size ≤ k) → Sys w W' (rs.set r (refR rb v L' most))) {W' : World} (s : Int) (d : List UInt8)
    (hQ : RefQ rb v u most (wrL N most L s d) W.heap.size W') (ho : Only (fun k => k = rb) W W') : RefSys w W' (rs.set r (refR rb v (wrL N most L s d) most)) r q rb v N most f (wrL N most L s d) := by
  obtain ⟨u', h1, h2⟩ := hQ
  exact h.turn (hset W' _ u' h1 ho h2) (h.ok.wr s d)
theorem rget_ref (h : RefSys w W rs r q rb v N most f L) (hG : G.ok) (hN : N = G.all) (x : Im) (hxf : x.fits) (p : Int) :
    Calls Tryz.prog 35 #[devp rb, gv G, x.v, .int .i64 p] W fun e w' => e = .returned (.tuple #[w16 (gtV G f L x p), .int .i64 (gtE G x p)]) ∧ Below W.heap.size W w' := by
  unfold gtV gtE
  by_cases hok : fitB G x 0 ∧ pageP p
  · rw [if_pos hok, if_pos hok]
    by_cases h4 : p < 4
    · rw [if_pos h4]
      obtain ⟨q, rfl⟩ : ∃ q : Nat, p = (q : Int) := ⟨p.toNat, by have := hok.2.1; omega⟩
      rw [Int.toNat_natCast]
      exact rget_dir _ G hG x hxf q (by omega) hok.1 W
    · rw [if_neg h4]
      obtain ⟨q, hq⟩ : ∃ q : Nat, p = (q : Int) + 4 := ⟨p.toNat - 4, by omega⟩
      have hpq := hok.2.2
      rw [show p.toNat - 4 = q by omega]
      exact rget_ind rb G hG x hxf q (by omega) p hq hok.1 _ (h.lis hN hok.1.2.2.2.2.2) W fun V hV => told_ref (h.below hV) hG hN x hok.1.2.2.2.2.2
  · rw [if_neg hok, if_neg hok]
    exact rget_no _ G hG x hxf p hok W
theorem rset_ref (h : RefSys w W rs r q rb v N most f L) (hG : G.ok) (hN : N = G.all) (x : Im) (hxf : x.fits) (p : Int) (c : Nat) (hc : c < 65536) :
    Calls Tryz.prog 37 #[devp rb, gv G, x.v, .int .i64 p, w16 c] W fun e w' => e = .returned (.tuple #[(stX x p c (stE N most G f L x p c)).v, .int .i64 (stE N most G f L x p c)]) ∧
      RefSys w w' (rs.set r (refR rb v (stL N most G f L x p c) most)) r q rb v N most f (stL N most G f L x p c) := by
  by_cases hok : fitB G x c ∧ pageP p
  · by_cases h4 : p < 4
    · have hE : stE N most G f L x p c = 0 := by unfold stE; rw [if_pos hok, if_pos h4]
      have hL : stL N most G f L x p c = L := by unfold stL; rw [if_neg (by rintro ⟨-, -, h1, -⟩; omega)]
      rw [hE, hL]
      unfold stX
      rw [if_pos rfl, if_pos h4]
      obtain ⟨p', rfl⟩ : ∃ q : Nat, p = (q : Int) := ⟨p.toNat, by have := hok.2.1; omega⟩
      rw [setDir_page x p' (by omega)]
      exact (rset_dir _ G hG x hxf p' (by omega) c hc hok.1 W).mono fun e w' hx => ⟨hx.1, h.same hx.2⟩
    · by_cases hi : x.i = 0
      · have hE : stE N most G f L x p c = 3 := by unfold stE; rw [if_pos hok, if_neg h4, if_pos hi]
        have hL : stL N most G f L x p c = L := by unfold stL; rw [if_neg (by rintro ⟨-, -, -, h1⟩; exact h1 hi)]
        have hX : stX x p c 3 = Im.nought := by unfold stX; rw [if_neg (by decide)]
        rw [hE, hL, hX]
        exact (rset_none _ G hG x hxf p c hc hok (by omega) hi W).mono fun e w' hx => ⟨hx.1, h.same hx.2⟩
      · obtain ⟨p', hp'⟩ : ∃ q : Nat, p = (q : Int) + 4 := ⟨p.toNat - 4, by omega⟩
        have hpq := hok.2.2
        have hE : stE N most G f L x p c = wrE N most L (secB G x.i : Nat) (stS G f L x p c) := by unfold stE; rw [if_pos hok, if_neg h4, if_neg hi]
        have hL : stL N most G f L x p c = wrL N most L (secB G x.i : Nat) (stS G f L x p c) := by unfold stL; rw [if_pos ⟨hok.1, hok.2, by omega, hi⟩]
        have hS : stS G f L x p c = tellL ((lisL G f L x.i).set p' c) := by unfold stS; rw [show p.toNat - 4 = p' by omega]
        rw [hE, hL, hS]
        obtain ⟨u, hR, hv, hset⟩ := h.on
        have hll := h.lis hN hok.1.2.2.2.2.2
        refine (rset_ind rb G hG x hxf p' (by omega) p hp' c hc hok.1 hi _ hll _ W rb hR.lt.1 (RefQ rb v u most (wrL N most L (secB G x.i : Nat) (tellL ((lisL G f L x.i).set p' c)))) (fun n V V' => RefQ.keep hR n V V') (fun V hV => told_ref (h.below hV) hG hN x hok.1.2.2.2.2.2)
          (fun V sv hV hsv => tell_in h hG x (by omega) hok.1.2.2.2.2.2 _ (by rw [List.length_set]; omega) (lis_set (lisL_lt _ _ _ _) p' hc) hR hv V hV sv hsv)).mono ?_
        rintro e w' ⟨y, rfl, hy0, hy1, hT', ho⟩
        refine ⟨?_, h.wrote hset _ _ hT' ho⟩
        unfold stX
        by_cases hz : wrE N most L (secB G x.i : Nat) (tellL ((lisL G f L x.i).set p' c)) = 0
        · rw [if_pos hz, if_neg h4, hy0 hz]
        · rw [if_neg hz, hy1 hz]
  · have hE : stE N most G f L x p c = 2 := by unfold stE; rw [if_neg hok]
    have hL : stL N most G f L x p c = L := by unfold stL; rw [if_neg (by rintro ⟨h1, h3, -⟩; exact hok ⟨h1, h3⟩)]
    have hX : stX x p c 2 = Im.nought := by unfold stX; rw [if_neg (by decide)]
    rw [hE, hL, hX]
    exact (rset_no _ G hG x hxf p c hc hok W).mono fun e w' hx => ⟨hx.1, h.same hx.2⟩
theorem rbeg_ref (h : RefSys w W rs r q rb v N most f L) (hG : G.ok) (x : Im) (hxf : x.fits) (c : Nat) (hc : c < 65536) :
    Calls Tryz.prog 38 #[devp rb, gv G, x.v, w16 c] W fun e w' => e = .returned (.tuple #[(bgX x c (bgE N most G L x c)).v, .int .i64 (bgE N most G L x c)]) ∧
      RefSys w w' (rs.set r (refR rb v (bgL N most G L x c) most)) r q rb v N most f (bgL N most G L x c) := by
  by_cases hok : fitB G x c ∧ c ≠ 0 ∧ x.i = 0
  · have hz64 : tellL [] = List.replicate 64 0 := by decide
    have hE : bgE N most G L x c = wrE N most L (secB G c : Nat) (tellL []) := by unfold bgE; rw [if_pos hok, hz64]
    have hL : bgL N most G L x c = wrL N most L (secB G c : Nat) (tellL []) := by unfold bgL; rw [if_pos hok, hz64]
    rw [hE, hL]
    obtain ⟨u, hR, hv, hset⟩ := h.on
    refine (rbegin_ok rb G hG x hxf c hc hok _ W rb hR.lt.1 (RefQ rb v u most (wrL N most L (secB G c : Nat) (tellL []))) (fun n V V' => RefQ.keep hR n V V')
      (fun V hV => tell_in h hG ({ x with i := c } : Im) (show 1 ≤ c by have := hok.2.1; omega) hok.1.1 [] (by simp) (fun y hy => by simp at hy) hR hv V hV _ (u16s_nil V))).mono ?_
    rintro e w' ⟨y, rfl, hy0, hy1, hT', ho⟩
    refine ⟨?_, h.wrote hset _ _ hT' ho⟩
    unfold bgX
    by_cases hz : wrE N most L (secB G c : Nat) (tellL []) = 0
    · rw [if_pos hz, hy0 hz]
    · rw [if_neg hz, hy1 hz]
  · have hE : bgE N most G L x c = 2 := by unfold bgE; rw [if_neg hok]
    have hL : bgL N most G L x c = L := by unfold bgL; rw [if_neg hok]
    have hX : bgX x c 2 = Im.nought := by unfold bgX; rw [if_neg (by decide)]
    rw [hE, hL, hX]
    exact (rbegin_no _ G hG x hxf c hc hok W).mono fun e w' hx => ⟨hx.1, h.same hx.2⟩
theorem rcut_ref (h : RefSys w W rs r q rb v N most f L) (hG : G.ok) (hN : N = G.all) (x : Im) (hxf : x.fits) (p : Int) :
    Calls Tryz.prog 39 #[devp rb, gv G, x.v, .int .i64 p] W fun e w' => ∃ s, e = .returned (.tuple #[(ctX x p (ctE N most G f L x p)).v, s, .int .i64 (ctE N most G f L x p)]) ∧ U16s w' s (ctF G f L x p (ctE N most G f L x p)) ∧ (p ≤ 4 → Below W.heap.size W w') ∧ Only (fun k => k = rb) W w' ∧
      RefSys w w' (rs.set r (refR rb v (ctL N most G f L x p) most)) r q rb v N most f (ctL N most G f L x p) := by
  by_cases hok : fitB G x 0 ∧ cutP p
  · have hll := h.lis hN hok.1.2.2.2.2.2
    obtain ⟨p', rfl⟩ : ∃ q : Nat, p = (q : Int) := ⟨p.toNat, by have := hok.2.1; omega⟩
    have hp36 : p' ≤ 36 := by have := hok.2.2; omega
    have hS : ctS G f L x (p' : Int) = keepL (lisL G f L x.i) (p' - 4) := by unfold ctS; rw [Int.toNat_natCast]
    have hl0 : x.i = 0 → ∀ b ∈ lisL G f L x.i, b = 0 := fun hi b hb => by
      unfold lisL at hb
      rw [if_pos hi] at hb
      exact List.eq_of_mem_replicate hb
    obtain ⟨u, hR, hv, hset⟩ := h.on
    refine (rcut_ok rb G hG x hxf p' hp36 hok.1 _ hll hl0 (wrE N most L (secB G x.i : Nat) (tellL (keepL (lisL G f L x.i) (p' - 4)))) W rb hR.lt.1 (RefQ rb v u most (wrL N most L (secB G x.i : Nat) (tellL (keepL (lisL G f L x.i) (p' - 4))))) (fun n V V' => RefQ.keep hR n V V') (fun V hV => told_ref (h.below hV) hG hN x hok.1.2.2.2.2.2)
      (fun hp hk V sv hV hsv => tell_in h hG x (by
        rcases Nat.eq_zero_or_pos x.i with hi | hi
        · exact absurd (by
            unfold lisL
            rw [if_pos hi]
            unfold keepL
            rw [List.take_replicate, List.replicate_append_replicate]
            congr 1; omega) hk
        · exact hi) hok.1.2.2.2.2.2 _ (by rw [keepL_length hll (by omega)]; omega) (keepL_lt (lisL_lt _ _ _ _) _) hR hv V hV sv hsv)).mono ?_
    rintro e w' ⟨y, s, e1, rfl, hc⟩
    rcases hc with ⟨hcase, rfl, rfl, hu, hb⟩ | ⟨hp4, hk, rfl, hy0, hy1, hT', ho⟩
    · have hE : ctE N most G f L x (p' : Int) = 0 := by
        unfold ctE
        rw [if_pos hok]
        rcases hcase with h4 | hk
        · rw [if_pos (by omega)]
        · rw [hS, if_pos hk]; split <;> rfl
      have hL : ctL N most G f L x (p' : Int) = L := by
        unfold ctL
        rw [hS]
        rw [if_neg]
        rintro ⟨-, -, h4, hk⟩
        rcases hcase with h4' | hk'
        · omega
        · exact hk hk'
      rw [hE, hL]
      unfold ctX ctF
      rw [if_pos rfl, if_pos rfl, freeL_spare, Int.toNat_natCast]
      refine ⟨s, ?_, hu, fun _ => hb, Only.of_below hb, h.same hb⟩
      by_cases h4 : p' ≤ 4
      · rw [if_pos h4, if_pos (by omega)]
      · rw [if_neg h4, if_neg (by omega)]
    · have h4 : ¬ ((p' : Int) ≤ 4) := by omega
      have hE : ctE N most G f L x (p' : Int) = wrE N most L (secB G x.i : Nat) (tellL (keepL (lisL G f L x.i) (p' - 4))) := by unfold ctE; rw [if_pos hok, if_neg h4, hS, if_neg hk]
      have hL : ctL N most G f L x (p' : Int) = wrL N most L (secB G x.i : Nat) (tellL (keepL (lisL G f L x.i) (p' - 4))) := by unfold ctL; rw [hS, if_pos ⟨hok.1, hok.2, by omega, hk⟩]
      rw [hE, hL]
      unfold ctX ctF
      by_cases hz : wrE N most L (secB G x.i : Nat) (tellL (keepL (lisL G f L x.i) (p' - 4))) = 0
      · obtain ⟨rfl, hu⟩ := hy0 hz
        rw [if_pos hz, if_neg h4, if_pos hz, freeL_spare]
        exact ⟨s, rfl, hu, fun h => absurd h h4, ho, h.wrote hset _ _ hT' ho⟩
      · obtain ⟨rfl, rfl⟩ := hy1 hz
        rw [if_neg hz, if_neg hz]
        exact ⟨_, rfl, u16s_nil _, fun h => absurd h h4, ho, h.wrote hset _ _ hT' ho⟩
  · have hE : ctE N most G f L x p = 2 := by unfold ctE; rw [if_neg hok]
    have hL : ctL N most G f L x p = L := by unfold ctL; rw [if_neg (by rintro ⟨h1, h3, -⟩; exact hok ⟨h1, h3⟩)]
    have hX : ctX x p 2 = Im.nought := by unfold ctX; rw [if_neg (by decide)]
    have hF : ctF G f L x p 2 = [] := by unfold ctF; rw [if_neg (by decide)]
    rw [hE, hL, hX, hF]
    exact (rcut_no _ G hG x hxf p hok W).mono fun e w' hx => ⟨_, hx.1, u16s_nil _, fun _ => hx.2, Only.of_below hx.2, h.same hx.2⟩
theorem rall_ref (h : RefSys w W rs r q rb v N most f L) (hG : G.ok) (hN : N = G.all) (x : Im) (hxf : x.fits) :
    Calls Tryz.prog 36 #[devp rb, gv G, x.v] W fun e w' => ∃ s, e = .returned (.tuple #[s, .int .i64 (ctE N most G f L x 0)]) ∧ U16s w' s (ctF G f L x 0 (ctE N most G f L x 0)) ∧ Below W.heap.size W w' :=
  rall_of _ G x _ _ _ W fun V hV => (rcut_ref (h.below hV) hG hN x hxf 0).mono fun e w' hx => by
    obtain ⟨s, he, hu, hb, -⟩ := hx
    exact ⟨s, he, hu, hb (by decide)⟩
end
end Go.Proofs.YtdddennhdbmolaaGreat
