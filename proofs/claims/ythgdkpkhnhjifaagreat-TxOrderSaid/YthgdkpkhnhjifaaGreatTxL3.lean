/- Layer 8 (tx): a transaction, and the document's one, step by step. -/
import Derived.Test.YthgdkpkhnhjifaaGreatTxL2
namespace Go.Proofs.YthgdkpkhnhjifaaGreat
open Go.RowKit Go.Maps
set_option linter.unusedVariables false
set_option linter.unusedSimpArgs false
set_option maxRecDepth 10000
/-! What is answered, and what is written then. -/
def rdE (N : Nat) (i : Int) : Int := if i < 0 ∨ (N : Int) ≤ i then 2 else 0
def rdS (N : Nat) (f : Nat → List UInt8) (L : PutL) (i : Int) : List UInt8 := if i < 0 ∨ (N : Int) ≤ i then [] else (look L i.toNat).getD (f i.toNat)
def wrE (N cap : Nat) (L : PutL) (i : Int) (s : List UInt8) : Int := if i < 0 ∨ (N : Int) ≤ i ∨ s.length ≠ 64 then 2 else if look L i.toNat = none ∧ cap ≤ L.length then 4 else 0
def wrL (N cap : Nat) (L : PutL) (i : Int) (s : List UInt8) : PutL := if wrE N cap L i s = 0 then ins L i.toNat s else L
def ptBad (N : Nat) (i f : Int) (s : List UInt8) : Prop := i < 0 ∨ (N : Int) ≤ i ∨ f < 0 ∨ 64 - (s.length : Int) < f
instance (N : Nat) (i f : Int) (s : List UInt8) : Decidable (ptBad N i f s) := by unfold ptBad; infer_instance
def ptS (g : Nat → List UInt8) (L : PutL) (i f : Int) (s : List UInt8) : List UInt8 := over ((look L i.toNat).getD (g i.toNat)) f.toNat s
def ptE (N cap : Nat) (g : Nat → List UInt8) (L : PutL) (i f : Int) (s : List UInt8) : Int := if ptBad N i f s then 2 else wrE N cap L i (ptS g L i f s)
def ptL (N cap : Nat) (g : Nat → List UInt8) (L : PutL) (i f : Int) (s : List UInt8) : PutL := if ptBad N i f s then L else wrL N cap L i (ptS g L i f s)
/-- What is true of each row that was written. -/
structure WrOk (N cap : Nat) (L : PutL) : Prop where
  asc : asc L
  ok : PutsOk N L
  cap : L.length ≤ cap
theorem WrOk.nil (N cap : Nat) : WrOk N cap [] := ⟨asc_nil, fun p hp => by simp at hp, Nat.zero_le _⟩
theorem WrOk.wr {N cap : Nat} {L : PutL} (h : WrOk N cap L) (i : Int) (s : List UInt8) : WrOk N cap (wrL N cap L i s) := by
  unfold wrL
  by_cases h0 : wrE N cap L i s = 0
  · rw [if_pos h0]
    unfold wrE at h0
    by_cases h1 : i < 0 ∨ (N : Int) ≤ i ∨ s.length ≠ 64
    · rw [if_pos h1] at h0; cases h0
    · rw [if_neg h1] at h0
      by_cases h2 : look L i.toNat = none ∧ cap ≤ L.length
      · rw [if_pos h2] at h0; cases h0
      · refine ⟨asc_ins h.asc _ _, ok_ins h.ok (by omega) (by omega), ?_⟩
        rw [ins_length h.asc]
        have := h.cap
        split
        · exact this
        · rename_i h3
          have hn : look L i.toNat = none := by cases h4 : look L i.toNat; rfl; rw [h4] at h3; exact absurd rfl h3
          have : ¬ cap ≤ L.length := fun e => h2 ⟨hn, e⟩
          omega
  · rw [if_neg h0]; exact h
theorem WrOk.pt {N cap : Nat} {L : PutL} (h : WrOk N cap L) (g : Nat → List UInt8) (i f : Int) (s : List UInt8) : WrOk N cap (ptL N cap g L i f s) := by
  unfold ptL
  split
  · exact h
  · exact h.wr _ _
theorem val_length {N : Nat} {L : PutL} (h : PutsOk N L) {g : Nat → List UInt8} {i : Nat} (hg : (g i).length = 64) : ((look L i).getD (g i)).length = 64 := by
  cases hl : look L i with
  | none => exact hg
  | some d => exact (h _ (look_mem hl)).2
theorem set_same {rs : List Res} {i : Nat} {r : Res} (h : rs[i]? = some r) : rs.set i r = rs := by
  obtain ⟨hi, he⟩ := List.getElem?_eq_some_iff.1 h
  subst he
  exact List.set_getElem_self hi
section
variable {w W : World} {rs : List Res} {t i j tb b jb F n rec : Nat} {M : Dv} {L : PutL}
/-- A transaction on a device that works. -/
structure TxSys (w W : World) (rs : List Res) (t i j tb b jb F n rec : Nat) (M : Dv) (L : PutL) : Prop where
  sys : Sys w W rs
  ht : rs[t]? = some (txR tb b jb M.n L)
  hi : rs[i]? = some (devR b M)
  hj : rs[j]? = some (jourR jb b F n rec)
  ti : i ≠ t
  tj : j ≠ t
  ij : j ≠ i
  up : M.down = false
  wr : M.wr ≤ 1099511627776
  h4 : 4 ≤ n
  h256 : n ≤ 256
  ok : WrOk M.n (capL n) L
theorem TxSys.on (h : TxSys w W rs t i j tb b jb F n rec M L) : ∃ m, TxOn W tb b jb m M L F n rec ∧ ∀ W' L', TxIn W' tb b jb m M.n L' → Only (fun k => k = m) W W' → Sys w W' (rs.set t (txR tb b jb M.n L')) := by
  obtain ⟨S, ⟨m, hT, hS⟩, -, ho, hset, -⟩ := h.sys.use h.ht
  obtain ⟨T, hD, -⟩ := ho i _ h.ti h.hi
  refine ⟨m, ⟨hT, ⟨T, hD⟩, h.sys.mem h.hj, h.up, h.wr, h.h4, h.h256, h.ok.cap⟩, fun W' L' hT' hO => ?_⟩
  refine hset W' (txR tb b jb M.n L') S ⟨hO.os, hO.tape, hO.output, hO.size, fun k hk hn => hO.block k hk fun e => hn ((hS k).2 (.inr e))⟩ ⟨m, hT', hS⟩ fun k hk => .inl hk
theorem TxSys.turn (h : TxSys w W rs t i j tb b jb F n rec M L) {W' : World} {L' : PutL} (hs : Sys w W' (rs.set t (txR tb b jb M.n L'))) (hok : WrOk M.n (capL n) L') : TxSys w W' (rs.set t (txR tb b jb M.n L')) t i j tb b jb F n rec M L' :=
  ⟨hs, List.getElem?_set_self (idx_lt h.ht), by rw [List.getElem?_set_ne (fun e => h.ti e.symm)]; exact h.hi, by rw [List.getElem?_set_ne (fun e => h.tj e.symm)]; exact h.hj, h.ti, h.tj, h.ij, h.up, h.wr, h.h4, h.h256, hok⟩
theorem TxSys.below (h : TxSys w W rs t i j tb b jb F n rec M L) {W' : World} (hb : Below W.heap.size W W') : TxSys w W' rs t i j tb b jb F n rec M L := { h with sys := h.sys.below hb }
theorem sys_txRead (h : TxSys w W rs t i j tb b jb F n rec M L) (k : Int) :
    Calls Tryz.prog 33 #[devp tb, .int .i64 k] W fun e w' => e = .returned (.tuple #[str (rdS M.n M.cur L k), .int .i64 (rdE M.n k)]) ∧ Below W.heap.size W w' := by
  obtain ⟨m, hT, -⟩ := h.on
  unfold rdS rdE
  by_cases hk : k < 0 ∨ (M.n : Int) ≤ k
  · rw [if_pos hk, if_pos hk]
    exact (txRead_out hT k hk).mono fun e w' hx => ⟨hx.1, by rw [← hx.2]; exact Below.refl _ _⟩
  · rw [if_neg hk, if_neg hk]
    obtain ⟨q, rfl⟩ : ∃ q : Nat, k = (q : Int) := ⟨k.toNat, by omega⟩
    exact txRead_any hT q (by omega)
theorem tx_write (h : TxSys w W rs t i j tb b jb F n rec M L) (k : Int) (s : List UInt8) (hs : s.length ≤ 140737488351232) {m : Nat} (hT : TxOn W tb b jb m M L F n rec) :
    Calls Tryz.prog 24 #[devp tb, .int .i64 k, str s] W fun e w' => e = .returned (.int .i64 (wrE M.n (capL n) L k s)) ∧ TxIn w' tb b jb m M.n (wrL M.n (capL n) L k s) ∧ Only (fun k => k = m) W w' := by
  have hcap := h.ok.cap
  unfold wrL
  by_cases h1 : k < 0 ∨ (M.n : Int) ≤ k ∨ s.length ≠ 64
  · have he : wrE M.n (capL n) L k s = 2 := if_pos h1
    rw [he, if_neg (by decide)]
    refine (txWrite_bad hT k s hs h1).mono fun e w' hx => ⟨hx.1, hT.tx.below hx.2, Only.of_below hx.2⟩
  · obtain ⟨q, rfl⟩ : ∃ q : Nat, k = (q : Int) := ⟨k.toNat, by omega⟩
    rw [Int.toNat_natCast]
    by_cases h2 : look L q = none ∧ capL n ≤ L.length
    · have he : wrE M.n (capL n) L (q : Int) s = 4 := by unfold wrE; rw [if_neg h1, Int.toNat_natCast, if_pos h2]
      rw [he, if_neg (by decide)]
      refine (txWrite_full hT q (by omega) s (by omega) h2.1 (by omega)).mono fun e w' hx => ⟨hx.1, hT.tx.below hx.2, Only.of_below hx.2⟩
    · have he : wrE M.n (capL n) L (q : Int) s = 0 := by unfold wrE; rw [if_neg h1, Int.toNat_natCast, if_neg h2]
      rw [he, if_pos rfl]
      refine txWrite_ok hT q (by omega) s (by omega) ?_
      cases hl : look L q with
      | some d => exact .inl rfl
      | none => exact .inr (Nat.lt_of_not_le fun e => h2 ⟨hl, e⟩)
theorem sys_txWrite (h : TxSys w W rs t i j tb b jb F n rec M L) (k : Int) (s : List UInt8) (hs : s.length ≤ 140737488351232) :
    Calls Tryz.prog 24 #[devp tb, .int .i64 k, str s] W fun e w' => e = .returned (.int .i64 (wrE M.n (capL n) L k s)) ∧ TxSys w w' (rs.set t (txR tb b jb M.n (wrL M.n (capL n) L k s))) t i j tb b jb F n rec M (wrL M.n (capL n) L k s) := by
  obtain ⟨m, hT, hset⟩ := h.on
  exact (tx_write h k s hs hT).mono fun e w' hx => ⟨hx.1, h.turn (hset w' _ hx.2.1 hx.2.2) (h.ok.wr k s)⟩
theorem sys_txPatch (h : TxSys w W rs t i j tb b jb F n rec M L) (k f : Int) (s : List UInt8) (hs : s.length ≤ 140737488351232) :
    Calls Tryz.prog 35 #[devp tb, .int .i64 k, .int .i64 f, str s] W fun e w' => e = .returned (.int .i64 (ptE M.n (capL n) M.cur L k f s)) ∧ TxSys w w' (rs.set t (txR tb b jb M.n (ptL M.n (capL n) M.cur L k f s))) t i j tb b jb F n rec M (ptL M.n (capL n) M.cur L k f s) := by
  obtain ⟨m, hT, hset⟩ := h.on
  obtain ⟨S, hS⟩ := hT.dev
  have hok := h.ok.pt M.cur k f s
  suffices hg : Calls Tryz.prog 35 #[devp tb, .int .i64 k, .int .i64 f, str s] W fun e w' => e = .returned (.int .i64 (ptE M.n (capL n) M.cur L k f s)) ∧ TxIn w' tb b jb m M.n (ptL M.n (capL n) M.cur L k f s) ∧ Only (fun k => k = m) W w' from
    hg.mono fun e w' hx => ⟨hx.1, h.turn (hset w' _ hx.2.1 hx.2.2) hok⟩
  unfold ptE ptL
  by_cases hb : ptBad M.n k f s
  · rw [if_pos hb, if_pos hb]
    exact (txPatch_bad hT k f s hs hb).mono fun e w' hx => ⟨hx.1, hT.tx.below hx.2, Only.of_below hx.2⟩
  · rw [if_neg hb, if_neg hb]
    unfold ptBad at hb
    obtain ⟨q, rfl⟩ : ∃ q : Nat, k = (q : Int) := ⟨k.toNat, by omega⟩
    obtain ⟨g, rfl⟩ : ∃ g : Nat, f = (g : Int) := ⟨f.toNat, by omega⟩
    unfold ptS
    simp only [Int.toNat_natCast]
    have h64 := val_length (L := L) h.ok.ok (g := M.cur) (i := q) (hS.fine.cur (by omega))
    have hol := over_length h64 (f := g) (s := s) (by omega)
    refine (txPatch_any hT q (by omega) g s (by omega) h64 (fun r w' => r = .int .i64 (wrE M.n (capL n) L q (over ((look L q).getD (M.cur q)) g s)) ∧ TxIn w' tb b jb m M.n (wrL M.n (capL n) L q (over ((look L q).getD (M.cur q)) g s)) ∧ Only (fun k => k = m) W w') fun V hbV => ?_).mono ?_
    · exact (tx_write (h.below hbV) q _ (by omega) (hT.below hbV)).mono fun e w' hx => ⟨_, hx.1, ⟨rfl, hx.2.1, (Only.of_below hbV).trans hx.2.2 fun j hj => .inl hj⟩, hx.2.2⟩
    · rintro e w' ⟨r, rfl, rfl, h1, h2⟩
      exact ⟨rfl, h1, h2⟩
end
/-! The document's. -/
section
variable {w W : World} {rs : List Res} {r q rb N most : Nat} {f : Nat → List UInt8} {v : Value} {L : PutL}
structure RefSys (w W : World) (rs : List Res) (r q rb : Nat) (v : Value) (N most : Nat) (f : Nat → List UInt8) (L : PutL) : Prop where
  sys : Sys w W rs
  hr : rs[r]? = some (refR rb v L most)
  hq : rs[q]? = some (txtR v (secs N f))
  rq : q ≠ r
  small : N ≤ 4096
  big : most ≤ 256
  ok : WrOk N most L
  each : ∀ i, i < N → (f i).length = 64
theorem RefSys.on (h : RefSys w W rs r q rb v N most f L) : ∃ u, RefIn W rb v u L most ∧ Txt W v (secs N f) ∧ ∀ W' L' u', RefIn W' rb v u' L' most → Only (fun k => k = rb) W W' → (u' = u ∨ ∀ k, u'.ownBlock = some k → W.heap.size ≤ k) → Sys w W' (rs.set r (refR rb v L' most)) := by
  obtain ⟨S, ⟨u, hR, hS⟩, -, ho, hset, -⟩ := h.sys.use h.hr
  refine ⟨u, hR, h.sys.mem h.hq, fun W' L' u' hR' hO hu => ?_⟩
  refine hset W' (refR rb v L' most) (fun k => k = rb ∨ u'.ownBlock = some k) ⟨hO.os, hO.tape, hO.output, hO.size, fun k hk hn => hO.block k hk fun e => hn ((hS k).2 (.inl e))⟩ ⟨u', hR', fun k => Iff.rfl⟩ fun k hk => ?_
  rcases hk with e | e
  · exact .inl ((hS k).2 (.inl e))
  · rcases hu with hu | hu
    · rw [hu] at e; exact .inl ((hS k).2 (.inr e))
    · exact .inr (hu k e)
theorem RefSys.turn (h : RefSys w W rs r q rb v N most f L) {W' : World} {L' : PutL} (hs : Sys w W' (rs.set r (refR rb v L' most))) (hok : WrOk N most L') : RefSys w W' (rs.set r (refR rb v L' most)) r q rb v N most f L' :=
  ⟨hs, List.getElem?_set_self (idx_lt h.hr), by rw [List.getElem?_set_ne (fun e => h.rq e.symm)]; exact h.hq, h.rq, h.small, h.big, hok, h.each⟩
theorem RefSys.below (h : RefSys w W rs r q rb v N most f L) {W' : World} (hb : Below W.heap.size W W') : RefSys w W' rs r q rb v N most f L := { h with sys := h.sys.below hb }
theorem sys_refRead (h : RefSys w W rs r q rb v N most f L) (k : Int) :
    Calls Tryz.prog 38 #[devp rb, .int .i64 k] W fun e w' => e = .returned (.tuple #[str (rdS N f L k), .int .i64 (rdE N k)]) ∧ Below W.heap.size W w' := by
  obtain ⟨u, hR, hv, -⟩ := h.on
  have hN := h.small
  unfold rdS rdE
  by_cases hk : k < 0 ∨ (N : Int) ≤ k
  · rw [if_pos hk, if_pos hk]
    exact refRead_out hR hv (by rw [secs_length]; exact hN) k (by rw [secs_length]; exact hk)
  · rw [if_neg hk, if_neg hk]
    obtain ⟨q, rfl⟩ : ∃ q : Nat, k = (q : Int) := ⟨k.toNat, by omega⟩
    exact refRead_any hR hv hN q (by omega)
theorem ref_write (h : RefSys w W rs r q rb v N most f L) (k : Int) (s : List UInt8) (hs : s.length ≤ 140737488351232) {u : Value} (hR : RefIn W rb v u L most) (hv : Txt W v (secs N f)) :
    Calls Tryz.prog 25 #[devp rb, .int .i64 k, str s] W fun e w' => e = .returned (.int .i64 (wrE N most L k s)) ∧ ∃ u', RefIn w' rb v u' (wrL N most L k s) most ∧ Only (fun k => k = rb) W w' ∧ (u' = u ∨ ∀ k, u'.ownBlock = some k → W.heap.size ≤ k) := by
  have hN := h.small
  have hl : (secs N f).length = N := secs_length N f
  unfold wrL
  by_cases h1 : k < 0 ∨ (N : Int) ≤ k ∨ s.length ≠ 64
  · have he : wrE N most L k s = 2 := if_pos h1
    rw [he, if_neg (by decide)]
    exact (refWrite_bad hR hv (by omega) k s hs (by rw [hl]; exact h1)).mono fun e w' hx => ⟨hx.1, u, hR.below hx.2, Only.of_below hx.2, .inl rfl⟩
  · obtain ⟨q, rfl⟩ : ∃ q : Nat, k = (q : Int) := ⟨k.toNat, by omega⟩
    rw [Int.toNat_natCast]
    by_cases h2 : look L q = none ∧ most ≤ L.length
    · have he : wrE N most L (q : Int) s = 4 := by unfold wrE; rw [if_neg h1, Int.toNat_natCast, if_pos h2]
      rw [he, if_neg (by decide)]
      exact (refWrite_full hR hv (by omega) q (by omega) s (by omega) h2.1 h2.2).mono fun e w' hx => ⟨hx.1, u, hR.below hx.2, Only.of_below hx.2, .inl rfl⟩
    · have he : wrE N most L (q : Int) s = 0 := by unfold wrE; rw [if_neg h1, Int.toNat_natCast, if_neg h2]
      rw [he, if_pos rfl]
      refine (refWrite_ok hR hv (by omega) q (by omega) s (by omega) ?_ h.big h.ok.cap).mono ?_
      · cases hl : look L q with
        | some d => exact .inl rfl
        | none => exact .inr (Nat.lt_of_not_le fun e => h2 ⟨hl, e⟩)
      · rintro e w' ⟨rfl, u', h1, h2, h3⟩
        exact ⟨rfl, u', h1, h2, .inr h3⟩
theorem sys_refWrite (h : RefSys w W rs r q rb v N most f L) (k : Int) (s : List UInt8) (hs : s.length ≤ 140737488351232) :
    Calls Tryz.prog 25 #[devp rb, .int .i64 k, str s] W fun e w' => e = .returned (.int .i64 (wrE N most L k s)) ∧ RefSys w w' (rs.set r (refR rb v (wrL N most L k s) most)) r q rb v N most f (wrL N most L k s) := by
  obtain ⟨u, hR, hv, hset⟩ := h.on
  refine (ref_write h k s hs hR hv).mono ?_
  rintro e w' ⟨rfl, u', h1, h2, h3⟩
  exact ⟨rfl, h.turn (hset w' _ u' h1 h2 h3) (h.ok.wr k s)⟩
theorem sys_refPatch (h : RefSys w W rs r q rb v N most f L) (k g : Int) (s : List UInt8) (hs : s.length ≤ 140737488351232) :
    Calls Tryz.prog 39 #[devp rb, .int .i64 k, .int .i64 g, str s] W fun e w' => e = .returned (.int .i64 (ptE N most f L k g s)) ∧ RefSys w w' (rs.set r (refR rb v (ptL N most f L k g s) most)) r q rb v N most f (ptL N most f L k g s) := by
  obtain ⟨u, hR, hv, hset⟩ := h.on
  have hok := h.ok.pt f k g s
  have hN := h.small
  have hl : (secs N f).length = N := secs_length N f
  suffices hg : Calls Tryz.prog 39 #[devp rb, .int .i64 k, .int .i64 g, str s] W fun e w' => e = .returned (.int .i64 (ptE N most f L k g s)) ∧ ∃ u', RefIn w' rb v u' (ptL N most f L k g s) most ∧ Only (fun k => k = rb) W w' ∧ (u' = u ∨ ∀ k, u'.ownBlock = some k → W.heap.size ≤ k) by
    refine hg.mono ?_
    rintro e w' ⟨rfl, u', h1, h2, h3⟩
    exact ⟨rfl, h.turn (hset w' _ u' h1 h2 h3) hok⟩
  unfold ptE ptL
  by_cases hb : ptBad N k g s
  · rw [if_pos hb, if_pos hb]
    unfold ptBad at hb
    by_cases hk : k < 0 ∨ (N : Int) ≤ k
    · exact (refPatch_out hR hv (by omega) k g s (by rw [hl]; exact hk)).mono fun e w' hx => ⟨hx.1, u, hR.below hx.2, Only.of_below hx.2, .inl rfl⟩
    · obtain ⟨q, rfl⟩ : ∃ q : Nat, k = (q : Int) := ⟨k.toNat, by omega⟩
      exact (refPatch_bad hR hv hN q (by omega) g s hs (by omega)).mono fun e w' hx => ⟨hx.1, u, hR.below hx.2, Only.of_below hx.2, .inl rfl⟩
  · rw [if_neg hb, if_neg hb]
    unfold ptBad at hb
    obtain ⟨q', rfl⟩ : ∃ q : Nat, k = (q : Int) := ⟨k.toNat, by omega⟩
    obtain ⟨g, rfl⟩ : ∃ g' : Nat, g = (g' : Int) := ⟨g.toNat, by omega⟩
    unfold ptS
    simp only [Int.toNat_natCast]
    have h64 := val_length (L := L) h.ok.ok (g := f) (i := q') (h.each q' (by omega))
    have hol := over_length h64 (f := g) (s := s) (by omega)
    refine (refPatch_any hR hv hN q' (by omega) g s (by omega) h64 (fun r w' => r = .int .i64 (wrE N most L q' (over ((look L q').getD (f q')) g s)) ∧ ∃ u', RefIn w' rb v u' (wrL N most L q' (over ((look L q').getD (f q')) g s)) most ∧ Only (fun k => k = rb) W w' ∧ (u' = u ∨ ∀ k, u'.ownBlock = some k → W.heap.size ≤ k)) fun V hbV => ?_).mono ?_
    · refine (ref_write (h.below hbV) q' _ (by omega) (hR.below hbV) (Txt.below hv hbV)).mono ?_
      rintro e w' ⟨rfl, u', h1, h2, h3⟩
      refine ⟨_, rfl, rfl, u', h1, (Only.of_below hbV).trans h2 (fun j hj => .inl hj), ?_⟩
      rcases h3 with h3 | h3
      · exact .inl h3
      · exact .inr fun k hk => Nat.le_trans hbV.size (h3 k hk)
    · rintro e w' ⟨r, rfl, rfl, h1⟩
      exact ⟨rfl, h1⟩
end
end Go.Proofs.YthgdkpkhnhjifaaGreat
