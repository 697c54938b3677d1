/- Layer 8 (tx): the document's transaction made, and committed; a device that stands still in a commit, and what Open makes of it. -/
import Derived.Test.YthgdkpkhnhjifaaGreatTxL6
namespace Go.Proofs.YthgdkpkhnhjifaaGreat
open Go.RowKit Go.Maps
set_option linter.unusedVariables false
set_option linter.unusedSimpArgs false
set_option maxRecDepth 10000
/-- Which sector a step's number tells. -/
def secN (x : Int) : Nat := 16 + ((IntKind.u64.wrap x).tmod 24).toNat
theorem secN_any (x : Int) : wrap64 (16 + wrap64 ((IntKind.u64.wrap x).tmod 24)) = (secN x : Int) ∧ 16 ≤ secN x ∧ secN x < 40 := by
  have h0 : 0 ≤ IntKind.u64.wrap x := by rw [IntKind.wrap_u64]; omega
  have h1 : (IntKind.u64.wrap x).tmod 24 = (IntKind.u64.wrap x) % 24 := Int.tmod_eq_emod_of_nonneg h0
  unfold secN
  rw [h1]
  have h2 := Int.emod_nonneg (IntKind.u64.wrap x) (show (24 : Int) ≠ 0 by decide)
  have h3 := Int.emod_lt_of_pos (IntKind.u64.wrap x) (show (0 : Int) < 24 by decide)
  generalize (IntKind.u64.wrap x) % 24 = y at *
  have e1 : wrap64 y = y := IntWalk.wrap64_in _ (by omega)
  rw [e1, IntWalk.wrap64_in _ (by omega)]
  omega
/-- What is not asked for any more. -/
def deadR (b : Nat) : Res := memR (fun k => k = b) (fun _ => True) fun _ _ _ _ => trivial
section
variable {w W : World} {rs : List Res}
theorem Sys.fine (h : Sys w W rs) {i b : Nat} {M : Dv} (hi : rs[i]? = some (devR b M)) : Fine M := by
  obtain ⟨K, hH, -⟩ := h.dev hi
  exact hH.fine
/-- A row's own form. -/
theorem Sys.row (h : Sys w W rs) {i N : Nat} {v : Value} {f : Nat → List UInt8} (hi : rs[i]? = some (txtR v (secs N f))) : ∃ A c, v = .slice A N c := by
  obtain ⟨A, c, e, -⟩ := Txt.at (h.mem hi)
  rw [secs_length] at e
  exact ⟨A, c, e⟩
theorem ref_new (h : Sys w W rs) (v : Value) (most : Nat) : Sys w (W.alloc (.cells #[v, .slice none 0 0, .int .i64 (most : Int), .bool false] 39)) (rs ++ [refR W.heap.size v [] most]) := by
  have hnew := heap_alloc_new W (.cells #[v, .slice none 0 0, .int .i64 (most : Int), .bool false] 39)
  refine h.push ((Below.refl _ W).alloc (Nat.le_refl _) _) (T := fun k => k = W.heap.size) ⟨.slice none 0 0, ⟨cell_of_row _ _ 0 _ _ _ hnew, cell_of_row _ _ 1 _ _ _ hnew, cell_of_row _ _ 2 _ _ _ hnew, cell_of_row _ _ 3 _ _ _ hnew, frozen_of_row _ _ 1 _ _ hnew, frozen_of_row _ _ 3 _ _ hnew, ⟨rfl, .inl ⟨rfl, rfl⟩⟩, fun k hk => by (cases hk), asc_nil, Nat.zero_le _⟩, fun k => ⟨fun e => .inl e, fun e => ?_⟩⟩ fun k hk => by omega
  rcases e with e | e
  · exact e
  · cases e
theorem sys_refCommit {r q rb N most : Nat} {f : Nat → List UInt8} {v : Value} {L : PutL} (h : RefSys w W rs r q rb v N most f L) (hN : 0 < N) :
    Calls Tryz.prog 20 #[devp rb] W fun e w' => ∃ v', e = .returned v' ∧ Sys w w' (rs.set r (deadR rb) ++ [txtR v' (secs N (laid f L))]) := by
  obtain ⟨S, ⟨u, hR, hS⟩, -, -, -, hset⟩ := h.sys.use h.hr
  refine (refCommit_any hR N f (h.sys.mem h.hq) (fun p hp => (h.ok.ok p hp).1) h.small hN).mono ?_
  rintro e w' ⟨v', rfl, ho, hO⟩
  refine ⟨v', rfl, hset w' (deadR rb) (fun k => k = rb) (txtR v' (secs N (laid f L))) (fun k => v'.ownBlock = some k) ⟨hO.os, hO.tape, hO.output, hO.size, fun k hk hn => hO.block k hk fun e => hn ((hS k).2 (.inl e))⟩ ⟨fun k => Iff.rfl, fun k hk => ?_, trivial⟩ (fun k hk => .inl ((hS k).2 (.inl hk))) ⟨fun k => Iff.rfl, fun k hk => (ho.lt k hk).2, row_of_own ho⟩ (fun k hk => (ho.lt k hk).1) fun k hk hk2 => ?_⟩
  · rw [hk]; exact Nat.lt_of_lt_of_le hR.lt.1 hO.size
  · have := (ho.lt k hk2).1
    have := hR.lt.1
    omega
theorem ours_ins {L : PutL} (h : oursB L = true) (i : Nat) (d : List UInt8) (hi : 16 ≤ i) : oursB (ins L i d) = true := by
  unfold oursB at h ⊢
  rw [List.all_eq_true] at h ⊢
  intro p hp
  rcases ins_mem hp with rfl | hp
  · simp; omega
  · exact h p hp
theorem ours_wr {L : PutL} (h : oursB L = true) (N cap i : Nat) (d : List UInt8) (hi : 16 ≤ i) : oursB (wrL N cap L (i : Int) d) = true := by
  unfold wrL
  split
  · exact ours_ins h _ _ (by omega)
  · exact h
/-- A journal, opened on what a commit left. -/
theorem sys_open_any {i b F n g : Nat} {M : Dv} {f : Nat → List UInt8} {L : PutL} (h : Sys w W rs) (hi : rs[i]? = some (devR b M)) (hT : Tr M.n F n L) (hcap : L.length ≤ capL n) (hwhy : whyL M.n F n (castL L) = 0) (h4 : 4 ≤ n) (h256 : n ≤ 256) (hc : M.calm) (hup : M.down = false) (hl : M.left = 0)
    (hw : M.wr + 8192 ≤ 1099511627776) (hA : Aft M.n F n g f L M.dur) (hg : g < 18446744073709551615) :
    Calls Tryz.prog 29 #[devp b, .int .i64 (F : Int), .int .i64 (n : Int)] W fun e w' =>
      ∃ jb M2 rec g2 f2, e = .returned (.tuple #[devp jb, .int .i64 0]) ∧ Sys w w' (rs.set i (devR b M2) ++ [jourR jb b F n rec]) ∧ M2.n = M.n ∧ M2.wr ≤ M.wr + 4097 ∧ M2.down = false ∧ M2.calm ∧ StA M.n F n g2 f2 M2.dur ∧ (g2 = g ∧ f2 = f ∨ g2 = g + 1 ∧ f2 = laid f L) := by
  have hF := hT.area
  have hll := hT.len
  have clean : ∀ g2 f2, StA M.n F n g2 f2 M.dur → (g2 = g ∧ f2 = f ∨ g2 = g + 1 ∧ f2 = laid f L) → Calls Tryz.prog 29 #[devp b, .int .i64 (F : Int), .int .i64 (n : Int)] W fun e w' =>
      ∃ jb M2 rec g2 f2, e = .returned (.tuple #[devp jb, .int .i64 0]) ∧ Sys w w' (rs.set i (devR b M2) ++ [jourR jb b F n rec]) ∧ M2.n = M.n ∧ M2.wr ≤ M.wr + 4097 ∧ M2.down = false ∧ M2.calm ∧ StA M.n F n g2 f2 M2.dur ∧ (g2 = g ∧ f2 = f ∨ g2 = g + 1 ∧ f2 = laid f L) := fun g2 f2 hS hor => by
    refine (sys_open h hi F n h4 h256 hF hup (by omega) (by rw [calm_cur M hc]; exact hS.pend)).mono ?_
    rintro e w' ⟨jb, rfl, hs⟩
    exact ⟨jb, M, 0, g2, f2, rfl, by rw [set_same hi]; exact hs, rfl, by omega, hup, hc, hS, hor⟩
  rcases hA with hS | hB | hS
  · exact clean g f hS (.inl ⟨rfl, rfl⟩)
  · obtain ⟨r1, r2, r3, r4, r5⟩ := redo_all hT rfl hc hg hB
    have hhd : hd (M.cur F) = ⟨g + 1, true, L.length⟩ := by rw [calm_cur M hc]; exact hB.head
    have hbody : ∀ k (hk : k < (bodyL L).length), M.cur (F + 1 + k) = (bodyL L)[k] := fun k hk => by rw [calm_cur M hc]; exact hB.body k hk
    obtain ⟨K, hH, -, -, -, hset⟩ := h.dev hi
    obtain ⟨u1, u2⟩ := r5 hup hl
    refine (jopen_redo hH F n (g + 1) L h4 h256 hup (by omega) hT hcap hwhy hhd hbody).mono ?_
    rintro e w' (⟨hdn, -⟩ | ⟨-, jb, rfl, hjb, hj, hk, hH2⟩)
    · rw [u1] at hdn; cases hdn
    · obtain ⟨c1, c2⟩ := r4 u1
      exact ⟨jb, _, L.length, g + 1, laid f L, rfl, hset w' _ _ jb hk hH2 ⟨fun k => Iff.rfl, fun k hk => by rw [hk]; exact hj.lt, hj⟩ hjb, r1, by omega, u1, c1, c2, .inr ⟨rfl, rfl⟩⟩
  · exact clean (g + 1) (laid f L) hS (.inr ⟨rfl, rfl⟩)
/-- A commit on a device that stands still somewhere in it. -/
theorem fuse_commit {t i j tb b jb rec k : Nat} {M : Dv} {L : PutL} (h : Sys w W rs) (ht : rs[t]? = some (txR tb b jb M.n L)) (hi : rs[i]? = some (devR b (M.fuse k))) (hj : rs[j]? = some (jourR jb b 4 12 rec)) (ti : i ≠ t) (tj : j ≠ t) (ij : j ≠ i) (hR : Rest M 0) (hok : WrOk M.n (capL 12) L) (ho : oursB L = true) (hn : 16 ≤ M.n) (hN : M.n ≤ 4096) (hw : M.wr ≤ 1000) :
    Calls Tryz.prog 18 #[devp tb] W fun e w' => ∃ r1 E M', e = .returned (.tuple #[.int .u64 r1, .int .i64 E]) ∧ Sys w w' ((rs.set t (doneR tb)).set i (devR b M')) ∧ M'.n = M.n ∧ M'.wr ≤ 1040 ∧
      ((E = 0 ∧ M'.calm ∧ (hd (M'.dur 4)).pend = false ∧ ∀ q, q < M.n → (q < 4 ∨ 16 ≤ q) → M'.dur q = laid M.dur L q) ∨ (E = 30 ∧ Tr M.n 4 12 (lastL L) ∧ (lastL L).length ≤ capL 12 ∧ whyL M.n 4 12 (castL (lastL L)) = 0 ∧ ∀ keep, Aft M.n 4 12 0 M.dur (lastL L) (M'.crash keep).dur)) := by
  have hc10 : capL 12 = 10 := by decide
  have hcap := hok.cap
  by_cases hne : L = []
  · subst hne
    refine (sys_txCommit_nil h ht hi hj ti tj (by show 4 < M.n; omega) (by show M.wr ≤ _; omega)).mono ?_
    rintro e w' ⟨rfl, hs⟩
    have hsame : (rs.set t (doneR tb)).set i (devR b (M.fuse k)) = rs.set t (doneR tb) := set_same (by rw [List.getElem?_set_ne (fun e => ti e.symm)]; exact hi)
    exact ⟨_, 0, M.fuse k, rfl, by rw [hsame]; exact hs, rfl, by show M.wr ≤ _; omega, .inl ⟨rfl, hR.calm, hR.pend, fun q _ _ => rfl⟩⟩
  · have hwhy := why_ours hok ho
    have hT := tr_last hwhy (by decide) (by omega) hN
    have hll := lastL_length L
    have hcf : (M.fuse k).calm := hR.calm
    have hhead : (M.fuse k).headOf 4 = ⟨0, false, ((M.fuse k).headOf 4).cnt⟩ := by
      rw [calm_head hcf]
      exact sta_head (hR.sta M.n)
    obtain ⟨q1, q2, q3, q4, -⟩ := commit_all (M := M.fuse k) (g := 0) hT (show (M.fuse k).n = M.n from rfl) hcf (by decide) (show StA M.n 4 12 0 M.dur (M.fuse k).dur from hR.sta M.n)
    have hwf : (M.fuse k).wr = M.wr := rfl
    refine (sys_txCommit h ht hi hj ti tj ij hne (by decide) (by decide) (by show 4 + 12 ≤ M.n; omega) (by omega) hwhy hhead (by decide)).mono ?_
    rintro e w' ⟨rfl, hs⟩
    refine ⟨_, _, _, rfl, hs, q1, by omega, ?_⟩
    by_cases hdn : ((M.fuse k).runD (commitP 4 (0 + 1) (lastL L))).down = true
    · rw [if_pos hdn]
      have hwl : whyL M.n 4 12 (castL (lastL L)) = 0 := by
        obtain ⟨h1, h2, h3⟩ := why_zero hwhy
        unfold whyL
        rw [if_neg, if_neg, if_neg]
        · rw [castL_length]; omega
        · simp only [Bool.not_eq_true, List.any_eq_false]
          intro p hp
          obtain ⟨q, hq, rfl⟩ := List.mem_map.1 hp
          have := h2 q (lastL_mem L q hq)
          simp [withinB]
          omega
        · simp only [Bool.not_eq_true, List.any_eq_false]
          intro p hp
          obtain ⟨q, hq, rfl⟩ := List.mem_map.1 hp
          have := h1 q (lastL_mem L q hq)
          simp [wrongB]
          omega
      exact .inr ⟨rfl, hT, by omega, hwl, q3⟩
    · rw [if_neg hdn]
      obtain ⟨c1, c2⟩ := q4 (by simpa using hdn)
      exact .inl ⟨rfl, c1, c2.pend, fun q hq ho => by rw [c2.out q ⟨hq, by omega⟩, laid_lastL]⟩
end
end Go.Proofs.YthgdkpkhnhjifaaGreat
