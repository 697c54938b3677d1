/- Layer 8 (tx): Commit and Abort, as things that lie apart turn by them; the chapter's examples. -/
import Derived.Test.YthgdkpkhnhjifaaGreatTxL4
namespace Go.Proofs.YthgdkpkhnhjifaaGreat
open Go.RowKit Go.Maps
set_option linter.unusedVariables false
set_option linter.unusedSimpArgs false
set_option maxRecDepth 10000
section
variable {w W : World} {rs : List Res} {t i j tb b jb F n rec N : Nat} {M : Dv} {L : PutL}
theorem Sys.ended (h : Sys w W rs) (ht : rs[t]? = some (txR tb b jb N L)) {V : World} (hE : Ended W tb V) : Sys w V (rs.set t (doneR tb)) := by
  obtain ⟨S, ⟨m, hT, hS⟩, -, -, hset, -⟩ := h.use ht
  have hO := hE.only
  refine hset V (doneR tb) (fun k => k = tb) ⟨hO.os, hO.tape, hO.output, hO.size, fun k hk hn => hO.block k hk fun e => hn ((hS k).2 (.inl e))⟩ ⟨fun k => Iff.rfl, fun k hk => ?_, hE.done⟩ fun k hk => .inl ((hS k).2 (.inl hk))
  rw [hk]
  exact Nat.lt_of_lt_of_le hT.lt.1 hO.size
theorem Sys.txIn (h : Sys w W rs) (ht : rs[t]? = some (txR tb b jb N L)) : ∃ m, TxIn W tb b jb m N L := by
  obtain ⟨S, ⟨m, hT, hS⟩, -⟩ := h.use ht
  exact ⟨m, hT⟩
theorem sys_txAbort (h : Sys w W rs) (ht : rs[t]? = some (txR tb b jb N L)) : Calls Tryz.prog 17 #[devp tb] W fun e w' => e = .returned (.int .i64 0) ∧ Sys w w' (rs.set t (doneR tb)) := by
  obtain ⟨m, hT⟩ := h.txIn ht
  exact (txAbort_any hT).mono fun e w' hx => ⟨hx.1, h.ended ht hx.2⟩
theorem sys_txCommit (h : Sys w W rs) (ht : rs[t]? = some (txR tb b jb N L)) (hi : rs[i]? = some (devR b M)) (hj : rs[j]? = some (jourR jb b F n rec)) (ti : i ≠ t) (tj : j ≠ t) (ij : j ≠ i) (hne : L ≠ []) {g : Nat} (h4 : 4 ≤ n) (h256 : n ≤ 256) (hF : F + n ≤ M.n) (hw : M.wr + 16384 ≤ 1099511627776)
    (hwhy : whyL M.n F n (castL L) = 0) (hgen : M.headOf F = ⟨g, false, (M.headOf F).cnt⟩) (hg : g + 1 < 18446744073709551616) :
    Calls Tryz.prog 18 #[devp tb] W fun e w' =>
      e = .returned (.tuple #[.int .u64 (if (M.runD (commitP F (g + 1) (lastL L))).down then 0 else (g : Int) + 1), .int .i64 (if (M.runD (commitP F (g + 1) (lastL L))).down then 30 else 0)]) ∧ Sys w w' ((rs.set t (doneR tb)).set i (devR b (M.runD (commitP F (g + 1) (lastL L))))) := by
  obtain ⟨m, hT⟩ := h.txIn ht
  refine (txCommit_some hT hne (fun r1 r2 w' => r1 = .int .u64 (if (M.runD (commitP F (g + 1) (lastL L))).down then 0 else (g : Int) + 1) ∧ r2 = .int .i64 (if (M.runD (commitP F (g + 1) (lastL L))).down then 30 else 0) ∧ Sys w w' ((rs.set t (doneR tb)).set i (devR b (M.runD (commitP F (g + 1) (lastL L)))))) fun V v hE hv => ?_).mono ?_
  · have hV := h.ended ht hE
    refine (sys_commit hV (i := i) (j := j) (M := M) (g := g) (by rw [List.getElem?_set_ne (fun e => ti e.symm)]; exact hi) (by rw [List.getElem?_set_ne (fun e => tj e.symm)]; exact hj) ij hv.puts h4 h256 hF hw hwhy hgen hg).mono ?_
    rintro e w' ⟨rfl, hs⟩
    exact ⟨_, _, rfl, rfl, rfl, hs⟩
  · rintro e w' ⟨r1, r2, rfl, rfl, rfl, hs⟩
    exact ⟨rfl, hs⟩
theorem sys_txCommit_nil (h : Sys w W rs) (ht : rs[t]? = some (txR tb b jb N [])) (hi : rs[i]? = some (devR b M)) (hj : rs[j]? = some (jourR jb b F n rec)) (ti : i ≠ t) (tj : j ≠ t) (hF : F < M.n) (hw : M.wr ≤ 1099511627776) :
    Calls Tryz.prog 18 #[devp tb] W fun e w' => e = .returned (.tuple #[.int .u64 ((M.headOf F).gen : Int), .int .i64 0]) ∧ Sys w w' (rs.set t (doneR tb)) := by
  obtain ⟨m, hT⟩ := h.txIn ht
  refine (txCommit_none hT (fun r w' => r = .int .u64 ((M.headOf F).gen : Int) ∧ Sys w w' (rs.set t (doneR tb))) fun V hE => ?_).mono ?_
  · have hV := h.ended ht hE
    refine (sys_gen hV (i := i) (j := j) (M := M) (by rw [List.getElem?_set_ne (fun e => ti e.symm)]; exact hi) (by rw [List.getElem?_set_ne (fun e => tj e.symm)]; exact hj) hF hw).mono ?_
    rintro e w' ⟨rfl, hs⟩
    exact ⟨_, rfl, rfl, hs⟩
  · rintro e w' ⟨r, rfl, rfl, hs⟩
    exact ⟨rfl, hs⟩
theorem sys_txCommit_bad (h : Sys w W rs) (ht : rs[t]? = some (txR tb b jb N L)) (hi : rs[i]? = some (devR b M)) (hj : rs[j]? = some (jourR jb b F n rec)) (ti : i ≠ t) (tj : j ≠ t) (hne : L ≠ []) (hl : L.length ≤ 4096) (hd : ∀ p ∈ L, p.2.length = 64) (h4 : 4 ≤ n) (h256 : n ≤ 256) (hF : F ≤ 4096) (hwhy : whyL M.n F n (castL L) ≠ 0) :
    Calls Tryz.prog 18 #[devp tb] W fun e w' => e = .returned (.tuple #[.int .u64 0, .int .i64 (whyL M.n F n (castL L))]) ∧ Sys w w' (rs.set t (doneR tb)) := by
  obtain ⟨m, hT⟩ := h.txIn ht
  refine (txCommit_some hT hne (fun r1 r2 w' => r1 = .int .u64 0 ∧ r2 = .int .i64 (whyL M.n F n (castL L)) ∧ Sys w w' (rs.set t (doneR tb))) fun V v hE hv => ?_).mono ?_
  · have hV := h.ended ht hE
    refine (sys_refused hV (i := i) (j := j) (M := M) (by rw [List.getElem?_set_ne (fun e => ti e.symm)]; exact hi) (by rw [List.getElem?_set_ne (fun e => tj e.symm)]; exact hj) hv.puts (by rw [castL_length]; unfold maxLen; omega) (fun p hp => by
      obtain ⟨q, hq, rfl⟩ := List.mem_map.1 hp
      have := hd q hq
      simp only
      omega) h4 h256 hF hwhy).mono ?_
    rintro e w' ⟨rfl, hs⟩
    exact ⟨_, _, rfl, rfl, rfl, hs⟩
  · rintro e w' ⟨r1, r2, rfl, rfl, rfl, hs⟩
    exact ⟨rfl, hs⟩
end
/-! A device at rest. -/
structure Rest (M : Dv) (g : Nat) : Prop where
  up : M.down = false
  left : M.left = 0
  calm : M.calm
  gen : (hd (M.dur 4)).gen = g
  pend : (hd (M.dur 4)).pend = false
theorem Rest.new (n : Nat) : Rest (dev0 n) 0 := ⟨rfl, rfl, fun _ => rfl, by show (hd (List.replicate 64 0)).gen = 0; rw [hd_zero], by show (hd (List.replicate 64 0)).pend = false; rw [hd_zero]⟩
theorem Rest.sta {M : Dv} {g : Nat} (h : Rest M g) (N : Nat) : StA N 4 12 g M.dur M.dur := ⟨h.gen, h.pend, fun i _ => rfl⟩
theorem Rest.head {M : Dv} {g : Nat} (h : Rest M g) : M.headOf 4 = ⟨g, false, (M.headOf 4).cnt⟩ := by
  rw [calm_head h.calm]
  exact sta_head (h.sta M.n)
theorem Rest.cur {M : Dv} {g : Nat} (h : Rest M g) : M.cur = M.dur := funext fun i => calm_cur M h.calm i
theorem why_ours {N : Nat} {L : PutL} (h : WrOk N (capL 12) L) (ho : oursB L = true) : whyL N 4 12 (castL L) = 0 := by
  unfold whyL
  rw [if_neg, if_neg, if_neg]
  · rw [castL_length]; have := h.cap; omega
  · simp only [Bool.not_eq_true, List.any_eq_false]
    intro p hp
    obtain ⟨q, hq, rfl⟩ := List.mem_map.1 hp
    unfold oursB at ho
    have := List.all_eq_true.1 ho q hq
    simp at this
    simp [withinB]
    omega
  · simp only [Bool.not_eq_true, List.any_eq_false]
    intro p hp
    obtain ⟨q, hq, rfl⟩ := List.mem_map.1 hp
    have := h.ok q hq
    simp [wrongB]
    omega
theorem why_theirs {N : Nat} {L : PutL} (h : WrOk N (capL 12) L) (ho : oursB L = false) : whyL N 4 12 (castL L) = 40 := by
  unfold whyL
  rw [if_neg, if_pos]
  · unfold oursB at ho
    obtain ⟨q, hq, hb⟩ := List.all_eq_false.1 ho
    refine List.any_eq_true.2 ⟨_, List.mem_map_of_mem hq, ?_⟩
    simp at hb
    simp [withinB]
    omega
  · simp only [Bool.not_eq_true, List.any_eq_false]
    intro p hp
    obtain ⟨q, hq, rfl⟩ := List.mem_map.1 hp
    have := h.ok q hq
    simp [wrongB]
    omega
section
variable {w W : World} {rs : List Res} {t i j tb b jb rec g : Nat} {M : Dv} {L : PutL}
/-- A commit on a device at rest. -/
theorem rest_commit (h : TxSys w W rs t i j tb b jb 4 12 rec M L) (hR : Rest M g) (hn : 16 ≤ M.n) (hN : M.n ≤ 4096) (hw : M.wr + 16384 ≤ 1099511627776) (hg : g + 1 < 18446744073709551615) (hne : L ≠ []) (ho : oursB L = true) :
    Calls Tryz.prog 18 #[devp tb] W fun e w' => e = .returned (.tuple #[.int .u64 ((g : Int) + 1), .int .i64 0]) ∧ ∃ M2, Sys w w' ((rs.set t (doneR tb)).set i (devR b M2)) ∧ Rest M2 (g + 1) ∧ M2.n = M.n ∧ M2.wr ≤ M.wr + 40 ∧ ∀ k, k < M.n → (k < 4 ∨ 16 ≤ k) → M2.dur k = laid M.dur L k := by
  have hwhy := why_ours h.ok ho
  have hT := tr_last hwhy (by decide) (by omega) hN
  obtain ⟨h1, h2, -, h3, h4⟩ := commit_all (M := M) hT rfl hR.calm (by omega) (hR.sta M.n)
  obtain ⟨d1, d2⟩ := h4 hR.up hR.left
  obtain ⟨c1, c2⟩ := h3 d1
  have hll := lastL_length L
  have hcap := h.ok.cap
  have hc10 : capL 12 = 10 := by decide
  refine (sys_txCommit h.sys h.ht h.hi h.hj h.ti h.tj h.ij hne (by decide) (by decide) (by omega) hw hwhy hR.head (by omega)).mono ?_
  rintro e w' ⟨rfl, hs⟩
  rw [d1]
  refine ⟨rfl, _, hs, ⟨d1, d2, c1, c2.gen, c2.pend⟩, h1, by omega, fun k hk ho => ?_⟩
  rw [c2.out k ⟨hk, by omega⟩, laid_lastL]
end
end Go.Proofs.YthgdkpkhnhjifaaGreat
