/- Layer 8 (tx): rows of a call's own beside other things; the order of unlike writes. -/
import Derived.Test.YthgdkpkhnhjifaaGreatTxRoomLaw
import Derived.Test.YthgdkpkhnhjifaaGreatTxL7
namespace Go.Proofs.YthgdkpkhnhjifaaGreat
open Go.RowKit Go.Maps
set_option linter.unusedVariables false
set_option linter.unusedSimpArgs false
set_option maxRecDepth 10000
/-- A row of the call's own. -/
def ownR (t : TypeId) (v : Value) (len : Nat) (cs : List Value) : Res where
  at_ S W := W.ownsRow 0 t 1 v len cs ∧ ∀ k, S k ↔ v.ownBlock = some k
  lt S W h k hk := (h.1.lt k ((h.2 k).1 hk)).2
  kept S W W' h hs hb := by
    refine ⟨⟨h.1.1, ?_⟩, h.2⟩
    rcases h.1.2 with h0 | ⟨g, cap, cur, hv, h1, hg, hr⟩
    · exact .inl h0
    · exact .inr ⟨g, cap, cur, hv, h1, (hb g ((h.2 g).2 (by rw [hv]; rfl))).trans hg, hr⟩
section
variable {w W : World} {rs : List Res} {i len : Nat} {v : Value} {cs : List Value} {t : TypeId}
theorem Sys.own (h : Sys w W rs) (hi : rs[i]? = some (ownR t v len cs)) : W.ownsRow 0 t 1 v len cs := by
  obtain ⟨S, h1, -⟩ := h.use hi
  exact h1.1
theorem own_nil (h : Sys w W rs) (t : TypeId) : Sys w W (rs ++ [ownR t (.slice none 0 0) 0 []]) :=
  h.push (Below.refl _ W) (T := fun _ => False) ⟨World.ownsRow_nil _ _ _ _, fun k => ⟨fun e => e.elim, fun e => by (cases e)⟩⟩ fun k e => e.elim
/-- What a row of its own reads. -/
theorem Sys.ownAt (h : Sys w W rs) (hi : rs[i]? = some (ownR t v len cs)) : ∃ A c, v = .slice A len c ∧ ∀ k (hk : k < cs.length), ∃ g, A = some ⟨g, 0, none⟩ ∧ W.cell? ⟨g, k, none⟩ = some cs[k] := by
  have ho := h.own hi
  obtain ⟨A, c, e, hc⟩ := row_of_own ho
  have hl : cs.length = len := by have := ho.1; omega
  rw [hl] at e
  exact ⟨A, c, e, fun k hk => hc k _ (List.getElem?_eq_getElem hk)⟩
theorem own_int (h : Sys w W rs) (hi : rs[i]? = some (ownR 3 v len cs)) (hl : len ≤ 1048576) (x : Nat) : ∃ v' W', (intAppend #[v, .slice (some ⟨W.heap.size, 0, none⟩) 1 1]).run Tryz.prog (W.alloc (.cells #[encI x] 3)) = .ok v' W' ∧ Sys w W' (rs.set i (ownR 3 v' (len + 1) (cs ++ [encI x]))) := by
  have h1 := h.below ((Below.refl _ W).alloc (Nat.le_refl _) (.cells #[encI x] 3))
  obtain ⟨S, ⟨ho, hS⟩, -, -, hset, -⟩ := h1.use hi
  obtain ⟨q, hi, hz, hsi, hby⟩ := info_parts intInfo
  obtain ⟨v', W2, hap, hown, hg, _, hor⟩ := run_append_own_at (P := Tryz.prog) (w := W.alloc (.cells #[encI x] 3)) 0 66 66 3 q _ 1 8 Tryz.underlying66 hi hz hsi hby rfl (by decide) v len _ ho ⟨W.heap.size, 0, none⟩ 1 1 [encI x] rfl (cell_one_new _ _ _) (by intro u hu; simp at hu; subst hu; rfl) (by unfold maxLen; omega) (by omega) (Nat.zero_le _)
  refine ⟨v', W2, hap, hset W2 (ownR 3 v' (len + 1) (cs ++ [encI x])) (fun k => v'.ownBlock = some k) (Only.of_grown hg fun k e => (hS k).2 e) ⟨hown, fun k => Iff.rfl⟩ fun k hk => ?_⟩
  rcases hor with e | e
  · rw [e] at hk; exact .inl ((hS k).2 hk)
  · rw [e] at hk; cases hk; exact .inr (Nat.le_refl _)
theorem own_txt (h : Sys w W rs) (hi : rs[i]? = some (ownR 9 v len cs)) (hl : len ≤ 1048576) (x : List UInt8) : ∃ v' W', (txtAppend #[v, .slice (some ⟨W.heap.size, 0, none⟩) 1 1]).run Tryz.prog (W.alloc (.cells #[str x] 9)) = .ok v' W' ∧ Sys w W' (rs.set i (ownR 9 v' (len + 1) (cs ++ [str x]))) := by
  have h1 := h.below ((Below.refl _ W).alloc (Nat.le_refl _) (.cells #[str x] 9))
  obtain ⟨S, ⟨ho, hS⟩, -, -, hset, -⟩ := h1.use hi
  obtain ⟨q, hi, hz, hsi, hby⟩ := info_parts txtInfo
  obtain ⟨v', W2, hap, hown, hg, _, hor⟩ := run_append_own_at (P := Tryz.prog) (w := W.alloc (.cells #[str x] 9)) 0 33 33 9 q (str []) 1 16 Tryz.underlying33 hi hz hsi hby rfl (by decide) v len _ ho ⟨W.heap.size, 0, none⟩ 1 1 [str x] rfl (cell_one_new _ _ _) (by intro u hu; simp at hu; subst hu; rfl) (by unfold maxLen; omega) (by omega) (Nat.zero_le _)
  refine ⟨v', W2, hap, hset W2 (ownR 9 v' (len + 1) (cs ++ [str x])) (fun k => v'.ownBlock = some k) (Only.of_grown hg fun k e => (hS k).2 e) ⟨hown, fun k => Iff.rfl⟩ fun k hk => ?_⟩
  rcases hor with e | e
  · rw [e] at hk; exact .inl ((hS k).2 hk)
  · rw [e] at hk; cases hk; exact .inr (Nat.le_refl _)
end
/-! All writes of a row, one behind the other. -/
def insAll (ps : PutL) : PutL := ps.foldl (fun L p => ins L p.1 p.2) []
theorem insAll_snoc (ps : PutL) (p : Nat × List UInt8) : insAll (ps ++ [p]) = ins (insAll ps) p.1 p.2 := by simp [insAll, List.foldl_append]
theorem insAll_asc (ps : PutL) : asc (insAll ps) := by
  refine rev_ind (P := fun ps => asc (insAll ps)) asc_nil (fun l a h => ?_) ps
  rw [insAll_snoc]
  exact asc_ins h _ _
theorem insAll_length (ps : PutL) : (insAll ps).length ≤ ps.length := by
  refine rev_ind (P := fun ps => (insAll ps).length ≤ ps.length) (Nat.le_refl _) (fun l a h => ?_) ps
  rw [insAll_snoc, ins_length (insAll_asc l), List.length_append]
  split
  · omega
  · simp; omega
theorem insAll_look (ps : PutL) : (ps.map (·.1)).Nodup → ∀ i d, look (insAll ps) i = some d ↔ (i, d) ∈ ps := by
  refine rev_ind (P := fun ps => (ps.map (·.1)).Nodup → ∀ i d, look (insAll ps) i = some d ↔ (i, d) ∈ ps) ?_ (fun l a h hn i d => ?_) ps
  · intro _ i d
    exact ⟨fun h => by (cases h), fun h => by (cases h)⟩
  · rw [List.map_append, List.nodup_append] at hn
    have h1 := h hn.1
    have ha : ∀ d, (a.1, d) ∉ l := fun d hd => hn.2.2 a.1 (List.mem_map.2 ⟨_, hd, rfl⟩) a.1 (by simp) rfl
    rw [insAll_snoc, look_ins, List.mem_append, List.mem_singleton]
    unfold upd
    by_cases e : i = a.1
    · subst e
      rw [if_pos rfl]
      constructor
      · intro h2; cases h2; exact .inr rfl
      · rintro (h2 | h2)
        · exact absurd h2 (ha d)
        · rw [← h2]
    · rw [if_neg e, h1]
      constructor
      · exact .inl
      · rintro (h2 | h2)
        · exact h2
        · rw [← h2] at e; exact absurd rfl e
theorem insAll_rev (ps : PutL) (hn : (ps.map (·.1)).Nodup) : look (insAll ps.reverse) = look (insAll ps) := by
  funext i
  have hr : (ps.reverse.map (·.1)).Nodup := by
    rw [List.map_reverse, List.nodup_iff_pairwise_ne, List.pairwise_reverse]
    exact (List.nodup_iff_pairwise_ne.1 hn).imp fun h e => h e.symm
  have h1 := insAll_look ps hn i
  have h2 := insAll_look ps.reverse hr i
  cases ha : look (insAll ps) i with
  | some d => rw [h2, List.mem_reverse]; exact (h1 d).1 ha
  | none =>
    cases hb : look (insAll ps.reverse) i with
    | none => rfl
    | some d =>
      have := (h2 d).1 hb
      rw [List.mem_reverse] at this
      rw [(h1 d).2 this] at ha
      cases ha
theorem insAll_nil {ps : PutL} (h : insAll ps = []) (hn : (ps.map (·.1)).Nodup) : ps = [] := by
  cases ps with
  | nil => rfl
  | cons p r =>
    have := (insAll_look (p :: r) hn p.1 p.2).2 (by simp)
    rw [h] at this
    cases this
theorem insAll_ours (ps : PutL) (h : ∀ p ∈ ps, 16 ≤ p.1) : oursB (insAll ps) = true := by
  revert h
  refine rev_ind (P := fun ps => (∀ p ∈ ps, 16 ≤ p.1) → oursB (insAll ps) = true) (fun _ => rfl) (fun l a h hl => ?_) ps
  rw [insAll_snoc]
  exact ours_ins (h fun p hp => hl p (by simp [hp])) _ _ (hl a (by simp))
/-- A commit on a device at rest, whatever was written. -/
theorem rest_commit_any {w W : World} {rs : List Res} {t i j tb b jb rec g : Nat} {M : Dv} {L : PutL} (h : TxSys w W rs t i j tb b jb 4 12 rec M L) (hR : Rest M g) (hn : 16 ≤ M.n) (hN : M.n ≤ 4096) (hw : M.wr + 16384 ≤ 1099511627776) (hg : g + 1 < 18446744073709551615) (ho : oursB L = true) :
    Calls Tryz.prog 18 #[devp tb] W fun e w' => e = .returned (.tuple #[.int .u64 (if L = [] then (g : Int) else (g : Int) + 1), .int .i64 0]) ∧ ∃ M2 g2, Sys w w' ((rs.set t (doneR tb)).set i (devR b M2)) ∧ Rest M2 g2 ∧ g2 = (if L = [] then g else g + 1) ∧ M2.n = M.n ∧ M2.wr ≤ M.wr + 40 ∧ ∀ k, k < M.n → (k < 4 ∨ 16 ≤ k) → M2.dur k = laid M.dur L k := by
  by_cases hne : L = []
  · subst hne
    rw [if_pos rfl]
    refine (sys_txCommit_nil h.sys h.ht h.hi h.hj h.ti h.tj (by omega) h.wr).mono ?_
    rintro e w' ⟨rfl, hs⟩
    have hgen : (M.headOf 4).gen = g := by rw [hR.head]
    rw [hgen]
    have hsame : (rs.set t (doneR tb)).set i (devR b M) = rs.set t (doneR tb) := set_same (by rw [List.getElem?_set_ne (fun e => h.ti e.symm)]; exact h.hi)
    exact ⟨rfl, M, g, by rw [hsame]; exact hs, hR, by rw [if_pos rfl], rfl, by omega, fun k _ _ => rfl⟩
  · rw [if_neg hne]
    refine (rest_commit h hR hn hN hw hg hne ho).mono ?_
    rintro e w' ⟨rfl, M2, hs, h1, h2, h3, h4⟩
    exact ⟨rfl, M2, g + 1, hs, h1, by rw [if_neg hne], h2, h3, h4⟩
end Go.Proofs.YthgdkpkhnhjifaaGreat
