/- Layer 3 (dev): cached writes become durable. -/
import Derived.Test.YtdddennhdbmolaaGreatM8
import Derived.RegionTactic
namespace Go.Proofs.YtdddennhdbmolaaGreat
open Go.RowKit Go.Maps
set_option linter.unusedVariables false
set_option linter.unusedSimpArgs false
set_option maxRecDepth 10000
theorem entry_upd (row : Nat → List (List UInt8)) (vals : Nat → Value) (i : Nat) (r' : List (List UInt8)) (v' : Value) (j : Nat) :
    upd (entry row vals) i (if r'.isEmpty then none else some (.agg #[v'])) j = entry (upd row i r') (upd vals i v') j := by
  by_cases h : j = i
  · subst h; simp [entry]
  · simp only [entry, upd_other _ _ h]
/-- One row has turned. -/
theorem DevIn.rows {S S' : Nat → Prop} {W W' : World} {b g c m : Nat} {vals : Nat → Value} {M : Dv} (h : DevIn S W b g c m vals M) (i : Nat) (hi : i < M.n) (r' : List (List UInt8)) (v' : Value)
    (hS : ∀ k, S k → S' k) (hlt : ∀ k, S' k → k < W'.heap.size)
    (hblk : ∀ k, k < W.heap.size → k ≠ b → k ≠ m → (M.row i ≠ [] → (vals i).ownBlock ≠ some k) → W'.heap[k]? = W.heap[k]?)
    (hmap : IMap Tryz.prog 3 W' m M.n (upd (entry M.row vals) i (if r'.isEmpty then none else some (.agg #[v']))))
    (hrow : r' ≠ [] → RowAt W' v' r' ∧ ∃ k, v'.ownBlock = some k ∧ S' k ∧ ((M.row i ≠ [] ∧ (vals i).ownBlock = some k) ∨ W.heap.size ≤ k))
    (hlen : ∀ p ∈ r', p.length = 64) {wr left : Nat} {down : Bool} (hh : Head W' b g c m M.n wr left down) (hl : left ≤ 9223372036854775807) (hwr : r'.length ≤ wr) (hwr' : M.wr ≤ wr) :
    DevIn S' W' b g c m (upd vals i v') { M with row := upd M.row i r', wr := wr, left := left, down := down } := by
  have hold : ∀ k, S k → (M.row i ≠ [] → (vals i).ownBlock ≠ some k) → k ≠ b → k ≠ m → W'.heap[k]? = W.heap[k]? := fun k hk hne h1 h2 => hblk k (h.lt k hk) h1 h2 hne
  have hnew : ∀ k, S k → ¬ Rk M.row vals k → r' ≠ [] → v'.ownBlock ≠ some k := by
    intro k hk hno hr' e
    obtain ⟨_, k', hk', _, hor⟩ := hrow hr'
    rw [e] at hk'
    cases hk'
    rcases hor with ⟨h1, h2⟩ | h1
    · exact hno ⟨i, h1, h2⟩
    · have := h.lt k hk; omega
  have hRk : ∀ k, S k → ¬ Rk M.row vals k → ¬ Rk (upd M.row i r') (upd vals i v') k := by
    rintro k hk hno ⟨j, hj, hjk⟩
    by_cases e : j = i
    · subst e
      rw [upd_same] at hj hjk
      exact hnew k hk hno hj hjk
    · rw [upd_other _ _ e] at hj hjk
      exact hno ⟨j, hj, hjk⟩
  exact {
    fine := {
      n := h.fine.n, dur := h.fine.dur, left := hl
      row := fun j p hp => by
        by_cases e : j = i
        · subst e; simp only [upd_same] at hp; exact hlen p hp
        · simp only [upd_other _ _ e] at hp; exact h.fine.row j p hp
      out := fun j hj => by
        by_cases e : j = i
        · subst e; exact hi
        · simp only [upd_other _ _ e] at hj; exact h.fine.out j hj
      rows := fun j => by
        by_cases e : j = i
        · subst e; simp only [upd_same]; exact hwr
        · simp only [upd_other _ _ e]; exact Nat.le_trans (h.fine.rows j) hwr' }
    head := hh
    du := h.du.kept (hold g h.sg (fun h1 h2 => h.rg ⟨i, h1, h2⟩) (Ne.symm h.bg) h.gm)
    ro := {
      map := hmap.congr fun j _ => entry_upd _ _ _ _ _ _
      at_ := fun j hj => by
        by_cases e : j = i
        · subst e
          simp only [upd_same] at hj ⊢
          exact (hrow hj).1
        · simp only [upd_other _ _ e] at hj ⊢
          refine (h.ro.at_ j hj).kept fun k hk => ?_
          have hR : Rk M.row vals k := ⟨j, hj, hk⟩
          refine hold k (h.sr k hR) (fun h1 h2 => ?_) (fun e2 => h.rb (e2 ▸ hR)) (fun e2 => h.rm (e2 ▸ hR))
          exact h.ro.apart j i hj h1 e (hk.trans h2.symm)
      apart := fun j j' hj hj' hne => by
        by_cases e : j = i
        · subst e
          have e' : j' ≠ j := Ne.symm hne
          simp only [upd_same] at hj
          simp only [upd_other _ _ e'] at hj'
          rw [upd_same, upd_other _ _ e']
          obtain ⟨_, k, hk, _, hor⟩ := hrow hj
          rw [hk]
          intro e2
          rcases hor with ⟨h1, h2⟩ | h1
          · exact h.ro.apart j j' h1 hj' hne (h2.trans e2)
          · have := h.lt k (h.sr k ⟨j', hj', e2.symm⟩); omega
        · simp only [upd_other _ _ e] at hj
          rw [upd_other _ _ e]
          by_cases e' : j' = i
          · subst e'
            simp only [upd_same] at hj'
            rw [upd_same]
            obtain ⟨_, k, hk, _, hor⟩ := hrow hj'
            rw [hk]
            intro e2
            rcases hor with ⟨h1, h2⟩ | h1
            · exact h.ro.apart j j' hj h1 hne (e2.trans h2.symm)
            · have := h.lt k (h.sr k ⟨j, hj, e2⟩); omega
          · simp only [upd_other _ _ e'] at hj'
            rw [upd_other _ _ e']
            exact h.ro.apart j j' hj hj' hne }
    cap := h.cap
    sb := hS _ h.sb, sg := hS _ h.sg, sm := hS _ h.sm
    sr := fun k => by
      rintro ⟨j, hj, hk⟩
      by_cases e : j = i
      · subst e
        simp only [upd_same] at hj hk
        obtain ⟨_, k', hk', hs, _⟩ := hrow hj
        rw [hk'] at hk
        cases hk
        exact hs
      · simp only [upd_other _ _ e] at hj hk
        exact hS k (h.sr k ⟨j, hj, hk⟩)
    bg := h.bg, bm := h.bm, gm := h.gm
    rb := hRk _ h.sb h.rb, rg := hRk _ h.sg h.rg, rm := hRk _ h.sm h.rm
    lt := hlt }
/-- One durable sector has turned. -/
theorem DevIn.dured {S : Nat → Prop} {W : World} {b g c m : Nat} {vals : Nat → Value} {M : Dv} (h : DevIn S W b g c m vals M) (i : Nat) (hi : i < M.n) (t : List UInt8) (ht : t.length = 64) :
    DevIn S (W.setCells g (i * 64) (bc t)) b g c m vals { M with dur := upd M.dur i t } ∧ Only S W (W.setCells g (i * 64) (bc t)) := by
  have hg := setCells_grown g (bc t) (i * 64) W
  have hsz : W.heap.size ≤ (W.setCells g (i * 64) (bc t)).heap.size := hg.size
  have hold : ∀ k, S k → k ≠ g → (W.setCells g (i * 64) (bc t)).heap[k]? = W.heap[k]? := fun k hk hne => hg.block k (h.lt k hk) (by intro e; cases e; exact hne rfl)
  refine ⟨?_, Only.of_grown hg (fun k e => by cases e; exact h.sg)⟩
  exact {
    fine := { n := h.fine.n, row := h.fine.row, out := h.fine.out, rows := h.fine.rows, left := h.fine.left
              dur := fun j hj => by
                by_cases e : j = i
                · subst e; simp only [upd_same]; exact ht
                · simp only [upd_other _ _ e]; exact h.fine.dur j hj }
    head := h.head.kept (hold b h.sb h.bg)
    du := ⟨fun j hj => by
        by_cases e : j = i
        · subst e
          simp only [upd_same]
          refine World.rangeAt_setCells_same _ _ _ _ ?_
          have := there_sub h.du.there (j * 64) 64 (by have : j + 1 ≤ M.n := hi; omega)
          rw [Nat.zero_add] at this
          rw [List.length_map, ht]
          exact this
        · simp only [upd_other _ _ e]
          refine World.rangeAt_setCells_apart (h.du.at_ j hj) _ _ _ ?_
          rw [List.length_map, List.length_map, ht, h.fine.dur j hj]
          omega, World.there_setCells h.du.there _ _ _⟩
    ro := h.ro.kept (hold m h.sm (Ne.symm h.gm)) fun k hk => hold k (h.sr k hk) (fun e => h.rg (e ▸ hk))
    cap := h.cap, sb := h.sb, sg := h.sg, sm := h.sm, sr := h.sr, bg := h.bg, bm := h.bm, gm := h.gm, rb := h.rb, rg := h.rg, rm := h.rm
    lt := fun k hk => Nat.lt_of_lt_of_le (h.lt k hk) hsz }
theorem settle_zero (b i : Nat) (W : World) : Calls Tryz.prog 110 #[devp b, .int .i64 (i : Int), .int .i64 0] W fun e w' => e = .returned (.tuple #[]) ∧ W = w' := by
  go_enter Tryz.func110, Tryz.ntmps110
  go_wp2
  refine bodyPost_ret (results_none rfl _ _ _) rfl ?_
  exact ⟨rfl, rfl⟩
set_option maxRecDepth 100000 in
set_option maxHeartbeats 1000000 in
theorem settle_del (b g c n m i k g' off cap : Nat) (W W1 W2 : World) (hi : i < n) (hn : n ≤ 4096) (hk : 0 < k) (hkb : k ≤ 1099511627776) (h2 : W.cell? ⟨b, 2, none⟩ = some (.slice (some ⟨g, 0, none⟩) n c)) (h3 : W.cell? ⟨b, 3, none⟩ = some (.map (some m)))
    (hlk : (Instr.lookup 115 (.map (some m)) (.int .i64 (i : Int)) false).run Tryz.prog W = .ok (.agg #[.slice (some ⟨g', off, none⟩) k cap]) W)
    (v : Value) (hld : (secLoad (.pointer (some ⟨g', off + (k - 1) * 64, none⟩))).run Tryz.prog W.drew = .ok v W.drew) (hst : (secStore (.pointer (some ⟨g, i * 64, none⟩)) v).run Tryz.prog W.drew = .ok () W1)
    (h31 : W1.cell? ⟨b, 3, none⟩ = some (.map (some m))) (hdel : (Builtin.delete_ #[115, 3] 0 #[.map (some m), .int .i64 (i : Int)]).run Tryz.prog W1 = .ok (.tuple #[]) W2) :
    Calls Tryz.prog 110 #[devp b, .int .i64 (i : Int), .int .i64 (k : Int)] W fun e w' => e = .returned (.tuple #[]) ∧ W2 = w' := by
  have hf := row_field (some ⟨g', off, none⟩) k cap
  have hk0 : ((k : Int) == 0) = false := by simp; omega
  have hk2 : 0 < (k : Int) := by omega
  go_enter Tryz.func110, Tryz.ntmps110
  go_wp2
  go_region
  all_goals
    go_wp2
    go_end0
    exact ⟨rfl, rfl⟩
set_option maxRecDepth 100000 in
set_option maxHeartbeats 1000000 in
theorem settle_cut (b g c n m i k l g' off cap : Nat) (W W1 W2 : World) (hi : i < n) (hn : n ≤ 4096) (hk : 0 < k) (hkl : k < l) (hlc : l ≤ cap) (hkb : l ≤ 1099511627776) (h2 : W.cell? ⟨b, 2, none⟩ = some (.slice (some ⟨g, 0, none⟩) n c)) (h3 : W.cell? ⟨b, 3, none⟩ = some (.map (some m)))
    (hlk : (Instr.lookup 115 (.map (some m)) (.int .i64 (i : Int)) false).run Tryz.prog W = .ok (.agg #[.slice (some ⟨g', off, none⟩) l cap]) W)
    (v : Value) (hld : (secLoad (.pointer (some ⟨g', off + (k - 1) * 64, none⟩))).run Tryz.prog W.drew = .ok v W.drew) (hst : (secStore (.pointer (some ⟨g, i * 64, none⟩)) v).run Tryz.prog W.drew = .ok () W1)
    (h31 : W1.cell? ⟨b, 3, none⟩ = some (.map (some m))) (hup : (Instr.mapUpdate 115 (.map (some m)) (.int .i64 (i : Int)) (.agg #[.slice (some ⟨g', off + k * 64, none⟩) (l - k) (cap - k)])).run Tryz.prog W1.drew = .ok () W2) :
    Calls Tryz.prog 110 #[devp b, .int .i64 (i : Int), .int .i64 (k : Int)] W fun e w' => e = .returned (.tuple #[]) ∧ W2 = w' := by
  have hf := row_field (some ⟨g', off, none⟩) l cap
  have hbd := row_build (some ⟨g', off + k * 64, none⟩) (l - k) (cap - k)
  have hk0 : ((k : Int) == 0) = false := by simp; omega
  have hkl0 : ((k : Int) == (l : Int)) = false := by simp; omega
  have hk2 : 0 < (k : Int) := by omega
  have hcap : (cap = k) = False := by simp; omega
  go_enter Tryz.func110, Tryz.ntmps110
  go_wp2
  go_region
  all_goals
    go_wp2
    go_region
    all_goals
      go_wp2
      go_end0
      exact ⟨rfl, rfl⟩
theorem upd_id {α : Type} (f : Nat → α) (i : Nat) : upd f i (f i) = f := by
  funext j
  by_cases h : j = i
  · subst h; simp
  · rw [upd_other _ _ h]
theorem Dv.settle_zero (M : Dv) (i : Nat) : M.settle i 0 = M := by
  unfold Dv.settle
  simp [upd_id]
theorem grown_other {W W' : World} {m k : Nat} (h : W.grownBy W' (some m)) (hk : k < W.heap.size) (hne : k ≠ m) : W'.heap[k]? = W.heap[k]? := h.block k hk (by intro e; cases e; exact hne rfl)
theorem settle_any {S : Nat → Prop} {W : World} {b g c m : Nat} {vals : Nat → Value} {M : Dv} (h : DevIn S W b g c m vals M) (hw : M.wr ≤ 1099511627776) (i : Nat) (hi : i < M.n) (k : Nat) (hk : k ≤ (M.row i).length) :
    Calls Tryz.prog 110 #[devp b, .int .i64 (i : Int), .int .i64 (k : Int)] W fun e w' => e = .returned (.tuple #[]) ∧ ∃ vals', DevIn S w' b g c m vals' (M.settle i k) ∧ Only S W w' := by
  by_cases h0 : k = 0
  · subst h0
    refine (settle_zero b i W).mono ?_
    rintro e w' ⟨rfl, rfl⟩
    exact ⟨rfl, vals, by rw [Dv.settle_zero]; exact h, Only.refl _ _⟩
  · have hne : M.row i ≠ [] := by intro e; rw [e] at hk; simp at hk; omega
    obtain ⟨A, cap, hlk, hA⟩ := look_row h i hi
    rcases hA with ⟨hr, _⟩ | ⟨_, hv⟩
    · contradiction
    have hrow := h.ro.at_ i hne
    have hrow' := hrow
    rw [← hv] at hrow'
    have hrow2 := hrow'
    obtain ⟨g', off, cap', he, hcap, hcm, _, _⟩ := hrow'
    cases he
    have hown : (vals i).ownBlock = some g' := by rw [← hv]; rfl
    have hlen := h.fine.rows i
    have ht : ((M.row i)[k - 1]'(by omega)).length = 64 := h.fine.row i _ (List.getElem_mem _)
    have hsec := hrow2.sector (h.fine.row i) (k - 1) (by omega)
    have hget : (M.row i)[k - 1]'(by omega) = (M.row i).getD (k - 1) [] := by
      rw [List.getD_eq_getElem?_getD, List.getElem?_eq_getElem (by omega)]; rfl
    have hd0 : DevIn S W.drew b g c m vals M := h.kept (Nat.le_refl _) (fun _ _ => rfl)
    obtain ⟨hd1, ho1⟩ := hd0.dured i hi _ ht
    have hld := sec_load W.drew g' (off + (k - 1) * 64) _ ht hsec
    have hth := there_sub hd0.du.there (i * 64) 64 (by have : i + 1 ≤ M.n := hi; omega)
    rw [Nat.zero_add] at hth
    have hst := sec_put W.drew g (i * 64) _ ht hth
    generalize hW1 : W.drew.setCells g (i * 64) (bc ((M.row i)[k - 1]'(by omega))) = W1 at hd1 ho1 hst
    have hO1 : Only S W W1 := (Only.of_below ((Below.refl _ W).drew)).trans ho1 (fun _ e => .inl e)
    have hgl : g' < W1.heap.size := hd1.lt g' (hd1.sr g' ⟨i, hne, hown⟩)
    have hrow1 : RowAt W1 (vals i) (M.row i) := hd1.ro.at_ i hne
    by_cases hkl : k = (M.row i).length
    · obtain ⟨W2, hdel, hmap, hg2⟩ := hd1.ro.map.drop Tryz.underlying3 Tryz.underlying115 (by have := h.fine.n; show M.n ≤ _; omega) hi 0
      refine (settle_del b g c M.n m i k g' off cap W W1 W2 hi h.fine.n (by omega) (by omega) h.head.c2 h.head.c3 (by rw [hkl]; exact hlk) _ hld hst hd1.head.c3 hdel).mono ?_
      rintro e w' ⟨rfl, rfl⟩
      refine ⟨rfl, upd vals i (.slice none 0 0), ?_, hO1.trans (Only.of_grown (S := S) hg2 (fun k e => by cases e; exact h.sm)) (fun _ e => .inl e)⟩
      have hdr := hd1.rows (S' := S) (W' := W2) i hi [] (.slice none 0 0) (fun _ hk => hk) (fun k hk => Nat.lt_of_lt_of_le (hd1.lt k hk) hg2.size) (fun k hk _ hm _ => grown_other hg2 hk hm)
        (by simpa using hmap) (fun e => absurd rfl e) (by simp) (hd1.head.kept (grown_other hg2 (hd1.lt b hd1.sb) h.bm)) h.fine.left (Nat.zero_le _) (Nat.le_refl _)
      have hM : M.settle i k = { M with dur := upd M.dur i ((M.row i)[k - 1]'(by omega)), row := upd M.row i [] } := by
        unfold Dv.settle
        rw [if_neg h0, hget, hkl, List.drop_length]
      rw [hM]
      exact hdr
    · have hdk : M.row i |>.drop k |> (· ≠ []) := by
        intro e; have := congrArg List.length e; simp at this; omega
      have hd1' : DevIn S W1.drew b g c m vals _ := hd1.kept (Nat.le_refl _) (fun _ _ => rfl)
      obtain ⟨W2, hup, hmap, hg2⟩ := hd1'.ro.map.store Tryz.underlying3 Tryz.underlying115 (by have := h.fine.n; show M.n ≤ _; omega) hi (.agg #[.slice (some ⟨g', off + k * 64, none⟩) ((M.row i).length - k) (cap - k)])
      refine (settle_cut b g c M.n m i k (M.row i).length g' off cap W W1 W2 hi h.fine.n (by omega) (by omega) hcap (by omega) h.head.c2 h.head.c3 hlk _ hld hst hd1.head.c3 hup).mono ?_
      rintro e w' ⟨rfl, rfl⟩
      have hO2 : Only S W1 W2 := (Only.of_below ((Below.refl _ W1).drew)).trans (Only.of_grown (S := S) hg2 (fun k e => by cases e; exact h.sm)) (fun _ e => .inl e)
      refine ⟨rfl, upd vals i (.slice (some ⟨g', off + k * 64, none⟩) ((M.row i).length - k) (cap - k)), ?_, hO1.trans hO2 (fun _ e => .inl e)⟩
      have hnew : RowAt W2 (.slice (some ⟨g', off + k * 64, none⟩) ((M.row i).length - k) (cap - k)) ((M.row i).drop k) := by
        have h1 := hrow1
        rw [← hv] at h1
        refine (h1.drop (h.fine.row i) k hk).kept fun k' e => ?_
        cases e
        exact grown_other (W := W1.drew) (k := g') hg2 hgl (fun e2 => h.rm (by rw [← e2]; exact ⟨i, hne, hown⟩))
      have hdr := hd1'.rows (S' := S) (W' := W2) i hi ((M.row i).drop k) (.slice (some ⟨g', off + k * 64, none⟩) ((M.row i).length - k) (cap - k)) (fun _ hk => hk) (fun k hk => Nat.lt_of_lt_of_le (hd1'.lt k hk) hg2.size) (fun k hk _ hm _ => grown_other hg2 hk hm)
        (by rw [if_neg (by simpa using hdk)]; exact hmap) (fun _ => ⟨hnew, g', rfl, h.sr g' ⟨i, hne, hown⟩, .inl ⟨hne, hown⟩⟩) (fun p hp => h.fine.row i p (List.mem_of_mem_drop hp)) (hd1'.head.kept (grown_other hg2 (hd1'.lt b hd1'.sb) h.bm)) h.fine.left (by rw [List.length_drop]; show _ ≤ M.wr; omega) (Nat.le_refl _)
      have hM : M.settle i k = { M with dur := upd M.dur i ((M.row i)[k - 1]'(by omega)), row := upd M.row i ((M.row i).drop k) } := by
        unfold Dv.settle
        rw [if_neg h0, hget]
      rw [hM]
      exact hdr
end Go.Proofs.YtdddennhdbmolaaGreat
