import Derived.Test.YtnfiapjdkjbdhaaGreatQ2
import Derived.RegionTactic
import Derived.Laws.BitsAllLaws
import Derived.Laws.StructEq
import Derived.ChangeKeysEq
namespace Go.Proofs.YtnfiapjdkjbdhaaGreat
open Go.RowKit Go.Maps
set_option linter.unusedVariables false
set_option linter.unusedSimpArgs false
set_option maxRecDepth 10000
theorem entry_upd (row : Nat → List (List UInt8)) (vals : Nat → Value) (i : Nat) (r' : List (List UInt8)) (v' : Value) (j : Nat) :
    upd (entry row vals) i (if r'.isEmpty then none else some (.agg #[v'])) j = entry (upd row i r') (upd vals i v') j := by
  by_cases h : j = i
  · subst h; simp [entry]
  · simp only [entry, upd_other _ _ h]
theorem DevIn.rows {S S' : Nat → Prop} {W W' : World} {b g c m : Nat} {vals : Nat → Value} {M : Dv} (h : DevIn S W b g c m vals M) (i : Nat) (hi : i < M.n) (r' : List (List UInt8)) (v' : Value)
    (hS : ∀ k, S k → S' k) (hlt : ∀ k, S' k → k < W'.heap.size)
    (hblk : ∀ k, k < W.heap.size → k ≠ b → k ≠ m → (M.row i ≠ [] → (vals i).ownBlock ≠ some k) → W'.heap[k]? = W.heap[k]?)
    (hmap : IMap Tryz.prog 3 W' m M.n (upd (entry M.row vals) i (if r'.isEmpty then none else some (.agg #[v']))))
    (hrow : r' ≠ [] → RowAt W' v' r' ∧ ∃ k, v'.ownBlock = some k ∧ S' k ∧ ((M.row i ≠ [] ∧ (vals i).ownBlock = some k) ∨ W.heap.size ≤ k))
    (hlen : ∀ p ∈ r', p.length = 64) {wr left : Nat} {down : Bool} (hh : Head W' b g c m M.n wr left down) (hl : left ≤ 9223372036854775807) (hwr : r'.length ≤ wr) (hwr' : M.wr ≤ wr) :
    DevIn S' W' b g c m (upd vals i v') { M with row := upd M.row i r', wr := wr, left := left, down := down } := by
  have hold : ∀ k, S k → (M.row i ≠ [] → (vals i).ownBlock ≠ some k) → k ≠ b → k ≠ m → W'.heap[k]? = W.heap[k]? := fun k hk hne h1 h2 => hblk k (h.lt k hk) h1 h2 hne
  have hnew : ∀ k, S k → ¬ Rk M.row vals k → r' ≠ [] → v'.ownBlock ≠ some k := by
    intro k hk hno hr' e
    obtain ⟨_, k', hk', _, hor⟩ := hrow hr'
    rw [e] at hk'
    cases hk'
    rcases hor with ⟨h1, h2⟩ | h1
    · exact hno ⟨i, h1, h2⟩
    · have := h.lt k hk; omega
  have hRk : ∀ k, S k → ¬ Rk M.row vals k → ¬ Rk (upd M.row i r') (upd vals i v') k := by
    rintro k hk hno ⟨j, hj, hjk⟩
    by_cases e : j = i
    · subst e
      rw [upd_same] at hj hjk
      exact hnew k hk hno hj hjk
    · rw [upd_other _ _ e] at hj hjk
      exact hno ⟨j, hj, hjk⟩
  exact {
    fine := {
      n := h.fine.n, dur := h.fine.dur, left := hl
      row := fun j p hp => by
        by_cases e : j = i
        · subst e; simp only [upd_same] at hp; exact hlen p hp
        · simp only [upd_other _ _ e] at hp; exact h.fine.row j p hp
      out := fun j hj => by
        by_cases e : j = i
        · subst e; exact hi
        · simp only [upd_other _ _ e] at hj; exact h.fine.out j hj
      rows := fun j => by
        by_cases e : j = i
        · subst e; simp only [upd_same]; exact hwr
        · simp only [upd_other _ _ e]; exact Nat.le_trans (h.fine.rows j) hwr' }
    head := hh
    du := h.du.kept (hold g h.sg (fun h1 h2 => h.rg ⟨i, h1, h2⟩) (Ne.symm h.bg) h.gm)
    ro := {
      map := hmap.congr fun j _ => entry_upd _ _ _ _ _ _
      at_ := fun j hj => by
        by_cases e : j = i
        · subst e
          simp only [upd_same] at hj ⊢
          exact (hrow hj).1
        · simp only [upd_other _ _ e] at hj ⊢
          refine (h.ro.at_ j hj).kept fun k hk => ?_
          have hR : Rk M.row vals k := ⟨j, hj, hk⟩
          refine hold k (h.sr k hR) (fun h1 h2 => ?_) (fun e2 => h.rb (e2 ▸ hR)) (fun e2 => h.rm (e2 ▸ hR))
          exact h.ro.apart j i hj h1 e (hk.trans h2.symm)
      apart := fun j j' hj hj' hne => by
        by_cases e : j = i
        · subst e
          have e' : j' ≠ j := Ne.symm hne
          simp only [upd_same] at hj
          simp only [upd_other _ _ e'] at hj'
          rw [upd_same, upd_other _ _ e']
          obtain ⟨_, k, hk, _, hor⟩ := hrow hj
          rw [hk]
          intro e2
          rcases hor with ⟨h1, h2⟩ | h1
          · exact h.ro.apart j j' h1 hj' hne (h2.trans e2)
          · have := h.lt k (h.sr k ⟨j', hj', e2.symm⟩); omega
        · simp only [upd_other _ _ e] at hj
          rw [upd_other _ _ e]
          by_cases e' : j' = i
          · subst e'
            simp only [upd_same] at hj'
            rw [upd_same]
            obtain ⟨_, k, hk, _, hor⟩ := hrow hj'
            rw [hk]
            intro e2
            rcases hor with ⟨h1, h2⟩ | h1
            · exact h.ro.apart j j' hj h1 hne (e2.trans h2.symm)
            · have := h.lt k (h.sr k ⟨j, hj, e2⟩); omega
          · simp only [upd_other _ _ e'] at hj'
            rw [upd_other _ _ e']
            exact h.ro.apart j j' hj hj' hne }
    cap := h.cap
    sb := hS _ h.sb, sg := hS _ h.sg, sm := hS _ h.sm
    sr := fun k => by
      rintro ⟨j, hj, hk⟩
      by_cases e : j = i
      · subst e
        simp only [upd_same] at hj hk
        obtain ⟨_, k', hk', hs, _⟩ := hrow hj
        rw [hk'] at hk
        cases hk
        exact hs
      · simp only [upd_other _ _ e] at hj hk
        exact hS k (h.sr k ⟨j, hj, hk⟩)
    bg := h.bg, bm := h.bm, gm := h.gm
    rb := hRk _ h.sb h.rb, rg := hRk _ h.sg h.rg, rm := hRk _ h.sm h.rm
    lt := hlt }
theorem DevIn.dured {S : Nat → Prop} {W : World} {b g c m : Nat} {vals : Nat → Value} {M : Dv} (h : DevIn S W b g c m vals M) (i : Nat) (hi : i < M.n) (t : List UInt8) (ht : t.length = 64) :
    DevIn S (W.setCells g (i * 64) (bc t)) b g c m vals { M with dur := upd M.dur i t } ∧ Only S W (W.setCells g (i * 64) (bc t)) := by
  have hg := setCells_grown g (bc t) (i * 64) W
  have hsz : W.heap.size ≤ (W.setCells g (i * 64) (bc t)).heap.size := hg.size
  have hold : ∀ k, S k → k ≠ g → (W.setCells g (i * 64) (bc t)).heap[k]? = W.heap[k]? := fun k hk hne => hg.block k (h.lt k hk) (by intro e; cases e; exact hne rfl)
  refine ⟨?_, Only.of_grown hg (fun k e => by cases e; exact h.sg)⟩
  exact {
    fine := { n := h.fine.n, row := h.fine.row, out := h.fine.out, rows := h.fine.rows, left := h.fine.left
              dur := fun j hj => by
                by_cases e : j = i
                · subst e; simp only [upd_same]; exact ht
                · simp only [upd_other _ _ e]; exact h.fine.dur j hj }
    head := h.head.kept (hold b h.sb h.bg)
    du := ⟨fun j hj => by
        by_cases e : j = i
        · subst e
          simp only [upd_same]
          refine World.rangeAt_setCells_same _ _ _ _ ?_
          have := there_sub h.du.there (j * 64) 64 (by have : j + 1 ≤ M.n := hi; omega)
          rw [Nat.zero_add] at this
          rw [List.length_map, ht]
          exact this
        · simp only [upd_other _ _ e]
          refine World.rangeAt_setCells_apart (h.du.at_ j hj) _ _ _ ?_
          rw [List.length_map, List.length_map, ht, h.fine.dur j hj]
          omega, World.there_setCells h.du.there _ _ _⟩
    ro := h.ro.kept (hold m h.sm (Ne.symm h.gm)) fun k hk => hold k (h.sr k hk) (fun e => h.rg (e ▸ hk))
    cap := h.cap, sb := h.sb, sg := h.sg, sm := h.sm, sr := h.sr, bg := h.bg, bm := h.bm, gm := h.gm, rb := h.rb, rg := h.rg, rm := h.rm
    lt := fun k hk => Nat.lt_of_lt_of_le (h.lt k hk) hsz }
theorem settle_zero (b i : Nat) (W : World) : Calls Tryz.prog 141 #[devp b, .int .i64 (i : Int), .int .i64 0] W fun e w' => e = .returned (.tuple #[]) ∧ W = w' := by
  go_enter Tryz.func141, Tryz.ntmps141
  go_wp2
  refine bodyPost_ret (results_none rfl _ _ _) rfl ?_
  exact ⟨rfl, rfl⟩
set_option maxRecDepth 100000 in
set_option maxHeartbeats 1000000 in
theorem settle_del (b g c n m i k g' off cap : Nat) (W W1 W2 : World) (hi : i < n) (hn : n ≤ 4096) (hk : 0 < k) (hkb : k ≤ 1099511627776) (h2 : W.cell? ⟨b, 2, none⟩ = some (.slice (some ⟨g, 0, none⟩) n c)) (h3 : W.cell? ⟨b, 3, none⟩ = some (.map (some m)))
    (hlk : (Instr.lookup 130 (.map (some m)) (.int .i64 (i : Int)) false).run Tryz.prog W = .ok (.agg #[.slice (some ⟨g', off, none⟩) k cap]) W)
    (v : Value) (hld : (secLoad (.pointer (some ⟨g', off + (k - 1) * 64, none⟩))).run Tryz.prog W.drew = .ok v W.drew) (hst : (secStore (.pointer (some ⟨g, i * 64, none⟩)) v).run Tryz.prog W.drew = .ok () W1)
    (h31 : W1.cell? ⟨b, 3, none⟩ = some (.map (some m))) (hdel : (Builtin.delete_ #[130, 3] 0 #[.map (some m), .int .i64 (i : Int)]).run Tryz.prog W1 = .ok (.tuple #[]) W2) :
    Calls Tryz.prog 141 #[devp b, .int .i64 (i : Int), .int .i64 (k : Int)] W fun e w' => e = .returned (.tuple #[]) ∧ W2 = w' := by
  have hf := row_field (some ⟨g', off, none⟩) k cap
  have hk0 : ((k : Int) == 0) = false := by simp; omega
  have hk2 : 0 < (k : Int) := by omega
  go_enter Tryz.func141, Tryz.ntmps141
  go_wp2
  go_region
  all_goals
    go_wp2
    go_end0
    exact ⟨rfl, rfl⟩
set_option maxRecDepth 100000 in
set_option maxHeartbeats 1000000 in
theorem settle_cut (b g c n m i k l g' off cap : Nat) (W W1 W2 : World) (hi : i < n) (hn : n ≤ 4096) (hk : 0 < k) (hkl : k < l) (hlc : l ≤ cap) (hkb : l ≤ 1099511627776) (h2 : W.cell? ⟨b, 2, none⟩ = some (.slice (some ⟨g, 0, none⟩) n c)) (h3 : W.cell? ⟨b, 3, none⟩ = some (.map (some m)))
    (hlk : (Instr.lookup 130 (.map (some m)) (.int .i64 (i : Int)) false).run Tryz.prog W = .ok (.agg #[.slice (some ⟨g', off, none⟩) l cap]) W)
    (v : Value) (hld : (secLoad (.pointer (some ⟨g', off + (k - 1) * 64, none⟩))).run Tryz.prog W.drew = .ok v W.drew) (hst : (secStore (.pointer (some ⟨g, i * 64, none⟩)) v).run Tryz.prog W.drew = .ok () W1)
    (h31 : W1.cell? ⟨b, 3, none⟩ = some (.map (some m))) (hup : (Instr.mapUpdate 130 (.map (some m)) (.int .i64 (i : Int)) (.agg #[.slice (some ⟨g', off + k * 64, none⟩) (l - k) (cap - k)])).run Tryz.prog W1.drew = .ok () W2) :
    Calls Tryz.prog 141 #[devp b, .int .i64 (i : Int), .int .i64 (k : Int)] W fun e w' => e = .returned (.tuple #[]) ∧ W2 = w' := by
  have hf := row_field (some ⟨g', off, none⟩) l cap
  have hbd := row_build (some ⟨g', off + k * 64, none⟩) (l - k) (cap - k)
  have hk0 : ((k : Int) == 0) = false := by simp; omega
  have hkl0 : ((k : Int) == (l : Int)) = false := by simp; omega
  have hk2 : 0 < (k : Int) := by omega
  have hcap : (cap = k) = False := by simp; omega
  go_enter Tryz.func141, Tryz.ntmps141
  go_wp2
  go_region
  all_goals
    go_wp2
    go_region
    all_goals
      go_wp2
      go_end0
      exact ⟨rfl, rfl⟩
theorem upd_id {α : Type} (f : Nat → α) (i : Nat) : upd f i (f i) = f := by
  funext j
  by_cases h : j = i
  · subst h; simp
  · rw [upd_other _ _ h]
theorem Dv.settle_zero (M : Dv) (i : Nat) : M.settle i 0 = M := by
  unfold Dv.settle
  simp [upd_id]
theorem grown_other {W W' : World} {m k : Nat} (h : W.grownBy W' (some m)) (hk : k < W.heap.size) (hne : k ≠ m) : W'.heap[k]? = W.heap[k]? := h.block k hk (by intro e; cases e; exact hne rfl)
theorem settle_any {S : Nat → Prop} {W : World} {b g c m : Nat} {vals : Nat → Value} {M : Dv} (h : DevIn S W b g c m vals M) (hw : M.wr ≤ 1099511627776) (i : Nat) (hi : i < M.n) (k : Nat) (hk : k ≤ (M.row i).length) :
    Calls Tryz.prog 141 #[devp b, .int .i64 (i : Int), .int .i64 (k : Int)] W fun e w' => e = .returned (.tuple #[]) ∧ ∃ vals', DevIn S w' b g c m vals' (M.settle i k) ∧ Only S W w' := by
  by_cases h0 : k = 0
  · subst h0
    refine (settle_zero b i W).mono ?_
    rintro e w' ⟨rfl, rfl⟩
    exact ⟨rfl, vals, by rw [Dv.settle_zero]; exact h, Only.refl _ _⟩
  · have hne : M.row i ≠ [] := by intro e; rw [e] at hk; simp at hk; omega
    obtain ⟨A, cap, hlk, hA⟩ := look_row h i hi
    rcases hA with ⟨hr, _⟩ | ⟨_, hv⟩
    · contradiction
    have hrow := h.ro.at_ i hne
    have hrow' := hrow
    rw [← hv] at hrow'
    have hrow2 := hrow'
    obtain ⟨g', off, cap', he, hcap, hcm, _, _⟩ := hrow'
    cases he
    have hown : (vals i).ownBlock = some g' := by rw [← hv]; rfl
    have hlen := h.fine.rows i
    have ht : ((M.row i)[k - 1]'(by omega)).length = 64 := h.fine.row i _ (List.getElem_mem _)
    have hsec := hrow2.sector (h.fine.row i) (k - 1) (by omega)
    have hget : (M.row i)[k - 1]'(by omega) = (M.row i).getD (k - 1) [] := by
      rw [List.getD_eq_getElem?_getD, List.getElem?_eq_getElem (by omega)]; rfl
    have hd0 : DevIn S W.drew b g c m vals M := h.kept (Nat.le_refl _) (fun _ _ => rfl)
    obtain ⟨hd1, ho1⟩ := hd0.dured i hi _ ht
    have hld := sec_load W.drew g' (off + (k - 1) * 64) _ ht hsec
    have hth := there_sub hd0.du.there (i * 64) 64 (by have : i + 1 ≤ M.n := hi; omega)
    rw [Nat.zero_add] at hth
    have hst := sec_put W.drew g (i * 64) _ ht hth
    generalize hW1 : W.drew.setCells g (i * 64) (bc ((M.row i)[k - 1]'(by omega))) = W1 at hd1 ho1 hst
    have hO1 : Only S W W1 := (Only.of_below ((Below.refl _ W).drew)).trans ho1 (fun _ e => .inl e)
    have hgl : g' < W1.heap.size := hd1.lt g' (hd1.sr g' ⟨i, hne, hown⟩)
    have hrow1 : RowAt W1 (vals i) (M.row i) := hd1.ro.at_ i hne
    by_cases hkl : k = (M.row i).length
    · obtain ⟨W2, hdel, hmap, hg2⟩ := hd1.ro.map.drop Tryz.underlying3 Tryz.underlying130 (by have := h.fine.n; show M.n ≤ _; omega) hi 0
      refine (settle_del b g c M.n m i k g' off cap W W1 W2 hi h.fine.n (by omega) (by omega) h.head.c2 h.head.c3 (by rw [hkl]; exact hlk) _ hld hst hd1.head.c3 hdel).mono ?_
      rintro e w' ⟨rfl, rfl⟩
      refine ⟨rfl, upd vals i (.slice none 0 0), ?_, hO1.trans (Only.of_grown (S := S) hg2 (fun k e => by cases e; exact h.sm)) (fun _ e => .inl e)⟩
      have hdr := hd1.rows (S' := S) (W' := W2) i hi [] (.slice none 0 0) (fun _ hk => hk) (fun k hk => Nat.lt_of_lt_of_le (hd1.lt k hk) hg2.size) (fun k hk _ hm _ => grown_other hg2 hk hm)
        (by simpa using hmap) (fun e => absurd rfl e) (by simp) (hd1.head.kept (grown_other hg2 (hd1.lt b hd1.sb) h.bm)) h.fine.left (Nat.zero_le _) (Nat.le_refl _)
      have hM : M.settle i k = { M with dur := upd M.dur i ((M.row i)[k - 1]'(by omega)), row := upd M.row i [] } := by
        unfold Dv.settle
        rw [if_neg h0, hget, hkl, List.drop_length]
      rw [hM]
      exact hdr
    · have hdk : M.row i |>.drop k |> (· ≠ []) := by
        intro e; have := congrArg List.length e; simp at this; omega
      have hd1' : DevIn S W1.drew b g c m vals _ := hd1.kept (Nat.le_refl _) (fun _ _ => rfl)
      obtain ⟨W2, hup, hmap, hg2⟩ := hd1'.ro.map.store Tryz.underlying3 Tryz.underlying130 (by have := h.fine.n; show M.n ≤ _; omega) hi (.agg #[.slice (some ⟨g', off + k * 64, none⟩) ((M.row i).length - k) (cap - k)])
      refine (settle_cut b g c M.n m i k (M.row i).length g' off cap W W1 W2 hi h.fine.n (by omega) (by omega) hcap (by omega) h.head.c2 h.head.c3 hlk _ hld hst hd1.head.c3 hup).mono ?_
      rintro e w' ⟨rfl, rfl⟩
      have hO2 : Only S W1 W2 := (Only.of_below ((Below.refl _ W1).drew)).trans (Only.of_grown (S := S) hg2 (fun k e => by cases e; exact h.sm)) (fun _ e => .inl e)
      refine ⟨rfl, upd vals i (.slice (some ⟨g', off + k * 64, none⟩) ((M.row i).length - k) (cap - k)), ?_, hO1.trans hO2 (fun _ e => .inl e)⟩
      have hnew : RowAt W2 (.slice (some ⟨g', off + k * 64, none⟩) ((M.row i).length - k) (cap - k)) ((M.row i).drop k) := by
        have h1 := hrow1
        rw [← hv] at h1
        refine (h1.drop (h.fine.row i) k hk).kept fun k' e => ?_
        cases e
        exact grown_other (W := W1.drew) (k := g') hg2 hgl (fun e2 => h.rm (by rw [← e2]; exact ⟨i, hne, hown⟩))
      have hdr := hd1'.rows (S' := S) (W' := W2) i hi ((M.row i).drop k) (.slice (some ⟨g', off + k * 64, none⟩) ((M.row i).length - k) (cap - k)) (fun _ hk => hk) (fun k hk => Nat.lt_of_lt_of_le (hd1'.lt k hk) hg2.size) (fun k hk _ hm _ => grown_other hg2 hk hm)
        (by rw [if_neg (by simpa using hdk)]; exact hmap) (fun _ => ⟨hnew, g', rfl, h.sr g' ⟨i, hne, hown⟩, .inl ⟨hne, hown⟩⟩) (fun p hp => h.fine.row i p (List.mem_of_mem_drop hp)) (hd1'.head.kept (grown_other hg2 (hd1'.lt b hd1'.sb) h.bm)) h.fine.left (by rw [List.length_drop]; show _ ≤ M.wr; omega) (Nat.le_refl _)
      have hM : M.settle i k = { M with dur := upd M.dur i ((M.row i)[k - 1]'(by omega)), row := upd M.row i ((M.row i).drop k) } := by
        unfold Dv.settle
        rw [if_neg h0, hget]
      rw [hM]
      exact hdr
end Go.Proofs.YtnfiapjdkjbdhaaGreat
/- Layer 3 (dev): a sector is written. -/
namespace Go.Proofs.YtnfiapjdkjbdhaaGreat
open Go.RowKit Go.Maps
set_option linter.unusedVariables false
set_option linter.unusedSimpArgs false
set_option maxRecDepth 10000
def secBuild (n : Nat) (ps : Array (Nat × Value)) : Sem Value := Instr.buildSlice 129 n ps
def secAppend (args : Array Value) : Sem Value := Builtin.append_ #[129, 129] 129 args
@[go_sem ↓] theorem sec_build_fold (n : Nat) (ps : Array (Nat × Value)) : Instr.buildSlice 129 n ps = secBuild n ps := rfl
@[go_sem ↓] theorem sec_append_fold (args : Array Value) : Builtin.append_ #[129, 129] 129 args = secAppend args := rfl
theorem sec_arr (A : Option Addr) (cp : Nat) (w : World) : (Instr.arrayAt 126 (.slice A 64 cp)).run Tryz.prog w = .ok (.pointer A) w := by
  simp [Instr.arrayAt, run_underlying Tryz.underlying126]
set_option maxRecDepth 100000 in
set_option maxHeartbeats 2000000 in
theorem write_raw (b g c n m i wr k cap k' cap' : Nat) (A A' : Option Addr) (s : List UInt8) (W Wc Wb Wa Wm : World) (cp : Nat) (hi : i < n) (hn : n ≤ 4096) (hs : s.length = 64) (hwr : wr ≤ 1099511627776)
    (h1 : W.cell? ⟨b, 1, none⟩ = some (.bool false)) (h2 : W.cell? ⟨b, 2, none⟩ = some (.slice (some ⟨g, 0, none⟩) n c))
    (h3 : W.cell? ⟨b, 3, none⟩ = some (.map (some m))) (h3c : Wc.cell? ⟨b, 3, none⟩ = some (.map (some m))) (h3b : Wb.cell? ⟨b, 3, none⟩ = some (.map (some m))) (h3a : Wa.cell? ⟨b, 3, none⟩ = some (.map (some m))) (h3m : Wm.cell? ⟨b, 3, none⟩ = some (.map (some m)))
    (hl0 : (Instr.lookup 130 (.map (some m)) (.int .i64 (i : Int)) false).run Tryz.prog W.drew = .ok (.agg #[.slice A k cap]) W.drew)
    (hlc : (Instr.lookup 130 (.map (some m)) (.int .i64 (i : Int)) false).run Tryz.prog Wc = .ok (.agg #[.slice A k cap]) Wc)
    (hlb : (Instr.lookup 130 (.map (some m)) (.int .i64 (i : Int)) false).run Tryz.prog Wb = .ok (.agg #[.slice A k cap]) Wb)
    (hcv : (convert 9 53 (str s)).run Tryz.prog W.drew = .ok (.slice (some ⟨W.heap.size, 0, none⟩) 64 cp) Wc)
    (hrg : Wc.rangeAt W.heap.size 0 (bc s))
    (hbs : (secBuild 1 #[(0, .agg (bc s).toArray)]).run Tryz.prog Wc = .ok (.slice (some ⟨Wc.heap.size, 0, none⟩) 1 1) Wb)
    (hap : (secAppend #[.slice A k cap, .slice (some ⟨Wc.heap.size, 0, none⟩) 1 1]).run Tryz.prog Wb = .ok (.slice A' k' cap') Wa)
    (hup : (Instr.mapUpdate 130 (.map (some m)) (.int .i64 (i : Int)) (.agg #[.slice A' k' cap'])).run Tryz.prog Wa = .ok () Wm)
    (h4 : Wm.cell? ⟨b, 4, none⟩ = some (.int .u64 (wr : Int))) (f4 : Wm.frozen? ⟨b, 4, none⟩ = false) (R : World → Prop)
    (hburn : Calls Tryz.prog 139 #[devp b] (Wm.setCell ⟨b, 4, none⟩ (.int .u64 ((wr : Int) + 1))) fun e w' => e = .returned (.tuple #[]) ∧ R w') :
    Calls Tryz.prog 77 #[devp b, .int .i64 (i : Int), str s] W fun e w' => e = .returned (.int .i64 0) ∧ R w' := by
  have hf := row_field A k cap
  have hbd := row_build A' k' cap'
  have har := sec_arr (some ⟨W.heap.size, 0, none⟩) cp
  have hld := sec_load Wc W.heap.size 0 s hs hrg
  have hwrap : IntKind.u64.wrap ((wr : Int) + 1) = (wr : Int) + 1 := u64_wrap _ (by omega) (by omega)
  have hu := Tryz.underlying126
  have hsz : (Tryz.prog.info? 126).map (·.size) = some (bc s).length := by rw [List.length_map, hs]; kernel_rfl
  go_enter Tryz.func77, Tryz.ntmps77
  go_wp2_with fail
  refine (works_any _ _ _ h1).mono ?_
  rintro e w1 ⟨rfl, rfl⟩
  go_wp2_with fail
  refine (has_yes _ _ _ _ _ _ hn hi h2).mono ?_
  rintro e w1 ⟨rfl, rfl⟩
  go_wp2_with fail
  go_region
  go_wp2_with fail
  refine hburn.mono ?_
  rintro e w' ⟨rfl, hR⟩
  go_wp2
  go_ret
  exact ⟨rfl, hR⟩
theorem sec_build (W : World) (s : List UInt8) (hs : s.length = 64) : (secBuild 1 #[(0, .agg (bc s).toArray)]).run Tryz.prog W = .ok (.slice (some ⟨W.heap.size, 0, none⟩) 1 1) (W.alloc (.cells (bc s).toArray 126)) := by
  obtain ⟨i, hi, hz, hsz, hby⟩ := info_parts secInfo
  refine run_buildSlice W 129 126 1 _ _ i _ Tryz.underlying129 hi hz (by rw [hsz]; decide) (by rw [hsz]; decide) ?_
  rw [hsz]
  have := Go.Great.fill_whole (s := 64) (by decide) [Value.agg (bc s).toArray] ((Array.range (1 * 64)).map ((Value.agg (Array.replicate 64 (Value.int .u8 0))).cells[· % (Value.agg (Array.replicate 64 (Value.int .u8 0))).cells.size]!)) (by simp [Value.cells, hs]) (by simp)
  simpa [Value.cells] using this
theorem write_any {S : Nat → Prop} {W : World} {b : Nat} {M : Dv} (h : DevAt S W b M) (hd : M.down = false) (hw : M.wr < 1099511627776) (i : Nat) (hi : i < M.n) (s : List UInt8) (hs : s.length = 64) :
    Calls Tryz.prog 77 #[devp b, .int .i64 (i : Int), str s] W fun e w' => e = .returned (.int .i64 0) ∧ Step S W b (M.write i s) w' := by
  obtain ⟨g, c, m, vals, h⟩ := h
  have h1 := h.head.c1
  rw [hd] at h1
  obtain ⟨A, cap, hlk, hA⟩ := look_row h i hi
  obtain ⟨cp, Wc, hcv, hby, hbc, hszc⟩ := bytes_of_string (P := Tryz.prog) W.drew 9 53 5 s Tryz.underlying9 Tryz.underlying53 Tryz.underlying5
  rw [hs] at hcv
  have hsW : W.drew.heap.size = W.heap.size := rfl
  rw [hsW] at hcv hby hbc hszc
  have hbel : Below W.heap.size W Wc := ((Below.refl W.heap.size W).drew).trans hbc
  have hrg : Wc.rangeAt W.heap.size 0 (bc s) := fun j v hj => by
    have hj' : j < s.length := by simpa using (List.getElem?_eq_some_iff.1 hj).1
    have := (hby j hj').1
    rw [Nat.zero_add, this]
    rw [List.getElem?_map, List.getElem?_eq_getElem hj'] at hj
    exact hj
  have hbs := sec_build Wc s hs
  obtain ⟨Wb, hWb⟩ : ∃ Wb, Wc.alloc (.cells (bc s).toArray 126) = Wb := ⟨_, rfl⟩
  have hbelb : Below W.heap.size W Wb := by rw [← hWb]; exact hbel.alloc hbel.size _
  have hszb : Wb.heap.size = W.heap.size + 2 := by rw [← hWb]; simp [hszc]
  have hnewr : Wb.rangeAt Wc.heap.size 0 (bc s) := by
    rw [← hWb]
    exact range_row (heap_alloc_new Wc _) (by simp)
  rw [hWb] at hbs
  have hD0 : DevIn S W.drew b g c m vals M := h.kept (Nat.le_refl _) (fun _ _ => rfl)
  have hDc : DevIn S Wc b g c m vals M := h.kept hbel.size (fun k hk => hbel.block k (h.lt k hk))
  have hDb : DevIn S Wb b g c m vals M := h.kept hbelb.size (fun k hk => hbelb.block k (h.lt k hk))
  have hsame : ∀ {W' : World}, DevIn S W' b g c m vals M → (Instr.lookup 130 (.map (some m)) (.int .i64 (i : Int)) false).run Tryz.prog W' = .ok (.agg #[.slice A (M.row i).length cap]) W' := by
    intro W' hD'
    obtain ⟨A', cap', hl', hA'⟩ := look_row hD' i hi
    rw [hl']
    rcases hA with ⟨_, rfl, rfl⟩ | ⟨hr, hv⟩ <;> rcases hA' with ⟨hr', h2, h3⟩ | ⟨hr', hv'⟩
    · rw [h2, h3]
    · rename_i h0; exact absurd h0 hr'
    · exact absurd hr' hr
    · rw [hv', hv]
  have hv : ((.slice A (M.row i).length cap : Value) = .slice none 0 0 ∧ M.row i = []) ∨ RowAt Wb (.slice A (M.row i).length cap) (M.row i) := by
    rcases hA with ⟨hr, rfl, rfl⟩ | ⟨hr, hv⟩
    · exact .inl ⟨by rw [hr]; rfl, hr⟩
    · exact .inr (by rw [hv]; exact hDb.ro.at_ i hr)
  have hownv : ∀ k, (Value.slice A (M.row i).length cap).ownBlock = some k → M.row i ≠ [] ∧ (vals i).ownBlock = some k := by
    intro k hk
    rcases hA with ⟨hr, rfl, rfl⟩ | ⟨hr, hv⟩
    · cases hk
    · exact ⟨hr, by rw [← hv]; exact hk⟩
  obtain ⟨v', Wa, hap, hrowa, hga, hown'⟩ := run_append_row (P := Tryz.prog) Tryz.underlying129 secInfo (by simp [Value.cells]) (ty := 129) Wb _ (M.row i) hv (h.fine.row i) Wc.heap.size 1 s hs hnewr (by have := h.fine.rows i; omega)
  have hrowa' := hrowa
  obtain ⟨g', off', cap', hv', _⟩ := hrowa'
  have hm_own : ∀ k, S k → ¬ Rk M.row vals k → Wa.heap[k]? = Wb.heap[k]? := fun k hk hno =>
    hga.block k (hDb.lt k hk) (fun e => hno ⟨i, (hownv k e.symm).1, (hownv k e.symm).2⟩)
  obtain ⟨Wm, hup, hmapm, hgm⟩ := (hDb.ro.map.kept (hm_own m h.sm h.rm)).store Tryz.underlying3 Tryz.underlying130 (by have := h.fine.n; omega) hi (.agg #[v'])
  have hlta : ∀ k, S k → k < Wa.heap.size := fun k hk => Nat.lt_of_lt_of_le (hDb.lt k hk) hga.size
  have hbm : Wm.heap[b]? = Wa.heap[b]? := grown_other hgm (hlta b h.sb) h.bm
  have hba : Wa.heap[b]? = Wb.heap[b]? := hm_own b h.sb h.rb
  have hHa := hDb.head.kept hba
  have hHm := hHa.kept hbm
  have hH4 := hHm.set4 (M.wr + 1)
  have hne' : M.row i ++ [s] ≠ [] := by simp
  obtain ⟨k', hk', hk'lt⟩ := hrowa.own hne'
  have hk'or : (M.row i ≠ [] ∧ (vals i).ownBlock = some k') ∨ Wb.heap.size ≤ k' := by
    rcases hown' with e | ⟨g2, e, hg2⟩
    · exact .inl (hownv k' (e ▸ hk'))
    · rw [hk'] at e; cases e; exact .inr hg2
  have hk'm : k' ≠ m := by
    rintro rfl
    rcases hk'or with h2 | h2
    · exact h.rm ⟨i, h2.1, h2.2⟩
    · have := hDb.lt _ h.sm; omega
  have hk'b : k' ≠ b := by
    rintro rfl
    rcases hk'or with h2 | h2
    · exact h.rb ⟨i, h2.1, h2.2⟩
    · have := hDb.lt _ h.sb; omega
  have hszm : Wb.heap.size ≤ Wm.heap.size := Nat.le_trans hga.size hgm.size
  have hset : ∀ k, k ≠ b → (Wm.setCell ⟨b, 4, none⟩ (.int .u64 ((M.wr + 1 : Nat) : Int))).heap[k]? = Wm.heap[k]? := fun k hk => set_other _ _ _ _ _ hk
  have hD4 := hDb.rows (S' := fun k => S k ∨ k = k') (W' := Wm.setCell ⟨b, 4, none⟩ (.int .u64 ((M.wr + 1 : Nat) : Int))) i hi (M.row i ++ [s]) v' (fun k hk => .inl hk)
    (fun k hk => by
      rw [set_size]
      rcases hk with hk | rfl
      · exact Nat.lt_of_lt_of_le (hlta k hk) hgm.size
      · exact Nat.lt_of_lt_of_le hk'lt hgm.size)
    (fun k hk hb2 hm2 hno => by
      rw [hset k hb2, grown_other hgm (Nat.lt_of_lt_of_le hk hga.size) hm2]
      exact hga.block k hk (fun e => hno (hownv k e.symm).1 (hownv k e.symm).2))
    (by rw [if_neg (by simp)]; exact hmapm.kept (hset m (Ne.symm h.bm)))
    (fun _ => ⟨hrowa.kept fun k hk => by rw [hk'] at hk; cases hk; rw [hset k' hk'b]; exact grown_other hgm hk'lt hk'm, k', hk', .inr rfl, hk'or⟩)
    (fun p hp => by
      rcases List.mem_append.1 hp with hp | hp
      · exact h.fine.row i p hp
      · simp at hp; rw [hp]; exact hs)
    hH4 h.fine.left (by rw [List.length_append]; have := h.fine.rows i; simp; omega) (Nat.le_succ _)
  have hburn := burn_any hD4 hd
  have hcast : ((M.wr + 1 : Nat) : Int) = (M.wr : Int) + 1 := by omega
  rw [hcast] at hburn
  rw [hv'] at hap hup
  refine (write_raw b g c M.n m i M.wr _ _ _ _ A _ s W Wc Wb Wa Wm cp hi h.fine.n hs (by omega) h1 h.head.c2 h.head.c3 hDc.head.c3 hDb.head.c3 hHa.c3 hHm.c3 (hsame hD0) (hsame hDc) (hsame hDb) hcv hrg hbs hap hup hHm.c4 hHm.f4 _ hburn).mono ?_
  rintro e w' ⟨rfl, hDf, hOf⟩
  refine ⟨rfl, fun k => S k ∨ k = k', ⟨g, c, m, _, hDf⟩, ?_, ?_⟩
  · have o1 : Only S W Wb := Only.of_below hbelb
    have o2 : Only S Wb Wa := Only.of_grown hga (fun k e => h.sr k ⟨i, hownv k e⟩)
    have o3 : Only S Wa Wm := Only.of_grown hgm (fun k e => by cases e; exact h.sm)
    have o4 : Only S Wm (Wm.setCell ⟨b, 4, none⟩ (.int .u64 ((M.wr : Int) + 1))) := Only.setCell S Wm ⟨b, 4, none⟩ _ h.sb
    refine ((((o1.trans o2 (fun _ e => .inl e)).trans o3 (fun _ e => .inl e)).trans o4 (fun _ e => .inl e))).trans hOf (fun k e => ?_)
    rcases e with e | rfl
    · exact .inl e
    · rcases hk'or with h2 | h2
      · exact .inl (h.sr _ ⟨i, h2⟩)
      · exact .inr (by omega)
  · intro k e
    rcases e with e | rfl
    · exact .inl e
    · rcases hk'or with h2 | h2
      · exact .inl (h.sr _ ⟨i, h2⟩)
      · exact .inr (by omega)
end Go.Proofs.YtnfiapjdkjbdhaaGreat
/- Layer 3 (dev): what is refused; Back. -/
namespace Go.Proofs.YtnfiapjdkjbdhaaGreat
open Go.RowKit Go.Maps
set_option linter.unusedVariables false
set_option linter.unusedSimpArgs false
set_option maxRecDepth 10000
theorem DevAt.down_cell {S : Nat → Prop} {W : World} {b : Nat} {M : Dv} (h : DevAt S W b M) {d : Bool} (hd : M.down = d) : W.cell? ⟨b, 1, none⟩ = some (.bool d) := by
  obtain ⟨g, c, m, vals, h⟩ := h
  rw [← hd]
  exact h.head.c1
theorem write_down (b : Nat) (i s : Value) (W : World) (h1 : W.cell? ⟨b, 1, none⟩ = some (.bool true)) :
    Calls Tryz.prog 77 #[devp b, i, s] W fun e w' => e = .returned (.int .i64 30) ∧ W = w' := by
  go_enter Tryz.func77, Tryz.ntmps77
  go_wp2_with fail
  refine (works_any _ _ _ h1).mono ?_
  rintro e w1 ⟨rfl, rfl⟩
  go_wp2_with fail
  go_ret
  exact ⟨rfl, rfl⟩
theorem read_down (b : Nat) (i : Value) (W : World) (h1 : W.cell? ⟨b, 1, none⟩ = some (.bool true)) :
    Calls Tryz.prog 133 #[devp b, i] W fun e w' => e = .returned (.tuple #[str [], .int .i64 30]) ∧ W = w' := by
  go_enter Tryz.func133, Tryz.ntmps133
  go_wp2_with fail
  refine (works_any _ _ _ h1).mono ?_
  rintro e w1 ⟨rfl, rfl⟩
  go_wp2_with fail
  go_ret2
  exact ⟨rfl, rfl⟩
theorem write_out (b g c n : Nat) (i : Int) (s : Value) (W : World) (hn : n ≤ 4096) (hi : i < 0 ∨ (n : Int) ≤ i) (h1 : W.cell? ⟨b, 1, none⟩ = some (.bool false)) (h2 : W.cell? ⟨b, 2, none⟩ = some (.slice (some ⟨g, 0, none⟩) n c)) :
    Calls Tryz.prog 77 #[devp b, .int .i64 i, s] W fun e w' => e = .returned (.int .i64 2) ∧ W = w' := by
  have hc := has_no b g c n i W hn hi h2
  have HC := Lib.hid hc
  clear hc hi
  go_enter Tryz.func77, Tryz.ntmps77
  go_wp2_with fail
  refine (works_any _ _ _ h1).mono ?_
  rintro e w1 ⟨rfl, rfl⟩
  go_wp2_with fail
  refine HC.out.mono ?_
  rintro e w1 ⟨rfl, rfl⟩
  go_wp2_with fail
  go_ret
  exact ⟨rfl, rfl⟩
theorem write_size (b g c n i : Nat) (s : List UInt8) (W : World) (hn : n ≤ 4096) (hi : i < n) (hs : s.length ≠ 64) (h1 : W.cell? ⟨b, 1, none⟩ = some (.bool false)) (h2 : W.cell? ⟨b, 2, none⟩ = some (.slice (some ⟨g, 0, none⟩) n c)) :
    Calls Tryz.prog 77 #[devp b, .int .i64 (i : Int), str s] W fun e w' => e = .returned (.int .i64 2) ∧ W = w' := by
  have hs1 : (((s.length : Nat) : Int) != 64) = true := by simp; omega
  go_enter Tryz.func77, Tryz.ntmps77
  go_wp2_with fail
  refine (works_any _ _ _ h1).mono ?_
  rintro e w1 ⟨rfl, rfl⟩
  go_wp2_with fail
  refine (has_yes _ _ _ _ _ _ hn hi h2).mono ?_
  rintro e w1 ⟨rfl, rfl⟩
  go_wp2_with fail
  go_ret
  exact ⟨rfl, rfl⟩
def Dv.canWrite (M : Dv) (i : Int) (s : List UInt8) : Bool := !M.down && decide (0 ≤ i) && decide (i < (M.n : Int)) && (s.length == 64)
def Dv.wrote (M : Dv) (i : Int) (s : List UInt8) : Dv := if M.canWrite i s then M.write i.toNat s else M
def Dv.wroteE (M : Dv) (i : Int) (s : List UInt8) : Int := if M.down then 30 else if M.canWrite i s then 0 else 2
theorem Step.refl {S : Nat → Prop} {W : World} {b : Nat} {M : Dv} (h : DevAt S W b M) : Step S W b M W := .of h (Only.refl _ _)
theorem write_all {S : Nat → Prop} {W : World} {b : Nat} {M : Dv} (h : DevAt S W b M) (hw : M.wr < 1099511627776) (i : Int) (s : List UInt8) :
    Calls Tryz.prog 77 #[devp b, .int .i64 i, str s] W fun e w' => e = .returned (.int .i64 (M.wroteE i s)) ∧ Step S W b (M.wrote i s) w' := by
  have h' := h
  obtain ⟨g, c, m, vals, hI⟩ := h'
  cases hd : M.down
  · have h1 := h.down_cell hd
    by_cases hi : i < 0 ∨ (M.n : Int) ≤ i
    · refine (write_out b g c M.n i (str s) W hI.fine.n hi h1 hI.head.c2).mono ?_
      rintro e w' ⟨rfl, rfl⟩
      have hc : M.canWrite i s = false := by
        unfold Dv.canWrite
        rcases hi with hi | hi
        · rw [decide_eq_false (by omega : ¬ 0 ≤ i)]; simp
        · rw [decide_eq_false (by omega : ¬ i < (M.n : Int))]; simp
      refine ⟨by unfold Dv.wroteE; rw [hd, hc]; rfl, ?_⟩
      unfold Dv.wrote; rw [hc]; exact Step.refl h
    · obtain ⟨j, rfl⟩ : ∃ j : Nat, i = (j : Int) := ⟨i.toNat, by omega⟩
      by_cases hs : s.length = 64
      · have hc : M.canWrite (j : Int) s = true := by
          unfold Dv.canWrite
          rw [hd, decide_eq_true (by omega : (0 : Int) ≤ (j : Int)), decide_eq_true (by omega : (j : Int) < (M.n : Int)), hs]; rfl
        refine (write_any h hd hw j (by omega) s hs).mono ?_
        rintro e w' ⟨rfl, hS⟩
        refine ⟨by unfold Dv.wroteE; rw [hd, hc]; rfl, ?_⟩
        unfold Dv.wrote; rw [hc, if_pos rfl, Int.toNat_natCast]; exact hS
      · have hc : M.canWrite (j : Int) s = false := by
          unfold Dv.canWrite
          rw [(by simpa using hs : (s.length == 64) = false)]; simp
        refine (write_size b g c M.n j s W hI.fine.n (by omega) hs h1 hI.head.c2).mono ?_
        rintro e w' ⟨rfl, rfl⟩
        refine ⟨by unfold Dv.wroteE; rw [hd, hc]; rfl, ?_⟩
        unfold Dv.wrote; rw [hc]; exact Step.refl h
  · refine (write_down b _ _ W (h.down_cell hd)).mono ?_
    rintro e w' ⟨rfl, rfl⟩
    refine ⟨by unfold Dv.wroteE; rw [hd]; rfl, ?_⟩
    have hc : M.canWrite i s = false := by unfold Dv.canWrite; rw [hd]; rfl
    unfold Dv.wrote; rw [hc]; exact Step.refl h
end Go.Proofs.YtnfiapjdkjbdhaaGreat
/- A range over a function whose rounds are told what they are handed (the round's arguments may hang on the world), and keep one block of the iterator's own. -/
namespace Go.Proofs.YtnfiapjdkjbdhaaGreat
open Go.RowKit
set_option linter.unusedVariables false
set_option linter.unusedSimpArgs false
set_option maxRecDepth 10000
def KeepB (B p : Nat) (W W' : World) : Prop := W'.heap[B]? = W.heap[B]? ∧ W'.heap[B + 1]? = W.heap[B + 1]? ∧ W'.heap[p]? = W.heap[p]?
theorem KeepB.refl (B p : Nat) (W : World) : KeepB B p W W := ⟨rfl, rfl, rfl⟩
theorem KeepB.trans {B p : Nat} {X Y Z : World} (h : KeepB B p X Y) (k : KeepB B p Y Z) : KeepB B p X Z := ⟨k.1.trans h.1, k.2.1.trans h.2.1, k.2.2.trans h.2.2⟩
theorem KeepB.below {B p : Nat} {W W' : World} (h : Below W.heap.size W W') (hB : B + 2 ≤ W.heap.size) (hp : p < W.heap.size) : KeepB B p W W' := ⟨h.block _ (by omega), h.block _ (by omega), h.block _ hp⟩
def roundEnd (B p : Nat) (I : World → Prop) (W : World) : Exit → Act → World → Prop
  | .normal, _, W' => KeepB B p W W' ∧ I W'
  | _, _, _ => False
section
variable {P : Program} {n : Nat}
theorem range_told {g : Operand} {ps : Array Tmp} {assign body : Code} {Q : Exit → Act → World → Prop} {a : Act} {w : World} (h1 : 1 ≤ n) {gf : Nat} {lb : Array Value}
    (hg : a.eval g = .func (.func gf) #[] lb) (eg : ∀ args w, (callFunc gf args).run P w = .ok (.enter gf args) w)
    (N : Nat) (G : Nat → Array Value → World → Prop) (I : Nat → Nat → World → Prop)
    (hit : ∀ (l : Nat) (J : Nat → Nat → World → Prop) (W : World), (∀ p j W, J p j W → I p j W) → (∀ p W', Below W.heap.size W W' → W.heap.size ≤ p → p < W'.heap.size → J p 0 W') →
      (∀ p j, j < N → ∀ args W1, J p j W1 → G j args W1 → YieldAt Fence.wide (n - 1 - 1) P l args W1 fun e W' => e = .returned (.bool true) ∧ J p (j + 1) W' ∧ W'.heap[p]? = W1.heap[p]?) →
      Below w.heap.size w W → CallsIn Fence.wide (n - 1) P gf (#[.func (.yield l) #[] #[]] ++ lb) W fun e W' => (∃ v, e = .returned v) ∧ ∃ p, J p N W')
    (h0 : ∀ p W, Below w.heap.size w W → w.heap.size + 2 ≤ p → p < W.heap.size → I p 0 W) (hput : ∀ p j W l o, w.heap.size ≤ l → l ≤ w.heap.size + 1 → I p j W → I p j (W.putObj l o))
    (Ax : Nat → Nat → Act → World → Prop) (hAx : ∀ p j a' W l o, w.heap.size ≤ l → l ≤ w.heap.size + 1 → Ax p j a' W → Ax p j a' (W.putObj l o))
    (hassign : ∀ (l p j : Nat) (args : Array Value) (W : World), j < N → w.heap.size + 2 ≤ p → p < W.heap.size → I p j W → G j args W → args.size = ps.size ∧
      assign.wpIn (Fence.wide.inRound l) (n - 1 - 1) P (Exit.then (fun a' W' => KeepB w.heap.size p W W' ∧ Ax p j a' W') (fun _ _ _ => False))
        { tmps := (ps.zip args).foldl (fun t (p, v) => t.setIfInBounds p v) a.tmps, defers := [] } W)
    (hbody : ∀ (l p j : Nat) (a' : Act) (W : World), j < N → w.heap.size + 2 ≤ p → p < W.heap.size → Ax p j a' W → body.wpIn (Fence.wide.inRound l) (n - 1 - 1) P (roundEnd w.heap.size p (I p (j + 1)) W) a' W)
    (hdone : ∀ p W, I p N W → W.heap[w.heap.size]? = some (.deferred (some [])) → Q .normal { a with defers := { target := .collected w.heap.size, args := #[] } :: a.defers } W) :
    (Code.rangeFunc g ps assign body).wpIn Fence.wide n P Q a w := by
  refine wpIn_rangeFunc fun fn hfn => ?_
  obtain ⟨mk, hmk⟩ : ∃ mk : LoopState → Option Code → Loop, mk = fun s p => { state := s, pending := p, fn := fn, tmps := a.tmps, params := ps, assign := assign, body := body, defers := w.heap.size } := ⟨_, rfl⟩
  obtain ⟨V, hV⟩ : ∃ V, (w.alloc (.deferred (some []))).alloc (.loop (mk .ready none)) = V := ⟨_, rfl⟩
  have hVs : V.heap.size = w.heap.size + 2 := by rw [← hV]; simp
  have hVb : Below w.heap.size w V := by
    rw [← hV]; exact ((Below.refl _ w).alloc (Nat.le_refl _) _).alloc (by simp) _
  have hV1 : V.heap[w.heap.size + 1]? = some (.loop (mk .ready none)) := by
    rw [← hV]; have := World.alloc_heap_new (w.alloc (.deferred (some []))) (.loop (mk .ready none)); rwa [World.size_alloc] at this
  have hV0 : V.heap[w.heap.size]? = some (.deferred (some [])) := by
    rw [← hV, Below.heap_alloc _ _ _ (by simp)]; exact World.alloc_heap_new w _
  refine ⟨w.heap.size + 1, [{ target := .collected w.heap.size, args := #[] }], V, { target := .fn (.func gf) lb, args := #[.func (.yield (w.heap.size + 1)) #[] #[]] }, V, gf,
    #[.func (.yield (w.heap.size + 1)) #[] #[]] ++ lb, V, ?_, ?_, fun _ _ => trivial, ?_, fun _ => h1, ?_⟩
  · rw [← hV, hmk]; exact run_enterLoop_outer _ _ _ _ _
  · simp only [resolve, hg]
    simp [go_sem]
  · simp [invoke, go_sem, eg]
  refine (hit (w.heap.size + 1) (fun p j W => I p j W ∧ W.heap[w.heap.size + 1]? = some (.loop (mk .ready none)) ∧ W.heap[w.heap.size]? = some (.deferred (some [])) ∧ w.heap.size + 2 ≤ p ∧ p < W.heap.size) V
    (fun p j W h => h.1) (fun p W' hbl hp1 hp2 => ⟨h0 p W' (hVb.trans (hbl.mono hVb.size)) (by omega) hp2, ?_, ?_, by omega, hp2⟩) ?_ hVb).mono ?_
  · rw [hbl.block _ (by omega)]; exact hV1
  · rw [hbl.block _ (by omega)]; exact hV0
  · rintro p j hj args W ⟨hi, hl, hk, hp1, hp2⟩ hG
    obtain ⟨has, hwp⟩ := hassign (w.heap.size + 1) p j args W hj hp1 hp2 hi hG
    have hy := run_yield (P := P) (args := args) hl (by rw [hmk]; exact has)
    rw [hmk] at hy
    refine ⟨fn, _, assign, body, hy, roundIn_of_wpIn hfn (wpIn_mono hwp ?_)⟩
    clear hy
    rintro e a' Wa hp
    cases e with
    | normal =>
      obtain ⟨hka, hax⟩ := hp
      have hla := hka.2.1.trans hl
      have hka0 := hka.1.trans hk
      have hpa : p < Wa.heap.size := by
        have h2 : W.heap[p]? = some W.heap[p] := Array.getElem?_eq_getElem hp2
        exact (Array.getElem?_eq_some_iff.1 (hka.2.2.trans h2)).1
      have hsa : w.heap.size + 1 < Wa.heap.size := (Array.getElem?_eq_some_iff.1 hla).1
      refine ⟨_, run_beginRound hla (by rw [hmk]), ?_⟩
      refine wpIn_mono (hbody _ p j a' _ hj hp1 (by simpa using hpa) (hAx _ _ _ _ _ _ (by omega) (Nat.le_refl _) hax)) ?_
      rintro e2 a2 W2 hp2'
      cases e2 with
      | normal =>
        obtain ⟨hk2, hi2⟩ := hp2'
        have hl2 : W2.heap[w.heap.size + 1]? = some (.loop { mk .ready none with state := .busy }) := hk2.2.1.trans (World.putObj_heap_same hsa)
        have hk20 : W2.heap[w.heap.size]? = some (.deferred (some [])) := hk2.1.trans ((World.putObj_heap_other (by omega)).trans hka0)
        have hkp : W2.heap[p]? = W.heap[p]? := hk2.2.2.trans ((World.putObj_heap_other (by omega)).trans hka.2.2)
        have hps2 : p < W2.heap.size := by
          have h2 : W.heap[p]? = some W.heap[p] := Array.getElem?_eq_getElem hp2
          exact (Array.getElem?_eq_some_iff.1 (hkp.trans h2)).1
        refine ⟨_, _, run_endRound none hl2, rfl, ⟨hput _ _ _ _ _ (by omega) (Nat.le_refl _) hi2, ?_, (World.putObj_heap_other (by omega)).trans hk20, hp1, by simpa using hps2⟩, (World.putObj_heap_other (by omega)).trans hkp⟩
        rw [World.putObj_heap_same (Array.getElem?_eq_some_iff.1 hl2).1, hmk]
        rfl
      | ret => exact hp2'.elim
      | exit id => exact hp2'.elim
      | goto t => exact hp2'.elim
      | panic c => exact hp2'.elim
      | outgrown => exact hp2'.elim
    | ret => exact hp.elim
    | exit id => exact hp.elim
    | goto t => exact hp.elim
    | panic c => exact hp.elim
    | outgrown => exact hp.elim
  · rintro e W2 ⟨⟨v, rfl⟩, p, hi, hl, hk, _, _⟩
    exact ⟨none, _, by have := run_endLoop (P := P) hl (by rw [hmk]; simp); rw [hmk] at this; exact this, hdone p _ (hput _ _ _ _ _ (by omega) (Nat.le_refl _) hi) ((World.putObj_heap_other (by omega)).trans hk)⟩
end
end Go.Proofs.YtnfiapjdkjbdhaaGreat
/- A region that draws its order, in the round of a range over a function: what holds of it outside holds within. -/
namespace Go.Proofs.YtnfiapjdkjbdhaaGreat
open Go.RowKit
set_option linter.unusedVariables false
set_option linter.unusedSimpArgs false
set_option maxRecDepth 10000
section
variable {P : Program} {ops : Array Oper} {Q : Exit → Act → World → Prop} {md : Region.Mode}
def noDefer (ops : Array Oper) : Prop := ∀ (i : Nat) (o : Oper), ops[i]? = some o → ∀ c, o.op ≠ .defer c
theorem upon_round {l n : Nat} {o : Oper} {a : Act} {K K' : Act → World → Prop} (hd : ∀ c, o.op ≠ .defer c) {w : World} (hK : ∀ a w, K a w → K' a w) (h : o.wp P a w K Q) : o.wpIn (Fence.wide.inRound l) n P a w K' Q := by
  refine ⟨fun _ _ => trivial, ?_⟩
  show o.uponIn (Fence.wide.inRound l) n P a K' Q ((Oper.semAt (some l) a.eval o).run P w)
  rw [Oper.semAt_some l _ o hd]
  unfold Oper.wp at h
  generalize (execOp a.eval o).run P w = r at h
  cases r with
  | ok x w' =>
    cases x with
    | value v => exact hK _ _ h
    | skip => exact hK _ _ h
    | defer d => exact hK _ _ h
    | enter f args =>
      exact ⟨(fun e => by cases e), CallsIn.inRound l (callsIn_wide.2 (Calls.mono h fun e w2 he => by cases e <;> first | exact hK _ _ he | exact he))⟩
    | row r args => exact ⟨(fun e => by cases e), fun c cs _ => let ⟨v, w2, hr, hs⟩ := h c cs; ⟨v, w2, hK _ _ hr, stepsIn_wide.2 hs⟩⟩
    | _ => exact h.elim
  | halt x w' =>
    cases x with
    | panic v => exact h
    | _ => exact h.elim
theorem any_round {l n : Nat} (hd : noDefer ops) (hq : ¬ LetsOut Q) : ∀ (fuel : Nat) (listed : Array Bool) (a : Act) (w : World), wpAny P md ops Q fuel listed a w → wpAnyIn (Fence.wide.inRound l) n P md ops Q fuel listed a w
  | 0, listed, a, w, h => h
  | fuel + 1, listed, a, w, h => by
    refine ⟨h.1, fun i hi => ?_⟩
    have h2 := h.2 i hi
    unfold wpOp at h2
    unfold wpOpIn
    cases ho : ops[i]? with
    | none =>
      simp only [ho] at h2 ⊢
      exact any_round hd hq fuel _ _ _ h2
    | some o =>
      simp only [ho] at h2 ⊢
      by_cases hw : Region.wanted o (yielded ops a.tmps) = true
      · rw [if_pos hw] at h2 ⊢
        rcases h2 with h2 | ⟨_, h2⟩
        · exact upon_round (hd i o ho) (fun a w hh => any_round hd hq fuel _ a w hh) h2
        · exact absurd h2 hq
      · rw [if_neg hw] at h2 ⊢
        exact ⟨fun _ _ => trivial, any_round hd hq fuel _ _ _ h2⟩
theorem region_round {l n id : Nat} {a : Act} {w : World} (hm : P.follows .mixedOrders = true) (hd : noDefer ops) (hq : ¬ LetsOut Q)
    (h : wpAny P .any ops Q ops.size (Array.replicate ops.size false) a w.drew) : (Code.region id ops true).wpIn (Fence.wide.inRound l) n P Q a w :=
  wpIn_region_any hm (any_round hd hq _ _ _ _ h)
theorem still_any {a : Act} {w : World} {os : List Oper} (k : Nat) (hB : Region.lexTailB .any os.toArray k = true) (h : wpStill P os.toArray w (fun a' => wpList P os.toArray Q (os.drop k) a' w) (os.take k) a) :
    wpAny P .any os.toArray Q os.toArray.size (Array.replicate os.toArray.size false) a w := by
  simp only [Region.lexTailB, Bool.and_eq_true, decide_eq_true_eq] at hB
  obtain ⟨⟨⟨⟨b1, b2⟩, b3⟩, b4⟩, b5⟩ := hB
  have hk : k < os.length := by simpa using b2
  have hsum : k + (os.toArray.size - k) = os.toArray.size := by simp; omega
  have ht : (os.take k).length = k := by simp; omega
  have hdr : (os.drop k).length = os.toArray.size - k := by simp
  have hH := wpAnyL_lex (md := .any) (g := os.toArray.size - k) b1 b3 b4 b2 (os.take k) 0 (Array.replicate os.toArray.size false) a (fun j hj => by rw [ht] at hj; simp [hj]) (by rw [ht]; omega)
    ⟨by simp, (fun j oj _ hl => by rw [getD_replicate_false] at hl; cases hl), fun t _ hlt => getD_in (by simpa using hlt) (getD_replicate_false _ _)⟩ (by rw [ht]; exact b5) h
  have hE := wpAny_of_head (Q' := Q) (g := os.toArray.size - k) (fun listed a' hL => by
    have hs := wpAny_of_seq (md := .any) (Q' := Q) (os.drop k) k listed a' w (fun j => by simp [List.getElem?_drop]) (by rw [hdr]; exact hL.1) hL.2
    rwa [hdr] at hs) _ _ _ hH
  rwa [ht, hsum] at hE
theorem still_round {l n id : Nat} {a : Act} {w : World} {os : List Oper} (k : Nat) (hm : P.follows .mixedOrders = true) (hd : noDefer os.toArray) (hq : ¬ LetsOut Q) (hB : Region.lexTailB .any os.toArray k = true)
    (h : wpStill P os.toArray w.drew (fun a' => wpList P os.toArray Q (os.drop k) a' w.drew) (os.take k) a) : (Code.region id os.toArray true).wpIn (Fence.wide.inRound l) n P Q a w :=
  region_round hm hd hq (still_any k hB h)
theorem noDefer_of (os : List Oper) (h : os.all (fun o => match o.op with | .defer _ => false | _ => true) = true) : noDefer os.toArray := by
  intro i o hi c e
  have hm : o ∈ os := by
    have : os[i]? = some o := by simpa using hi
    exact List.mem_of_getElem? this
  have := List.all_eq_true.1 h o hm
  rw [e] at this
  cases this
end
end Go.Proofs.YtnfiapjdkjbdhaaGreat
/- CRC-32, bit by bit: plain mathematics, no program. -/
namespace Go.Proofs.YtnfiapjdkjbdhaaGreat
def poly : BitVec 32 := 0xedb88320#32
def st1 (c : BitVec 32) : BitVec 32 := if c.getLsbD 0 then (c >>> 1) ^^^ poly else c >>> 1
def stn : Nat → BitVec 32 → BitVec 32
  | 0, c => c
  | n + 1, c => stn n (st1 c)
theorem xor_swap (a b p q : BitVec 32) : (a ^^^ b) ^^^ (p ^^^ q) = (a ^^^ p) ^^^ (b ^^^ q) := by
  rw [BitVec.xor_assoc, BitVec.xor_assoc]; congr 1
  rw [← BitVec.xor_assoc, ← BitVec.xor_assoc, BitVec.xor_comm b p]
theorem st1_xor (a b : BitVec 32) : st1 (a ^^^ b) = st1 a ^^^ st1 b := by
  unfold st1
  rw [BitVec.getLsbD_xor, BitVec.ushiftRight_xor_distrib]
  cases a.getLsbD 0 <;> cases b.getLsbD 0 <;> simp
  · exact BitVec.xor_assoc _ _ _
  · rw [BitVec.xor_assoc, BitVec.xor_assoc, BitVec.xor_comm poly]
  · rw [xor_swap]; simp
theorem stn_xor (n : Nat) (a b : BitVec 32) : stn n (a ^^^ b) = stn n a ^^^ stn n b := by
  induction n generalizing a b with
  | zero => rfl
  | succ n ih => simp only [stn, st1_xor, ih]
theorem stn_shift (k : Nat) (x : BitVec 32) (h : ∀ i, i < k → x.getLsbD i = false) : stn k x = x >>> k := by
  induction k generalizing x with
  | zero => simp [stn]
  | succ k ih =>
    have h0 : st1 x = x >>> 1 := by unfold st1; rw [h 0 (by omega)]; rfl
    rw [stn, h0, ih]
    · rw [← BitVec.shiftRight_add, Nat.add_comm]
    · intro i hi
      rw [BitVec.getLsbD_ushiftRight]
      exact h _ (by omega)
def low (b : UInt8) : BitVec 32 := BitVec.ofNat 32 b.toNat
theorem low_getLsbD (b : UInt8) (i : Nat) : (low b).getLsbD i = b.toNat.testBit i := by
  unfold low
  rw [BitVec.getLsbD_ofNat]
  by_cases h : i < 32
  · simp [h]
  · have := b.toNat_lt
    rw [Nat.testBit_lt_two_pow]
    · simp
    · exact Nat.lt_of_lt_of_le this (Nat.pow_le_pow_right (n := 2) (by omega) (show 8 ≤ i by omega))
theorem low_xor (a b : UInt8) : low (a ^^^ b) = low a ^^^ low b := by
  apply BitVec.eq_of_getLsbD_eq
  intro i hi
  rw [BitVec.getLsbD_xor, low_getLsbD, low_getLsbD, low_getLsbD]
  simp
def crcL (c : BitVec 32) : List UInt8 → BitVec 32
  | [] => c
  | b :: r => crcL (stn 8 (c ^^^ low b)) r
theorem crcL_append (c : BitVec 32) (l m : List UInt8) : crcL c (l ++ m) = crcL (crcL c l) m := by
  induction l generalizing c with
  | nil => rfl
  | cons b r ih => exact ih _
theorem crcL_snoc (c : BitVec 32) (l : List UInt8) (b : UInt8) : crcL c (l ++ [b]) = stn 8 (crcL c l ^^^ low b) := crcL_append c l [b]
theorem stn8_table (c : BitVec 32) (b : UInt8) : stn 8 (c ^^^ low b) = (c >>> 8) ^^^ stn 8 (low (UInt8.ofNat c.toNat ^^^ b)) := by
  have h1 : c ^^^ low b = (c ^^^ low (UInt8.ofNat c.toNat)) ^^^ low (UInt8.ofNat c.toNat ^^^ b) := by
    rw [low_xor, BitVec.xor_assoc]
    congr 1
    rw [← BitVec.xor_assoc]
    simp
  have hlow : ∀ i, (low (UInt8.ofNat c.toNat)).getLsbD i = (decide (i < 8) && c.getLsbD i) := by
    intro i
    rw [low_getLsbD, UInt8.toNat_ofNat']
    rw [Nat.testBit_mod_two_pow]
    rfl
  rw [h1, stn_xor, stn_shift]
  · congr 1
    apply BitVec.eq_of_getLsbD_eq
    intro i hi
    have h8 : ¬ 8 + i < 8 := by omega
    simp [hlow, h8]
  · intro i hi
    simp [hlow, hi]
def part (p i : Nat) : BitVec 32 := BitVec.ofNat 32 (p % 2 ^ i)
def four (v : BitVec 32) : List UInt8 := [UInt8.ofNat (v.toNat % 256), UInt8.ofNat (v.toNat / 256 % 256), UInt8.ofNat (v.toNat / 65536 % 256), UInt8.ofNat (v.toNat / 16777216 % 256)]
def sealL (l : List UInt8) : List UInt8 := four (~~~ (crcL 0xffffffff#32 l))
theorem sealL_length (l : List UInt8) : (sealL l).length = 4 := rfl
theorem ones_all : 0xffffffff#32 = BitVec.allOnes 32 := by decide
end Go.Proofs.YtnfiapjdkjbdhaaGreat
namespace Go.Proofs.YtnfiapjdkjbdhaaGreat
open Go.RowKit
set_option linter.unusedVariables false
set_option linter.unusedSimpArgs false
set_option maxRecDepth 10000
abbrev reg (c : BitVec 32) : Value := .int .u32 (c.toNat : Int)
@[go_sem] theorem reg_wrap (c : BitVec 32) : IntKind.u32.wrap (c.toNat : Int) = (c.toNat : Int) := IntWalk.u32_in _ ⟨by omega, by have := c.isLt; omega⟩
theorem reg_xor (a b : BitVec 32) : bits .xor .u32 (a.toNat : Int) (b.toNat : Int) = ((a ^^^ b).toNat : Int) := by
  rw [u32_xor_nat _ _ a.isLt b.isLt, BitVec.toNat_xor]
theorem reg_xor_poly (a : BitVec 32) : bits .xor .u32 (a.toNat : Int) 3988292384 = ((a ^^^ poly).toNat : Int) := reg_xor a poly
theorem reg_half (a : BitVec 32) : (a.toNat : Int) / (2 : Int) = ((a >>> 1).toNat : Int) := by
  rw [BitVec.toNat_ushiftRight, Nat.shiftRight_eq_div_pow]; simp
theorem st1_odd (c : BitVec 32) (h : c.toNat % 2 = 1) : st1 c = (c >>> 1) ^^^ poly := by
  unfold st1; rw [if_pos]; rw [BitVec.getLsbD, Nat.testBit_zero]; simp [h]
theorem st1_even (c : BitVec 32) (h : c.toNat % 2 = 0) : st1 c = c >>> 1 := by
  unfold st1; rw [if_neg]; rw [BitVec.getLsbD, Nat.testBit_zero]; simp [h]
theorem low_bit (c : BitVec 32) : bits .and .u32 (c.toNat : Int) 1 = ((c.toNat % 2 : Nat) : Int) := by
  have h := u32_and_nat c.toNat 1 c.isLt (by omega)
  rw [Nat.and_one_is_mod] at h
  exact h
theorem low_bit_odd (c : BitVec 32) (h : c.toNat % 2 = 1) : (bits .and .u32 (c.toNat : Int) 1 == 1) = true := by rw [low_bit, h]; rfl
theorem low_bit_even (c : BitVec 32) (h : c.toNat % 2 = 0) : (bits .and .u32 (c.toNat : Int) 1 == 1) = false := by rw [low_bit, h]; rfl
set_option maxHeartbeats 400000 in
theorem step8_any (c : BitVec 32) (w : World) :
    Calls Tryz.prog 256 #[reg c] w fun e w' => e = .returned (reg (stn 8 c)) ∧ w = w' := by
  go_enter Tryz.func256, Tryz.ntmps256
  go_wp2
  go_loop [0, 3, 4] (fun x o i => ∃ (k : Nat) (d : BitVec 32) (z : Value), k ≤ 8 ∧ i = .int .i64 k ∧ x = reg d ∧ stn (8 - k) d = stn 8 c ∧ o = z) (fun _ _ i => 8 - (Go.RowKit.intOf i).toNat)
  case atStart => exact ⟨0, c, _, by omega, rfl, rfl, rfl, rfl⟩
  case round =>
    obtain ⟨k, d, z, hk, rfl, rfl, hd, rfl⟩ := hrel
    have Hd := Lib.hid hd
    clear hd
    by_cases hlt : k < 8
    · have hstep : stn (8 - k) d = stn (8 - (k + 1)) (st1 d) := by
        rw [show 8 - k = (8 - (k + 1)) + 1 by omega]; rfl
      have Hstep := Lib.hid hstep
      clear hstep
      by_cases hp : d.toNat % 2 = 1
      · have hs1 := st1_odd d hp
        have hb := low_bit_odd d hp
        rw [hs1] at Hstep
        clear hs1
        go_wp2_with fail
        go_round
        case rel => exact ⟨k + 1, _, _, by omega, by go_num, by rw [reg_half, reg_xor_poly], by rw [← Hstep.out, Hd.out], rfl⟩
        case measure => simp [Go.RowKit.intOf]; omega
      · have hs1 := st1_even d (by omega)
        have hb := low_bit_even d (by omega)
        rw [hs1] at Hstep
        clear hs1
        go_wp2_with fail
        go_round
        case rel => exact ⟨k + 1, _, _, by omega, by go_num, by rw [reg_half], by rw [← Hstep.out, Hd.out], rfl⟩
        case measure => simp [Go.RowKit.intOf]; omega
    · go_wp2_with fail
      go_ret
      have : k = 8 := by omega
      subst this
      exact ⟨by rw [← Hd.out]; rfl, rfl⟩
end Go.Proofs.YtnfiapjdkjbdhaaGreat
/- Layer 2 (crc): the table of all bytes. -/
namespace Go.Proofs.YtnfiapjdkjbdhaaGreat
open Go.RowKit
set_option linter.unusedVariables false
set_option linter.unusedSimpArgs false
set_option maxRecDepth 10000
def ent (b : Nat) : BitVec 32 := stn 8 (BitVec.ofNat 32 b)
def tabC (k : Nat) : List Value := (List.range 256).map fun b => if b < k then reg (ent b) else .int .u32 0
theorem tabC_length (k : Nat) : (tabC k).length = 256 := by simp [tabC]
theorem tabC_get (k b : Nat) (hb : b < 256) : (tabC k)[b]? = some (if b < k then reg (ent b) else .int .u32 0) := by
  simp [tabC, hb]
theorem tabC_set (k : Nat) (hk : k < 256) : (tabC k).set k (reg (ent k)) = tabC (k + 1) := by
  apply List.ext_getElem?
  intro i
  by_cases hi : i < 256
  · by_cases h : k = i
    · subst h
      rw [List.getElem?_set_self (by rw [tabC_length]; exact hk), tabC_get _ _ hk]
      simp
    · rw [List.getElem?_set_ne h, tabC_get _ _ hi, tabC_get _ _ hi]
      by_cases h2 : i < k
      · simp [h2, show i < k + 1 by omega]
      · simp [h2, show ¬ i < k + 1 by omega]
  · rw [List.getElem?_eq_none (by rw [List.length_set, tabC_length]; omega), List.getElem?_eq_none (by rw [tabC_length]; omega)]
theorem tabC_one (k : Nat) : (tabC k).toArray.all (·.oneCell') = true := by
  rw [Array.all_eq_true_iff_forall_mem]
  intro v hv
  simp only [List.mem_toArray, tabC, List.mem_map] at hv
  obtain ⟨b, _, rfl⟩ := hv
  split <;> rfl
theorem tabInfo : (Tryz.prog.info? 348).map (fun i => (i.zero, i.size)) = some (some (.agg (tabC 0).toArray), 256) := by kernel_rfl
def lowOf (k : Nat) : Nat := k &&& (512 - k)
theorem lowOf_all : ∀ k : Fin 256, bits .and .i64 (k.val : Int) (-(k.val : Int)) = (lowOf k.val : Int) ∧ lowOf k.val ≤ k.val ∧ (lowOf k.val < k.val → 0 < lowOf k.val ∧ ent (lowOf k.val) ^^^ ent (k.val - lowOf k.val) = ent k.val) := by decide +kernel
theorem step8_nat (k : Nat) (n : Int) (hn : n = (k : Int)) (hk : k < 256) (w : World) :
    Calls Tryz.prog 256 #[.int .u32 n] w fun e w' => e = .returned (reg (ent k)) ∧ w = w' := by
  have h := step8_any (BitVec.ofNat 32 k) w
  have h2 : ((BitVec.ofNat 32 k).toNat : Int) = n := by rw [BitVec.toNat_ofNat, Nat.mod_eq_of_lt (by omega), hn]
  unfold reg at h
  rw [h2] at h
  exact h
set_option maxRecDepth 100000 in
set_option maxHeartbeats 1000000 in
theorem table_any (w : World) :
    Calls Tryz.prog 254 #[] w fun e w' => e = .returned (.agg (tabC 256).toArray) ∧ Below w.heap.size w w' := by
  obtain ⟨hz, hsz⟩ := zero_of_info tabInfo
  have Hsz := Lib.hid hsz
  clear hsz
  go_enter Tryz.func254, Tryz.ntmps254
  go_wp2_with fail
  go_loopw [4] (fun i wr => ∃ k : Nat, k ≤ 256 ∧ i = .int .i64 k ∧ wr.heap[w.heap.size + 1]? = some (.cells (tabC k).toArray 348 (0, 0)) ∧ wr.heap[w.heap.size]? = some (.cells (tabC 0).toArray 348 (0, 0)) ∧ Below w.heap.size w wr) (fun i _ => 256 - (Go.RowKit.intOf i).toNat)
  case atStart =>
    refine ⟨0, by omega, rfl, heap_new _ _ _ (by simp), ?_, ((Below.refl _ _).alloc (Nat.le_refl _) _).alloc (by simp) _⟩
    rw [heap_alloc_old _ _ (by simp)]
    exact heap_new _ _ _ rfl
  case round =>
    obtain ⟨k, hk, rfl, hg, h0, hb⟩ := hrel
    have H0 := Lib.hid h0
    clear h0
    by_cases hlt : k < 256
    · obtain ⟨hand, hle, hent⟩ := lowOf_all ⟨k, hlt⟩
      simp only at hand hle hent
      have Hent := Lib.hid hent
      clear hent
      have hfr := frozen_of_row wr (w.heap.size + 1) k _ 348 hg
      have hcell := cell_of_row wr (w.heap.size + 1) k _ 348 (0, 0) hg
      rw [List.getElem?_toArray, tabC_get _ _ hlt, if_neg (by omega)] at hcell
      by_cases hq : lowOf k = k
      · rw [hq] at hand hle
        have Hg := Lib.hid hg
        clear hg hq
        go_wp2_with fail
        refine (step8_nat k _ (by first | rfl | simp) hlt _).mono ?_
        rintro e w1 ⟨rfl, rfl⟩
        go_wp2_with fail
        go_roundw
        case rel =>
          refine ⟨k + 1, by omega, by go_num, ?_, ?_, hb.setCell (by simp) _⟩
          · rw [heap_setCell_same _ _ _ _ _ _ Hg.out, List.setIfInBounds_toArray, tabC_set k hlt]
          · rw [heap_setCell_other _ _ _ _ (by simp)]; exact H0.out
        case measure => simp [Go.RowKit.intOf]; omega
      · have hl1 : lowOf k < k := by omega
        have hcl := cell_of_row wr (w.heap.size + 1) (lowOf k) _ 348 (0, 0) hg
        rw [List.getElem?_toArray, tabC_get _ _ (by omega), if_pos hl1] at hcl
        have hcr := cell_of_row wr (w.heap.size + 1) (k - lowOf k) _ 348 (0, 0) hg
        rw [List.getElem?_toArray, tabC_get _ _ (by omega), if_pos (by have := (Hent.out hl1).1; omega)] at hcr
        have Hg := Lib.hid hg
        clear hg
        generalize lowOf k = lo at hand hle Hent hq hl1 hcl hcr
        obtain ⟨m, hm⟩ : ∃ m, m = k - lo := ⟨_, rfl⟩
        have hsub : (k : Int) - (lo : Int) = (m : Int) := by omega
        have hmk : m < k := by have := (Hent.out hl1).1; omega
        rw [← hm] at hcr Hent
        have Hm := Lib.hid hm
        clear hm
        go_wp2_with fail
        go_region
        go_wp2
        go_roundw
        case rel =>
          have hx : Value.int .u32 (bits .xor .u32 ((ent lo).toNat : Int) ((ent m).toNat : Int)) = reg (ent k) := by
            rw [reg_xor, (Hent.out hl1).2]
          refine ⟨k + 1, by omega, by go_num, ?_, ?_, (hb.setCell (by simp) _).drew⟩
          · rw [hx]
            show ((wr.setCell _ _).heap)[w.heap.size + 1]? = _
            rw [heap_setCell_same _ _ _ _ _ _ Hg.out, List.setIfInBounds_toArray, tabC_set k hlt]
          · show ((wr.setCell _ _).heap)[w.heap.size]? = _
            rw [heap_setCell_other _ _ _ _ (by simp)]; exact H0.out
        case measure => simp [Go.RowKit.intOf]; omega
    · have : k = 256 := by omega
      subst this
      have hl := run_loadVar_row (P := Tryz.prog) wr (w.heap.size + 1) 348 348 _ (0, 0) _ hg Tryz.underlying348 rfl (by rw [Hsz.out]; simp [tabC_length])
      have hst := run_storeCells_row (P := Tryz.prog) wr w.heap.size 348 _ (tabC 256) H0.out (by simp [tabC_length]) (tabC_one 256)
      have hlen := tabC_length 256
      clear hg
      generalize hT : tabC 256 = T at hl hst hlen
      have HT := Lib.hid hT
      clear hT
      go_wp2_with fail
      refine wp_load_row _ _ rfl _ rfl _ hl ?_
      go_wp2_with fail
      have hfin := setRow_heap wr w.heap.size _ T.toArray _ (0, 0) H0.out
      refine bodyPost_ret (v := .agg T.toArray) ?_ rfl ⟨by rw [HT.out], below_setRow hb _ (Nat.le_refl _) _⟩
      exact results_cell_row rfl _ _ w.heap.size 348 _ (0, 0) _ rfl hfin Tryz.underlying348 rfl (by rw [Hsz.out]; simp [hlen])
end Go.Proofs.YtnfiapjdkjbdhaaGreat
/- Layer 2 (crc): the bytes of all parts, one by one. -/
namespace Go.Proofs.YtnfiapjdkjbdhaaGreat
open Go.RowKit Go.Shelf
set_option linter.unusedVariables false
set_option linter.unusedSimpArgs false
set_option maxRecDepth 10000
attribute [local go_sem] Oper.semAt_some
set_option maxRecDepth 100000 in
set_option maxHeartbeats 2000000 in
theorem bytes_in (F : Fence) (n : Nat) (h7 : F.fn 257) (hro : F.round = none) (hn : 1 ≤ n) (l Bs n₀ : Nat) (v : Value) (ps : List (List UInt8)) (hps : ps.length ≤ 1048576) (hlen : ∀ p ∈ ps, p.length ≤ 1048576) (J Jx : List UInt8 → World → Prop)
    (hY : ∀ pre (x : UInt8) W, J pre W → pre.length < ps.flatten.length → YieldAt F (n - 1) Tryz.prog l #[.int .u8 (x.toNat : Int)] W fun e W' =>
      (e = .returned (.bool true) ∧ J (pre ++ [x]) W' ∧ Below n₀ W W') ∨ (e = .returned (.bool false) ∧ Jx (pre ++ [x]) W'))
    (W : World) (hBs : W.cell? ⟨Bs, 0, none⟩ = some v) (hP : Parts n₀ W v ps) (h0 : J [] W) :
    CallsIn F n Tryz.prog 257 #[.func (.yield l) #[] #[], .pointer (some ⟨Bs, 0, none⟩)] W fun e W' => (∃ v, e = .returned v) ∧
      ((∃ ys, ys = ps.flatten ∧ J ys W') ∨ (∃ pre, pre <+: ps.flatten ∧ Jx pre W')) := by
  have HP := Lib.hid hP
  obtain ⟨A, c, rfl, hc⟩ := hP
  have Hc := Lib.hid hc
  clear hc
  refine callsIn_of_wp Tryz.func257 rfl h7 ?_ hro
  simp only [Tryz.ntmps257, List.size_toArray, List.length_cons, List.length_nil, Nat.reduceAdd, Nat.reduceSub, Array.replicate_succ, Array.replicate_zero, List.push_toArray, List.append_toArray, List.nil_append, List.cons_append]
  gi_wp2
  gi_loopw [8] (fun i wr => ∃ k : Nat, k ≤ ps.length ∧ i = .int .i64 k ∧ J (ps.take k).flatten wr ∧ Below n₀ W wr)
    (fun i _ => ps.length - (Go.RowKit.intOf i).toNat)
  case atStart => exact ⟨0, Nat.zero_le _, rfl, h0, Below.refl _ _⟩
  case round =>
    obtain ⟨k, hk, rfl, hJs, hnx⟩ := hrel
    by_cases hlt : k < ps.length
    · obtain ⟨g, rfl, hg, hcell⟩ := Hc.out k ps[k] (List.getElem?_eq_getElem hlt)
      have hcx : wr.cell? ⟨g, k, none⟩ = some (str ps[k]) := (hnx.cell (p := ⟨g, k, none⟩) hg).trans hcell
      have hpl := hlen ps[k] (List.getElem_mem hlt)
      have hpre := flat_take_prefix ps k hlt
      have hsucc := flat_take_succ ps k hlt
      have htot : ∀ j, j < ps[k].length → ((ps.take k).flatten ++ ps[k].take j).length < ps.flatten.length := by
        intro j hj
        have := flat_take_le ps (k + 1)
        rw [hsucc] at this
        simp only [List.length_append, List.length_take] at this ⊢
        omega
      have Hpre := Lib.hid hpre
      have Hsucc := Lib.hid hsucc
      have Htot := Lib.hid htot
      clear hpre hsucc htot hcell
      generalize ps[k] = s at hcx hpl Hpre Hsucc Htot
      gi_wp2
      gi_loopw [14] (fun i wq => ∃ j : Nat, j ≤ s.length ∧ i = .int .i64 j ∧ J ((ps.take k).flatten ++ s.take j) wq ∧ Below n₀ W wq)
        (fun i _ => s.length - (Go.RowKit.intOf i).toNat)
      case atStart => exact ⟨0, Nat.zero_le _, rfl, by simpa using hJs, hnx⟩
      case round =>
        obtain ⟨j, hj, rfl, hJq, hnq⟩ := hrel
        by_cases hlj : j < s.length
        · obtain ⟨fn, tmps, assign, body, hy, hR⟩ := hY _ (s[j]) wr hJq (Htot.out j hlj)
          have hts : s.take (j + 1) = s.take j ++ [s[j]] := List.take_succ_eq_append_getElem hlj
          have Hts := Lib.hid hts
          clear hts
          gi_wp2
          refine hR.mono ?_
          rintro e W3 (⟨rfl, hJ3, hk3⟩ | ⟨rfl, hJx3⟩)
          · gi_wp2
            go_roundw
            case rel => exact ⟨j + 1, by omega, by simp, by rw [Hts.out, ← List.append_assoc]; exact hJ3, hnq.trans hk3⟩
            case measure => simp [Go.RowKit.intOf]; omega
          · gi_wp2
            refine bodyPost_ret (results_none rfl _ _ _) rfl ?_
            exact ⟨⟨_, rfl⟩, .inr ⟨_, by have := Hpre.out (j + 1); rw [Hts.out, ← List.append_assoc] at this; exact this, hJx3⟩⟩
        · obtain rfl : j = s.length := by omega
          gi_wp2
          go_roundw
          case rel => exact ⟨k + 1, by omega, by simp, by rw [Hsucc.out]; rwa [List.take_length] at hJq, hnq⟩
          case measure => simp [Go.RowKit.intOf]; omega
    · obtain rfl : k = ps.length := by omega
      gi_wp2
      go_end0
      exact ⟨⟨_, rfl⟩, .inl ⟨_, rfl, by rwa [List.take_length] at hJs⟩⟩
end Go.Proofs.YtnfiapjdkjbdhaaGreat
/- Layer 2 (crc): registers and sums. -/
namespace Go.Proofs.YtnfiapjdkjbdhaaGreat
open Go.RowKit Go.Shelf
set_option linter.unusedVariables false
set_option linter.unusedSimpArgs false
set_option maxRecDepth 10000
attribute [local go_sem] Oper.semAt_some
set_option maxHeartbeats 400000 in
theorem bytesOf_any (A : Option Addr) (m c : Nat) (w : World) :
    Calls Tryz.prog 255 #[.slice A m c] w fun e w' => e = .returned (.func (.func 257) #[] #[.pointer (some ⟨w.heap.size, 0, none⟩)]) ∧ w' = w.alloc (.cells #[.slice A m c] 230) := by
  go_enter Tryz.func255, Tryz.ntmps255
  go_wp2
  go_ret
  exact ⟨rfl, rfl⟩
theorem reg_byte (a : BitVec 32) : (a.toNat : Int) / (256 : Int) = ((a >>> 8).toNat : Int) := by
  rw [BitVec.toNat_ushiftRight, Nat.shiftRight_eq_div_pow]; simp
theorem wrap_u8 (n : Nat) : IntKind.u8.wrap (n : Int) = ((UInt8.ofNat n).toNat : Int) := by
  rw [UInt8.toNat_ofNat']
  simp [IntKind.wrap, IntKind.bits, IntKind.signed]
set_option maxRecDepth 100000 in
set_option maxHeartbeats 2000000 in
theorem process_any (c : BitVec 32) (v : Value) (ps : List (List UInt8)) (w : World) (hps : ps.length ≤ 1048576) (hlen : ∀ p ∈ ps, p.length ≤ 1048576) (hP : Parts w.heap.size w v ps) :
    Calls Tryz.prog 252 #[reg c, v] w fun e w' => e = .returned (reg (crcL c ps.flatten)) ∧ Below w.heap.size w w' := by
  obtain ⟨hz, hsz⟩ := zero_of_info tabInfo
  have hlenT := tabC_length 256
  have hst := fun W => run_storeCells_new (P := Tryz.prog) W 348 (tabC 0).toArray (tabC 256).toArray (by rw [hsz]; simp [tabC_length]) (by simp [tabC_length]) (tabC_one 256)
  simp only at hst
  clear hsz
  have HP := Lib.hid hP
  obtain ⟨A, m, rfl, hc⟩ := hP
  clear hc
  refine (callsIn_wide (n := 3)).1 ?_
  refine callsIn_of_wp_marks Tryz.func252 rfl trivial ?_ rfl
  simp only [Tryz.ntmps252, List.size_toArray, List.length_cons, List.length_nil, Nat.reduceAdd, Nat.reduceSub, Array.replicate_succ, Array.replicate_zero, List.push_toArray, List.append_toArray, List.nil_append, List.cons_append]
  gi_wp2_with fail
  refine ⟨trivial, (callsIn_wide.2 (table_any _)).mono ?_⟩
  rintro e w1 ⟨rfl, hb1⟩
  gi_wp2_with fail
  refine ⟨trivial, (callsIn_wide.2 (bytesOf_any _ _ _ _)).mono ?_⟩
  rintro e w2 ⟨rfl, rfl⟩
  gi_wp2_with fail
  obtain ⟨W0, hW0⟩ : ∃ W0, (w1.alloc (.cells (tabC 256).toArray 348)).alloc (.cells #[Value.slice A ps.length m] 230) = W0 := ⟨_, rfl⟩
  have hsz1 : w.heap.size + 1 ≤ w1.heap.size := by have := hb1.size; simpa using this
  have hsz0 : W0.heap.size = w1.heap.size + 1 + 1 := by rw [← hW0]; simp
  have hbx : Below (w.heap.size + 1) (w.alloc (.cells #[reg c] 34)) W0 := by
    rw [← hW0]
    exact ((by simpa using hb1 : Below (w.heap.size + 1) _ w1).alloc hsz1 _).alloc (by simp; omega) _
  have hB0 : Below w.heap.size w W0 := ((Below.refl _ _).alloc (Nat.le_refl _) _).trans (hbx.mono (by omega))
  have hcb : W0.cell? ⟨w.heap.size, 0, none⟩ = some (reg c) := (hbx.cell (p := ⟨w.heap.size, 0, none⟩) (by simp)).trans (cell_new_l w _ _)
  have hcf : W0.frozen? ⟨w.heap.size, 0, none⟩ = false := (hbx.frozen (p := ⟨w.heap.size, 0, none⟩) (by simp)).trans (frozen_new_l w _ _)
  have hct : ∀ b, b < 256 → W0.cell? ⟨w1.heap.size, b, none⟩ = some (reg (ent b)) := by
    intro b hb
    rw [← hW0, World.cell?_alloc_lt _ _ _ (by simp), cell_of_row _ _ b _ 348 (0, 0) (heap_alloc_new w1 _), List.getElem?_toArray, tabC_get _ _ hb, if_pos hb]
  have hcs : W0.cell? ⟨w1.heap.size + 1, 0, none⟩ = some (Value.slice A ps.length m) := by
    have := cell_new_l (w1.alloc (.cells (tabC 256).toArray 348)) (Value.slice A ps.length m) 230
    rw [hW0] at this
    simpa using this
  rw [hW0]
  clear hW0 hst hz hlenT hb1
  have Hct := Lib.hid hct
  have Hcs := Lib.hid hcs
  have Hsz0 := Lib.hid hsz0
  clear hct hcs hsz0
  refine wpIn_rangeFunc_ownF rfl (by decide) (gf := 257) (lb := #[.pointer (some ⟨w1.heap.size + 1, 0, none⟩)]) rfl trivial (enters_of Tryz.func257 (by kernel_rfl) rfl)
    (encs := fun (x : UInt8) => #[.int .u8 (x.toNat : Int)]) (S := fun xs => xs = ps.flatten) (Sp := fun pre => pre <+: ps.flatten) (N := ps.flatten.length) (w0 := W0) (Kp := Below w.heap.size)
    (fun l J Jx W hW hJ hJx hY h0 => bytes_in Fence.wide 2 trivial rfl (by decide) l (w1.heap.size + 1) w.heap.size _ ps hps hlen J Jx hY W ((hW.cell (p := ⟨w1.heap.size + 1, 0, none⟩) (by rw [Hsz0.out]; simp)).trans Hcs.out) (parts_below HP.out (hB0.trans (hW.mono (by rw [Hsz0.out]; omega)))) h0)
    belowK_t (belowK_b (by rw [Hsz0.out]; omega)) (Below.refl _ _) (fun _ => rfl)
    (fun pre W => (W.cell? ⟨w.heap.size, 0, none⟩ = some (reg (crcL c pre)) ∧ W.frozen? ⟨w.heap.size, 0, none⟩ = false ∧ ∀ b, b < 256 → W.cell? ⟨w1.heap.size, b, none⟩ = some (reg (ent b))) ∧ Below w.heap.size w W)
    (fun _ _ _ => False)
    (OwnFrom.and (Own.from (fun s A B row hs hg hr => ⟨cell_kept hs.1 hg hr, (frozen_kept hs.1 hg hr).trans hs.2.1, fun b hb => cell_kept (hs.2.2 b hb) hg hr⟩) _) (ownFrom_below (Nat.le_refl _) (by rw [Hsz0.out]; omega)))
    (fun _ _ _ _ _ hs _ _ => hs)
    ⟨⟨hcb, hcf, Hct.out⟩, hB0⟩
    (fun x => { tmps := #[reg c, Value.slice A ps.length m, .pointer (some ⟨w.heap.size, 0, none⟩), undef, .int .u32 0, .pointer (some ⟨w1.heap.size, 0, none⟩), .int .u8 (x.toNat : Int), .agg (tabC 256).toArray, Value.slice A ps.length m, .func (.func 257) #[] #[.pointer (some ⟨w1.heap.size + 1, 0, none⟩)], .int .u8 (x.toNat : Int), undef, undef, undef, undef, undef, undef, undef, undef, undef, undef], defers := [] }) ?assign ?body ?done ?stop
  case assign =>
    intro l x W K hK
    gi_wp2
    exact hK
  case body =>
    rintro l pre x W ⟨⟨hc, hf, ht⟩, hB⟩ _
    have hsn := crcL_snoc c pre x
    rw [stn8_table] at hsn
    have Hsn := Lib.hid hsn
    clear hsn
    generalize crcL c pre = d at hc Hsn
    have hw : IntKind.u8.wrap (d.toNat : Int) = ((UInt8.ofNat d.toNat).toNat : Int) := wrap_u8 _
    generalize UInt8.ofNat d.toNat = y at hw Hsn
    have hx8 : bits .xor .u8 (y.toNat : Int) (x.toNat : Int) = ((y ^^^ x).toNat : Int) := by
      rw [u8_xor_nat _ _ y.toNat_lt x.toNat_lt, UInt8.toNat_xor]
    generalize y ^^^ x = q at hx8 Hsn
    have hq := q.toNat_lt
    have hcq := ht q.toNat hq
    have Ht := Lib.hid ht
    clear ht hcb hcf
    gi_wp2
    gi_region
    all_goals gi_wp2
    all_goals
      have hx : Value.int .u32 (bits .xor .u32 ((d.toNat : Int) / 256) ((ent q.toNat).toNat : Int)) = reg (crcL c (pre ++ [x])) := by
        rw [reg_byte, reg_xor, Hsn.out]; rfl
      rw [hx]
      refine ⟨(KeepsOthers.setCell W ⟨w.heap.size, 0, none⟩ _).trans (KeepsOthers.drew _), ((Below.refl w.heap.size W).setCell (p := ⟨w.heap.size, 0, none⟩) (Nat.le_refl _) _).drew, ⟨?_, ?_, ?_⟩, (hB.setCell (p := ⟨w.heap.size, 0, none⟩) (Nat.le_refl _) _).drew⟩
      · exact World.cell?_setCell_same' W ⟨w.heap.size, 0, none⟩ _ (by rw [hc]; rfl)
      · show (W.setCell ⟨w.heap.size, 0, none⟩ _).frozen? _ = false
        rw [World.frozen?_setCell]; exact hf
      · intro b hb
        show (W.setCell ⟨w.heap.size, 0, none⟩ _).cell? _ = _
        rw [World.cell?_setCell_other _ _ _ _ (by intro e; injection e with e; omega)]
        exact Ht.out b hb
  case done =>
    rintro D ys W hD rfl ⟨⟨hc, _⟩, hB⟩ hK
    gi_wp2
    refine ⟨by simp, .inl ⟨_, _, rfl, run_takeDeferred hK, ?_⟩⟩
    exact ⟨_, results_tmp rfl _ _ _, rfl, hB.trans (belowK_b (w := w) (Nat.le_refl _) W D _ _ (by rw [Hsz0.out] at hD; omega) hK rfl rfl)⟩
  case stop =>
    rintro D c pre W _ _ h _
    exact h.elim
end Go.Proofs.YtnfiapjdkjbdhaaGreat
/- A range over a function whose rounds are told what they are handed; the iterator keeps nothing of its own. -/
namespace Go.Proofs.YtnfiapjdkjbdhaaGreat
open Go.RowKit
set_option linter.unusedVariables false
set_option linter.unusedSimpArgs false
set_option maxRecDepth 10000
def KeepF (B : Nat) (W W' : World) : Prop := W'.heap[B]? = W.heap[B]? ∧ W'.heap[B + 1]? = W.heap[B + 1]?
theorem KeepF.refl (B : Nat) (W : World) : KeepF B W W := ⟨rfl, rfl⟩
theorem KeepF.trans {B : Nat} {X Y Z : World} (h : KeepF B X Y) (k : KeepF B Y Z) : KeepF B X Z := ⟨k.1.trans h.1, k.2.trans h.2⟩
theorem KeepF.below {B : Nat} {W W' : World} (h : Below W.heap.size W W') (hB : B + 2 ≤ W.heap.size) : KeepF B W W' := ⟨h.block _ (by omega), h.block _ (by omega)⟩
section
variable {P : Program} {n : Nat}
end
end Go.Proofs.YtnfiapjdkjbdhaaGreat
namespace Go.Proofs.YtnfiapjdkjbdhaaGreat
open Go.RowKit
set_option linter.unusedVariables false
set_option linter.unusedSimpArgs false
set_option maxRecDepth 10000
theorem info_uint16 : ∃ i, Tryz.prog.info? 38 = some i ∧ i.size = 1 := ⟨_, rfl, rfl⟩
theorem cells_uint16 : Tryz.prog.cellsOf 38 = 1 := by kernel_rfl
theorem eq_five (a b c d e x y z u v : Int) (w : World) : (Op.equalIn 10000 170 (.agg #[.int .u16 a, .int .u16 b, .int .u16 c, .int .u16 d, .int .u16 e]) (.agg #[.int .u16 x, .int .u16 y, .int .u16 z, .int .u16 u, .int .u16 v])).run Tryz.prog w = .ok (a == x && b == y && c == z && d == u && e == v) w := by
  obtain ⟨i, hi, hs⟩ := info_uint16
  have u3 := Tryz.underlying38
  have a3 := Tryz.isAgg38
  have z3 := Tryz.sizeOf38
  rw [run_equalIn_array w 9999 _ _ Tryz.underlying170 hi, cells_uint16, show List.range 5 = [0, 1, 2, 3, 4] from rfl]
  simp only [Op.eqItems]
  go_simp
  by_cases h1 : a = x <;> by_cases h2 : b = y <;> by_cases h3 : c = z <;> by_cases h4 : d = u <;> by_cases h5 : e = v <;> simp [h1, h2, h3, h4, h5]
theorem eq_four (a b c d x y z u : Int) (k : Nat) (w : World) : (Op.equalIn (k + 1 + 1) 39 (.agg #[.int .u16 a, .int .u16 b, .int .u16 c, .int .u16 d]) (.agg #[.int .u16 x, .int .u16 y, .int .u16 z, .int .u16 u])).run Tryz.prog w = .ok (a == x && b == y && c == z && d == u) w := by
  obtain ⟨i, hi, hs⟩ := info_uint16
  have u3 := Tryz.underlying38
  have a3 := Tryz.isAgg38
  have z3 := Tryz.sizeOf38
  rw [run_equalIn_array w (k + 1) _ _ Tryz.underlying39 hi, cells_uint16, show List.range 4 = [0, 1, 2, 3] from rfl]
  simp only [Op.eqItems]
  go_simp
  by_cases h1 : a = x <;> by_cases h2 : b = y <;> by_cases h3 : c = z <;> by_cases h4 : d = u <;> simp [h1, h2, h3, h4]
theorem eq_ino (k n z a b c d e k' n' z' a' b' c' d' e' : Int) (w : World) : (Op.equalIn 10000 41 (.agg #[.int .u8 k, .int .u16 n, .int .u32 z, .int .u16 a, .int .u16 b, .int .u16 c, .int .u16 d, .int .u16 e]) (.agg #[.int .u8 k', .int .u16 n', .int .u32 z', .int .u16 a', .int .u16 b', .int .u16 c', .int .u16 d', .int .u16 e'])).run Tryz.prog w = .ok (k == k' && n == n' && z == z' && (a == a' && b == b' && c == c' && d == d') && e == e') w := by
  have u3 := Tryz.underlying38
  have a3 := Tryz.isAgg38
  have z3 := Tryz.sizeOf38
  have u4 := Tryz.underlying5
  have a4 := Tryz.isAgg5
  have z4 := Tryz.sizeOf5
  have u5 := Tryz.underlying34
  have a5 := Tryz.isAgg34
  have z5 := Tryz.sizeOf34
  have a6 := Tryz.isAgg39
  have z6 := Tryz.sizeOf39
  have h4 := fun W => eq_four a b c d a' b' c' d' 9997 W
  rw [run_equalIn_struct (P := Tryz.prog) (w := w) 9999 41 _ _ (by kernel_rfl) (by kernel_rfl)]
  simp only [Program.fieldsOf, Tryz.underlying41]
  go_simp
  by_cases h1 : k = k'
  case neg => simp [h1]
  by_cases h2 : n = n'
  case neg => simp [h1, h2]
  by_cases h3 : z = z'
  case neg => simp [h1, h2, h3]
  by_cases h5 : a = a'
  case neg => simp [h1, h2, h3, h5]
  by_cases h6 : b = b'
  case neg => simp [h1, h2, h3, h5, h6]
  by_cases h7 : c = c'
  case neg => simp [h1, h2, h3, h5, h6, h7]
  by_cases h8 : d = d'
  case neg => simp [h1, h2, h3, h5, h6, h7, h8]
  by_cases h9 : e = e' <;> simp [h1, h2, h3, h5, h6, h7, h8, h9]
theorem eq_im (x y : Im) (w : World) : (Op.equalIn 10000 41 x.v y.v).run Tryz.prog w = .ok (decide (x = y)) w := by
  rw [eq_ino]
  congr 1
  obtain ⟨k, n, z, a, b, c, d, e⟩ := x
  obtain ⟨k', n', z', a', b', c', d', e'⟩ := y
  rw [Bool.eq_iff_iff]
  simp only [Bool.and_eq_true, beq_iff_eq, decide_eq_true_eq, Im.mk.injEq]
  omega
theorem eq_nought (x : Im) (w : World) : (Op.equalIn 10000 41 x.v (.agg #[.int .u8 0, .int .u16 0, .int .u32 0, .int .u16 0, .int .u16 0, .int .u16 0, .int .u16 0, .int .u16 0])).run Tryz.prog w = .ok (decide (x = Im.nought)) w := eq_im x Im.nought w
theorem eq_five_nat (a b c d e x y z u v : Nat) (w : World) : (Op.equalIn 10000 170 (fiveV a b c d e) (fiveV x y z u v)).run Tryz.prog w = .ok (decide (a = x ∧ b = y ∧ c = z ∧ d = u ∧ e = v)) w := by
  rw [eq_five]
  congr 1
  rw [Bool.eq_iff_iff]
  simp only [Bool.and_eq_true, beq_iff_eq, decide_eq_true_eq]
  omega
end Go.Proofs.YtnfiapjdkjbdhaaGreat
/- Bits of texts, eight a byte, the lowest first: plain mathematics, no program. -/
namespace Go.Proofs.YtnfiapjdkjbdhaaGreat.Bits
def bitL (l : List UInt8) (i : Nat) : Bool := (l.getD (i / 8) 0).toNat.testBit (i % 8)
def turnB (on : Bool) (b : UInt8) (k : Nat) : UInt8 := UInt8.ofNat (if on then b.toNat ||| 2 ^ k else b.toNat &&& (255 - 2 ^ k))
def setL (l : List UInt8) (i : Nat) (on : Bool) : List UInt8 := l.set (i / 8) (turnB on (l.getD (i / 8) 0) (i % 8))
def fillL (l : List UInt8) (a : Nat) (on : Bool) : Nat → List UInt8
  | 0 => l
  | n + 1 => setL (fillL l a on n) (a + n) on
def countL (l : List UInt8) : Nat → Nat
  | 0 => 0
  | n + 1 => countL l n + (if bitL l n then 1 else 0)
def leastL (l : List UInt8) (on : Bool) : Nat → Option Nat
  | 0 => none
  | n + 1 => match leastL l on n with
    | some k => some k
    | none => if bitL l n = on then some n else none
theorem pow_lt256 (k : Nat) (h : k < 8) : 2 ^ k < 256 := by
  have : (2 : Nat) ^ k < 2 ^ 8 := Nat.pow_lt_pow_right (by omega) h
  simpa using this
theorem notPow_bit (k j : Nat) (hk : k < 8) (hj : j < 8) : (255 - 2 ^ k).testBit j = !decide (j = k) := by
  have h := pow_lt256 k hk
  have e : 255 - 2 ^ k = 2 ^ 8 - (2 ^ k + 1) := by omega
  rw [e, Nat.testBit_two_pow_sub_succ h]
  simp [hj, Nat.testBit_two_pow, eq_comm]
theorem turnB_nat (on : Bool) (b : UInt8) (k : Nat) (hk : k < 8) : (turnB on b k).toNat = if on then b.toNat ||| 2 ^ k else b.toNat &&& (255 - 2 ^ k) := by
  unfold turnB
  rw [UInt8.toNat_ofNat']
  apply Nat.mod_eq_of_lt
  have hb := b.toNat_lt
  have hp := pow_lt256 k hk
  split
  · exact Nat.or_lt_two_pow (n := 8) hb hp
  · exact Nat.lt_of_le_of_lt Nat.and_le_left hb
theorem turnB_bit (on : Bool) (b : UInt8) (k j : Nat) (hk : k < 8) (hj : j < 8) : (turnB on b k).toNat.testBit j = if j = k then on else b.toNat.testBit j := by
  rw [turnB_nat on b k hk]
  cases on
  · simp only [Bool.false_eq_true, if_false, Nat.testBit_and, notPow_bit k j hk hj]
    split <;> simp_all
  · simp only [if_true, Nat.testBit_or, Nat.testBit_two_pow]
    split
    · simp_all
    · rename_i h
      have : ¬ k = j := fun e => h e.symm
      simp [this]
theorem byte_ext (a b : UInt8) (h : ∀ j, j < 8 → a.toNat.testBit j = b.toNat.testBit j) : a = b := by
  apply UInt8.toNat_inj.1
  apply Nat.eq_of_testBit_eq
  intro j
  by_cases hj : j < 8
  · exact h j hj
  · have ha : a.toNat < 2 ^ j := Nat.lt_of_lt_of_le a.toNat_lt (Nat.pow_le_pow_right (by omega) (by omega : 8 ≤ j))
    have hb : b.toNat < 2 ^ j := Nat.lt_of_lt_of_le b.toNat_lt (Nat.pow_le_pow_right (by omega) (by omega : 8 ≤ j))
    rw [Nat.testBit_lt_two_pow ha, Nat.testBit_lt_two_pow hb]
@[simp] theorem setL_length (l : List UInt8) (i : Nat) (on : Bool) : (setL l i on).length = l.length := by simp [setL]
@[simp] theorem fillL_length (l : List UInt8) (a : Nat) (on : Bool) (n : Nat) : (fillL l a on n).length = l.length := by
  induction n with
  | zero => rfl
  | succ n ih => simp [fillL, ih]
theorem getD_set (l : List UInt8) (i j : Nat) (x : UInt8) (h : i < l.length) : (l.set i x).getD j 0 = if j = i then x else l.getD j 0 := by
  simp only [List.getD_eq_getElem?_getD]
  split
  · rename_i e
    subst e
    simp [h]
  · rename_i e
    rw [List.getElem?_set_ne (fun e2 => e e2.symm)]
theorem setL_bit (l : List UInt8) (i j : Nat) (on : Bool) (h : i < 8 * l.length) : bitL (setL l i on) j = if j = i then on else bitL l j := by
  unfold bitL setL
  rw [getD_set _ _ _ _ (by omega)]
  by_cases e : j / 8 = i / 8
  · rw [if_pos e, turnB_bit _ _ _ _ (Nat.mod_lt _ (by omega)) (Nat.mod_lt _ (by omega)), e]
    by_cases e2 : j % 8 = i % 8
    · rw [if_pos e2, if_pos (by omega)]
    · rw [if_neg e2, if_neg (by omega)]
  · rw [if_neg e, if_neg (by intro e2; exact e (by rw [e2]))]
theorem bits_ext (l m : List UInt8) (hl : l.length = m.length) (h : ∀ j, j < 8 * l.length → bitL l j = bitL m j) : l = m := by
  apply List.ext_getElem hl
  intro i h1 h2
  apply byte_ext
  intro j hj
  have := h (8 * i + j) (by omega)
  unfold bitL at this
  rw [show (8 * i + j) / 8 = i by omega, show (8 * i + j) % 8 = j by omega] at this
  simpa [List.getD_eq_getElem?_getD, h1, h2] using this
theorem setL_same (l : List UInt8) (i : Nat) (on : Bool) (h : i < 8 * l.length) (hb : bitL l i = on) : setL l i on = l := by
  apply bits_ext _ _ (by simp)
  intro j hj
  rw [setL_bit _ _ _ _ h]
  split
  · rename_i e; rw [e, hb]
  · rfl
def rowL (l : List UInt8) (a : Nat) : Nat → Nat
  | 0 => 0
  | n + 1 => rowL l a n + (if bitL l (a + n) then 1 else 0)
theorem countL_add (l : List UInt8) (a n : Nat) : countL l (a + n) = countL l a + rowL l a n := by
  induction n with
  | zero => rfl
  | succ n ih => rw [← Nat.add_assoc, countL, ih, rowL, Nat.add_assoc]
theorem rowL_le (l : List UInt8) (a n : Nat) : rowL l a n ≤ n := by
  induction n with
  | zero => exact Nat.le_refl _
  | succ n ih => rw [rowL]; split <;> omega
theorem countL_le (l : List UInt8) (n : Nat) : countL l n ≤ n := by
  have := countL_add l 0 n
  rw [Nat.zero_add] at this
  have h := rowL_le l 0 n
  rw [this]
  simpa [countL] using h
theorem countL_congr (l m : List UInt8) (n : Nat) (h : ∀ j, j < n → bitL l j = bitL m j) : countL l n = countL m n := by
  induction n with
  | zero => rfl
  | succ n ih => rw [countL, countL, ih (fun j h1 => h j (by omega)), h n (by omega)]
theorem leastL_some (l : List UInt8) (on : Bool) (n k : Nat) (h : leastL l on n = some k) : k < n ∧ bitL l k = on ∧ ∀ j, j < k → bitL l j = !on := by
  induction n with
  | zero => simp [leastL] at h
  | succ n ih =>
    rw [leastL] at h
    cases hq : leastL l on n with
    | some q =>
      rw [hq] at h
      simp only [Option.some.injEq] at h
      subst h
      obtain ⟨h1, h2, h3⟩ := ih hq
      exact ⟨by omega, h2, h3⟩
    | none =>
      rw [hq] at h
      simp only at h
      split at h
      · rename_i hb
        simp only [Option.some.injEq] at h
        subst h
        refine ⟨by omega, hb, ?_⟩
        clear ih hb
        revert hq
        induction n with
        | zero => intro _ j hj; omega
        | succ n ih2 =>
          intro hq j hj
          rw [leastL] at hq
          cases hr : leastL l on n with
          | some r => rw [hr] at hq; simp at hq
          | none =>
            rw [hr] at hq
            simp only at hq
            split at hq
            · simp at hq
            · rename_i hne
              by_cases e : j = n
              · subst e
                revert hne
                cases on <;> cases bitL l j <;> simp
              · exact ih2 hr j (by omega)
      · simp at h
theorem leastL_none (l : List UInt8) (on : Bool) (n : Nat) : leastL l on n = none ↔ ∀ j, j < n → bitL l j = !on := by
  induction n with
  | zero => simp [leastL]
  | succ n ih =>
    rw [leastL]
    cases hq : leastL l on n with
    | some q =>
      simp only [reduceCtorEq, false_iff]
      intro hall
      obtain ⟨h1, h2, _⟩ := leastL_some l on n q hq
      have := hall q (by omega)
      rw [h2] at this
      cases on <;> simp at this
    | none =>
      have hb := ih.1 hq
      simp only [ite_eq_right_iff, reduceCtorEq, imp_false]
      constructor
      · intro hne j hj
        by_cases e : j = n
        · subst e
          revert hne
          cases on <;> cases bitL l j <;> simp
        · exact hb j (by omega)
      · intro hall e
        have := hall n (by omega)
        rw [e] at this
        cases on <;> simp at this
theorem leastL_is (l : List UInt8) (on : Bool) (n k : Nat) (hk : k < n) (hb : bitL l k = on) (h : ∀ j, j < k → bitL l j = !on) : leastL l on n = some k := by
  cases hq : leastL l on n with
  | none =>
    have := (leastL_none l on n).1 hq k hk
    rw [hb] at this
    cases on <;> simp at this
  | some q =>
    obtain ⟨_, h2, h3⟩ := leastL_some l on n q hq
    congr 1
    rcases Nat.lt_trichotomy q k with e | e | e
    · have := h q e
      rw [h2] at this
      cases on <;> simp at this
    · exact e
    · have := h3 k e
      rw [hb] at this
      cases on <;> simp at this
end Go.Proofs.YtnfiapjdkjbdhaaGreat.Bits
/- Layer 6 (bits): one bit, and the iterator over them. -/
namespace Go.Proofs.YtnfiapjdkjbdhaaGreat.Bits
open Go.RowKit Go.Shelf
set_option linter.unusedVariables false
set_option linter.unusedSimpArgs false
set_option maxRecDepth 10000
theorem bitL_at (l : List UInt8) (i : Nat) (h : i / 8 < l.length) : bitL l i = ((l[i / 8]).toNat.testBit (i % 8)) := by
  unfold bitL
  rw [List.getD_eq_getElem?_getD, List.getElem?_eq_getElem h]; rfl
theorem and_one (n : Nat) (k : Nat) (h : n < 256) : (bits .and .u8 ((n : Int) / 2 ^ k) 1 == 1) = n.testBit k := by
  have h2 : ((n : Int) / 2 ^ k) = ((n / 2 ^ k : Nat) : Int) := by simp
  rw [h2, show (1 : Int) = ((1 : Nat) : Int) from rfl, u8_and_nat _ _ (Nat.lt_of_le_of_lt (Nat.div_le_self _ _) h) (by omega), Nat.and_one_is_mod, Nat.testBit_eq_decide_div_mod_eq]
  by_cases e : n / 2 ^ k % 2 = 1
  · simp [e]
  · have : n / 2 ^ k % 2 = 0 := by omega
    simp [this]
set_option maxHeartbeats 400000 in
theorem size_any (l : List UInt8) (w : World) (h : l.length ≤ 1048576) :
    Calls Tryz.prog 185 #[str l] w fun e w' => e = .returned (.int .i64 (8 * (l.length : Int))) ∧ w' = w := by
  go_enter Tryz.func185, Tryz.ntmps185
  go_wp2
  go_ret
  exact ⟨rfl, rfl⟩
set_option maxHeartbeats 400000 in
theorem isSet_any (l : List UInt8) (i : Nat) (w : World) (h : l.length ≤ 1048576) (hi : i < 8 * l.length) :
    Calls Tryz.prog 192 #[str l, .int .i64 i] w fun e w' => e = .returned (.bool (bitL l i)) ∧ w' = w := by
  have h8 : i / 8 < l.length := by omega
  have hb := Lib.hid (bitL_at l i h8)
  go_enter Tryz.func192, Tryz.ntmps192
  go_wp2
  go_ret
  refine ⟨?_, rfl⟩
  rw [hb.out, ← and_one _ _ (l[i / 8]).toNat_lt]
  rfl
set_option maxHeartbeats 400000 in
theorem bitsFrom_any (l : List UInt8) (a : Int) (w : World) :
    Calls Tryz.prog 183 #[str l, .int .i64 a] w fun e w' => e = .returned (.func (.func 219) #[] #[.pointer (some ⟨w.heap.size + 1, 0, none⟩), .pointer (some ⟨w.heap.size, 0, none⟩)]) ∧ w' = (w.alloc (.cells #[str l] 9)).alloc (.cells #[.int .i64 a] 3) := by
  go_enter Tryz.func183, Tryz.ntmps183
  go_wp2
  go_ret
  exact ⟨rfl, rfl⟩
set_option maxHeartbeats 400000 in
theorem turner_any (on : Bool) (w : World) :
    Calls Tryz.prog 186 #[.bool on] w fun e w' => e = .returned (.func (.func 220) #[] #[.pointer (some ⟨w.heap.size, 0, none⟩)]) ∧ w' = w.alloc (.cells #[.bool on] 4) := by
  go_enter Tryz.func186, Tryz.ntmps186
  go_wp2
  go_ret
  exact ⟨rfl, rfl⟩
set_option maxHeartbeats 400000 in
theorem turner1_any (on : Bool) (b : UInt8) (k B : Nat) (w : World) (hk : k < 8) (hB : w.cell? ⟨B, 0, none⟩ = some (.bool on)) :
    Calls Tryz.prog 220 #[.int .u8 (b.toNat : Int), .int .i64 k, .pointer (some ⟨B, 0, none⟩)] w fun e w' => e = .returned (.int .u8 ((turnB on b k).toNat : Int)) ∧ w' = w := by
  have hp := pow_lt256 k hk
  have hn := Lib.hid (turnB_nat on b k hk)
  have hm : (2 : Int) ^ k % 256 = ((2 ^ k : Nat) : Int) := by
    have : ((2 ^ k : Nat) : Int) = (2 : Int) ^ k := by simp
    rw [← this]
    generalize 2 ^ k = m at hp
    exact Int.emod_eq_of_lt (by omega) (by omega)
  have Hm := Lib.hid hm
  clear hm
  cases on
  all_goals
    go_enter Tryz.func220, Tryz.ntmps220
    go_wp2
    go_ret
    refine ⟨?_, rfl⟩
    rw [hn.out]
    have h := Hm.out
  · have h2 := u8_andNot_nat b.toNat (2 ^ k) b.toNat_lt hp
    rw [← h] at h2
    show Ending.returned (.int .u8 (bits .andNot .u8 (b.toNat : Int) (2 ^ k % 256))) = _
    rw [h2]; rfl
  · have h2 := u8_or_nat b.toNat (2 ^ k) b.toNat_lt hp
    rw [← h] at h2
    show Ending.returned (.int .u8 (bits .or .u8 (b.toNat : Int) (2 ^ k % 256))) = _
    rw [h2]; rfl
end Go.Proofs.YtnfiapjdkjbdhaaGreat.Bits
/- Layer 6 (bits): the bits from a on, one by one. -/
namespace Go.Proofs.YtnfiapjdkjbdhaaGreat.Bits
open Go.RowKit Go.Shelf
set_option linter.unusedVariables false
set_option linter.unusedSimpArgs false
set_option maxRecDepth 10000
attribute [local go_sem] Oper.semAt_some
abbrev BitIx (l : List UInt8) := Fin (8 * l.length)
def BitRow (l : List UInt8) (a k : Nat) (xs : List (BitIx l)) : Prop := xs.map Fin.val = List.range' a k
theorem BitRow.nil (l : List UInt8) (a : Nat) : BitRow l a 0 [] := rfl
theorem BitRow.length {l : List UInt8} {a k : Nat} {xs : List (BitIx l)} (h : BitRow l a k xs) : xs.length = k := by
  have := congrArg List.length h
  simpa using this
theorem BitRow.snoc {l : List UInt8} {a k : Nat} {xs : List (BitIx l)} (h : BitRow l a k xs) (x : BitIx l) (hx : x.val = a + k) : BitRow l a (k + 1) (xs ++ [x]) := by
  unfold BitRow at *
  rw [List.map_append, h, List.range'_concat]
  simp [hx]
theorem BitRow.unsnoc {l : List UInt8} {a k : Nat} {xs : List (BitIx l)} {x : BitIx l} (h : BitRow l a k (xs ++ [x])) : ∃ j, k = j + 1 ∧ BitRow l a j xs ∧ x.val = a + j := by
  have hl := h.length
  simp only [List.length_append, List.length_singleton] at hl
  refine ⟨xs.length, hl.symm, ?_⟩
  subst hl
  unfold BitRow at *
  rw [List.map_append, List.range'_concat] at h
  have := List.append_inj h (by simp)
  exact ⟨this.1, by simpa using this.2⟩
def KeepC (B : Nat) (W W' : World) : Prop := ∀ v, W.cell? ⟨B, 0, none⟩ = some v → W'.cell? ⟨B, 0, none⟩ = some v
theorem KeepC.refl (B : Nat) (W : World) : KeepC B W W := fun _ h => h
theorem KeepC.trans {B : Nat} {X Y Z : World} (h : KeepC B X Y) (k : KeepC B Y Z) : KeepC B X Z := fun v e => k v (h v e)
theorem KeepC.putObj {B l : Nat} {W : World} {o : Obj} (o' : Obj) (hl : W.heap[l]? = some o) (ho : o.isCells = false) : KeepC B W (W.putObj l o') := fun v h =>
  cell_kept h (grownBy_putObj' W l o') (fun r e => by cases e; exact ⟨_, hl, ho⟩)
theorem KeepC.setCell {B : Nat} (W : World) (p : Addr) (v : Value) (h : p.block ≠ B) : KeepC B W (W.setCell p v) := fun u e => by
  rw [World.cell?_setCell_other _ _ _ _ (by rintro rfl; exact h rfl)]; exact e
theorem KeepC.drew (B : Nat) (W : World) : KeepC B W W.drew := fun _ h => h
set_option maxRecDepth 100000 in
set_option maxHeartbeats 2000000 in
theorem bits_in (l : List UInt8) (hl : l.length ≤ 1048576) (a : Nat) (ha : a ≤ 8 * l.length) (y Ba Bs : Nat) (J Jx : List (BitIx l) → World → Prop)
    (hY : ∀ pre (x : BitIx l) W, J pre W → pre.length < 8 * l.length → YieldAt Fence.wide 1 Tryz.prog y #[.int .i64 (x.val : Int), .bool (bitL l x.val)] W fun e W' =>
      (e = .returned (.bool true) ∧ J (pre ++ [x]) W' ∧ KeepC Bs W W') ∨ (e = .returned (.bool false) ∧ Jx (pre ++ [x]) W'))
    (W : World) (hca : W.cell? ⟨Ba, 0, none⟩ = some (.int .i64 (a : Int))) (hcs : W.cell? ⟨Bs, 0, none⟩ = some (str l)) (h0 : J [] W) :
    CallsIn Fence.wide 2 Tryz.prog 219 #[.func (.yield y) #[] #[], .pointer (some ⟨Ba, 0, none⟩), .pointer (some ⟨Bs, 0, none⟩)] W fun e W' => (∃ v, e = .returned v) ∧
      ((∃ ys, BitRow l a (8 * l.length - a) ys ∧ J ys W') ∨ (∃ pre, (∃ k, a + k ≤ 8 * l.length ∧ BitRow l a k pre) ∧ Jx pre W')) := by
  refine callsIn_of_wp Tryz.func219 rfl trivial ?_ rfl
  simp only [Tryz.ntmps219, List.size_toArray, List.length_cons, List.length_nil, Nat.reduceAdd, Nat.reduceSub, Array.replicate_succ, Array.replicate_zero, List.push_toArray, List.append_toArray, List.nil_append, List.cons_append]
  gi_wp2_with fail
  gi_loopw [4] (fun i wr => ∃ (k : Nat) (pre : List (BitIx l)), a + k ≤ 8 * l.length ∧ i = .int .i64 ((a + k : Nat) : Int) ∧ BitRow l a k pre ∧ J pre wr ∧ KeepC Bs W wr)
    (fun i _ => 8 * l.length - (Go.RowKit.intOf i).toNat)
  case atStart => exact ⟨0, [], ha, rfl, BitRow.nil _ _, h0, KeepC.refl _ _⟩
  case round =>
    obtain ⟨k, pre, hk, rfl, hrow, hJs, hnx⟩ := hrel
    have hcx : wr.cell? ⟨Bs, 0, none⟩ = some (str l) := hnx _ hcs
    have Hrow := Lib.hid hrow
    clear hrow
    generalize hj : a + k = j at *
    gi_wp2_with fail
    refine ⟨trivial, (callsIn_wide.2 (size_any l _ hl)).mono ?_⟩
    rintro e w1 ⟨rfl, rfl⟩
    by_cases hlt : j < 8 * l.length
    · obtain ⟨fn, tmps, assign, body, hy, hR⟩ := hY pre ⟨j, hlt⟩ w1 hJs (by rw [Hrow.out.length]; omega)
      dsimp only at hy
      gi_wp2_with fail
      refine ⟨trivial, (callsIn_wide.2 (isSet_any l j _ hl hlt)).mono ?_⟩
      rintro e w2 ⟨rfl, rfl⟩
      gi_wp2_with fail
      refine hR.mono ?_
      rintro e W3 (⟨rfl, hJ3, hk3⟩ | ⟨rfl, hJx3⟩)
      · gi_wp2_with fail
        go_roundw
        case rel => exact ⟨k + 1, pre ++ [⟨j, hlt⟩], by omega, by rw [← Nat.add_assoc, hj]; go_num, Hrow.out.snoc _ hj.symm, hJ3, hnx.trans hk3⟩
        case measure => simp [Go.RowKit.intOf]; omega
      · gi_wp2_with fail
        refine bodyPost_ret (results_none rfl _ _ _) rfl ?_
        exact ⟨⟨_, rfl⟩, .inr ⟨_, ⟨k + 1, by omega, Hrow.out.snoc ⟨j, hlt⟩ hj.symm⟩, hJx3⟩⟩
    · gi_wp2_with fail
      go_end0
      exact ⟨⟨_, rfl⟩, .inl ⟨pre, by have := Hrow.out; rwa [show k = 8 * l.length - a by omega] at this, hJs⟩⟩
end Go.Proofs.YtnfiapjdkjbdhaaGreat.Bits
