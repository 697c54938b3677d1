/- Layer 3 (dev): some devices, held apart from each other by a call; an array of rows that stays. -/
import Derived.Test.YtoogedjeclcdbaaDev20
namespace Go.Proofs.Ytoogedjeclcdbaa
open Go.RowKit Go.Maps
set_option linter.unusedVariables false
/-- The devices ds lie apart, and apart from K's blocks; these lie as they lay in w. -/
structure Devs (K : Nat → Prop) (w W : World) (ds : List (Nat × Dv)) : Prop where
  keeps : Keeps K w W
  devs : ∃ S : Nat → Nat → Prop, (∀ q b M, ds[q]? = some (b, M) → DevAt (S q) W b M) ∧ (∀ q, q < ds.length → ∀ k, S q k → ¬ K k) ∧ ∀ q r, q < ds.length → r < ds.length → q ≠ r → ∀ k, S q k → ¬ S r k
section
variable {K : Nat → Prop} {w W : World} {ds : List (Nat × Dv)}
theorem Devs.below {W' : World} (h : Devs K w W ds) (hb : Below W.heap.size W W') : Devs K w W' ds := by
  obtain ⟨h1, S, h2, h3, h4⟩ := h
  exact ⟨h1.below hb, S, fun q b M hq => (h2 q b M hq).below hb, h3, h4⟩
theorem Devs.dev (h : Devs K w W ds) (q : Nat) {b : Nat} {M : Dv} (hq : ds[q]? = some (b, M)) : ∃ S, DevAt S W b M := by
  obtain ⟨h1, S, h2, h3, h4⟩ := h
  exact ⟨_, h2 q b M hq⟩
theorem Devs.lt (h : Devs K w W ds) (q : Nat) {b : Nat} {M : Dv} (hq : ds[q]? = some (b, M)) : Fine M := (h.dev q hq).elim fun _ h => h.fine
/-- From here on more is kept: what lies behind the devices' blocks. -/
theorem Devs.more {K' : Nat → Prop} {W' : World} (h : Devs K w W ds) (hb : Below W.heap.size W W') (hk : ∀ k, K' k → K k ∨ (W.heap.size ≤ k ∧ k < W'.heap.size)) : Devs K' W' W' ds := by
  obtain ⟨h1, S, h2, h3, h4⟩ := h
  refine ⟨.refl fun k hk' => ?_, S, fun q b M hq => (h2 q b M hq).below hb, fun q hq k hs hk' => ?_, h4⟩
  · rcases hk k hk' with e | e
    · exact Nat.lt_of_lt_of_le (Nat.lt_of_lt_of_le (h1.lt k e) h1.size) hb.size
    · exact e.2
  · rcases hk k hk' with e | e
    · exact h3 q hq k hs e
    · have := (h2 q _ _ (List.getElem?_eq_getElem hq)).lt k hs; omega
/-- A step of one of them. -/
theorem Devs.step {ds' : List (Nat × Dv)} {f : FuncId} {args : Array Value} {r : Value} (h : Devs K w W ds) (q : Nat) {b : Nat} {M N : Dv} (hq : ds[q]? = some (b, M)) (hd : ds.set q (b, N) = ds')
    (hc : ∀ S, DevAt S W b M → Calls Try.prog f args W fun e w' => e = .returned r ∧ Step S W b N w') :
    Calls Try.prog f args W fun e w' => e = .returned r ∧ Devs K w w' ds' := by
  subst hd
  obtain ⟨h1, S, h2, h3, h4⟩ := h
  have hql : q < ds.length := (List.getElem?_eq_some_iff.1 hq).1
  have hlt : ∀ p, p < ds.length → ∀ k, S p k → k < W.heap.size := fun p hp k hk => (h2 p _ _ (List.getElem?_eq_getElem hp)).lt k hk
  refine (hc (S q) (h2 q b M hq)).mono ?_
  rintro e w' ⟨he, S', hd, ho, hk⟩
  refine ⟨he, h1.only ho (h3 q hql), upd S q S', fun p b' M' hp => ?_, fun p hp k hs hK => ?_, fun p r hp hr hne k hs hs2 => ?_⟩
  · by_cases e : p = q
    · subst e
      rw [upd_same]
      rw [List.getElem?_set_self hql] at hp
      cases hp
      exact hd
    · rw [upd_other _ _ e]
      rw [List.getElem?_set_ne (fun e' => e e'.symm)] at hp
      have hpl : p < ds.length := (List.getElem?_eq_some_iff.1 hp).1
      exact (h2 p b' M' hp).kept ho.size fun k hs => ho.block k (hlt p hpl k hs) (h4 p q hpl hql e k hs)
  · rw [List.length_set] at hp
    by_cases e : p = q
    · subst e
      rw [upd_same] at hs
      rcases hk k hs with e | e
      · exact h3 p hp k e hK
      · have := h1.lt k hK; have := h1.size; omega
    · rw [upd_other _ _ e] at hs
      exact h3 p hp k hs hK
  · rw [List.length_set] at hp hr
    by_cases e : p = q
    · subst e
      rw [upd_same] at hs
      rw [upd_other _ _ (fun e' => hne e'.symm)] at hs2
      rcases hk k hs with e | e
      · exact h4 p r hp hr hne k e hs2
      · have := hlt r hr k hs2; omega
    · rw [upd_other _ _ e] at hs
      by_cases e2 : r = q
      · subst e2
        rw [upd_same] at hs2
        rcases hk k hs2 with e2 | e2
        · exact h4 p r hp hr hne k hs e2
        · have := hlt p hp k hs; omega
      · rw [upd_other _ _ e2] at hs2
        exact h4 p r hp hr hne k hs hs2
/-- One more. -/
theorem Devs.add (h : Devs K w W ds) {W' : World} {b : Nat} {M : Dv} {S : Nat → Prop} (hd : DevAt S W' b M) (hS : ∀ k, S k → W.heap.size ≤ k) (hb : Below W.heap.size W W') : Devs K w W' (ds ++ [(b, M)]) := by
  obtain ⟨h1, T, h2, h3, h4⟩ := h
  have hlt : ∀ p, p < ds.length → ∀ k, T p k → k < W.heap.size := fun p hp k hk => (h2 p _ _ (List.getElem?_eq_getElem hp)).lt k hk
  refine ⟨h1.below hb, upd T ds.length S, fun p b' M' hp => ?_, fun p hp k hs hK => ?_, fun p r hp hr hne k hs hs2 => ?_⟩
  · by_cases e : p = ds.length
    · subst e
      rw [upd_same]
      simp at hp
      obtain ⟨rfl, rfl⟩ := hp
      exact hd
    · rw [upd_other _ _ e]
      have hl := (List.getElem?_eq_some_iff.1 hp).1
      rw [List.length_append] at hl
      simp at hl
      rw [List.getElem?_append_left (by omega)] at hp
      exact (h2 p b' M' hp).below hb
  · rw [List.length_append] at hp
    simp at hp
    by_cases e : p = ds.length
    · subst e
      rw [upd_same] at hs
      have := hS k hs; have := h1.lt k hK; have := h1.size; omega
    · rw [upd_other _ _ e] at hs
      exact h3 p (by omega) k hs hK
  · rw [List.length_append] at hp hr
    simp at hp hr
    by_cases e : p = ds.length
    · subst e
      rw [upd_same] at hs
      rw [upd_other _ _ (fun e' => hne e'.symm)] at hs2
      have := hS k hs; have := hlt r (by omega) k hs2; omega
    · rw [upd_other _ _ e] at hs
      by_cases e2 : r = ds.length
      · subst e2
        rw [upd_same] at hs2
        have := hS k hs2; have := hlt p (by omega) k hs; omega
      · rw [upd_other _ _ e2] at hs2
        exact h4 p r (by omega) (by omega) hne k hs hs2
theorem devs_copy {ds' : Nat → List (Nat × Dv)} (h : Devs K w W ds) (q : Nat) {b : Nat} {M : Dv} (hq : ds[q]? = some (b, M)) (hd : ∀ b', ds ++ [(b', M)] = ds' b') (hn : 8 ≤ M.n) (hw : M.wr ≤ 1099511627776) :
    Calls Try.prog 18 #[devp b] W fun e w' => ∃ b', e = .returned (devp b') ∧ Devs K w w' (ds' b') ∧ Below W.heap.size W w' := by
  obtain ⟨S, hS⟩ := h.dev q hq
  refine (copy_any hS hn hw).mono ?_
  rintro e w' ⟨b', rfl, ⟨S', hd', hk⟩, hb⟩
  exact ⟨b', rfl, hd b' ▸ h.add hd' hk hb, hb⟩
theorem devs_crash {ds' : List (Nat × Dv)} (h : Devs K w W ds) (q : Nat) {b : Nat} {M : Dv} (keep : List UInt8) (hq : ds[q]? = some (b, M)) (hd : ds.set q (b, M.crash keep) = ds') (hw : M.wr ≤ 1099511627776) (hkl : keep.length ≤ 1099511627776) :
    Calls Try.prog 16 #[devp b, str keep] W fun e w' => e = .returned (.int .i64 0) ∧ Devs K w w' ds' :=
  h.step q hq hd fun S hS => crash_any hS hw keep hkl
theorem devs_write {ds' : List (Nat × Dv)} (h : Devs K w W ds) (q : Nat) {b : Nat} {M : Dv} (i : Int) (s : List UInt8) (hq : ds[q]? = some (b, M)) (hd : ds.set q (b, M.wrote i s) = ds') (hw : M.wr < 1099511627776) :
    Calls Try.prog 10 #[devp b, .int .i64 i, str s] W fun e w' => e = .returned (.int .i64 (M.wroteE i s)) ∧ Devs K w w' ds' :=
  h.step q hq hd fun S hS => write_all hS hw i s
theorem devs_read (h : Devs K w W ds) (q : Nat) {b : Nat} {M : Dv} (hq : ds[q]? = some (b, M)) (hdn : M.down = false) (hw : M.wr ≤ 1099511627776) (i : Nat) (hi : i < M.n) :
    Calls Try.prog 14 #[devp b, .int .i64 (i : Int)] W fun e w' => e = .returned (.tuple #[str (M.cur i), .int .i64 0]) ∧ Devs K w w' ds := by
  obtain ⟨S, hS⟩ := h.dev q hq
  refine (read_any hS hdn hw i hi).mono ?_
  rintro e w' ⟨rfl, hb⟩
  exact ⟨rfl, h.below hb⟩
theorem devs_cached (h : Devs K w W ds) (q : Nat) {b : Nat} {M : Dv} (hq : ds[q]? = some (b, M)) (i : Nat) (hi : i < M.n) : Calls Try.prog 19 #[devp b, .int .i64 (i : Int)] W fun e w' => e = .returned (.int .i64 ((M.row i).length : Int)) ∧ W = w' := by
  obtain ⟨S, hS⟩ := h.dev q hq
  exact cached_any hS i hi
theorem devs_loose (h : Devs K w W ds) (q : Nat) {b : Nat} {M : Dv} (hq : ds[q]? = some (b, M)) : Calls Try.prog 15 #[devp b] W fun e w' => ∃ v, e = .returned v ∧ Row w' v (M.loose.map encI) ∧ Keeps K w w' ∧ Devs (fun k => K k ∨ v.ownBlock = some k) w' w' ds ∧ Devs K w w' ds ∧ Below W.heap.size W w' := by
  obtain ⟨S, hS⟩ := h.dev q hq
  refine (looseFn_any hS).mono ?_
  rintro e w' ⟨v, rfl, hr, hn, hb⟩
  refine ⟨v, rfl, hr, h.keeps.below hb, h.more hb (fun k hk => ?_), h.below hb, hb⟩
  rcases hk with e | e
  · exact .inl e
  · exact .inr (hn k e)
end
/-- Sixteen rows of texts that stay. -/
structure WasI (W : World) (wb : Nat) (vs : Nat → Value) (F : Nat → List (List UInt8)) : Prop where
  arr : ∀ i, i < 16 → W.cell? ⟨wb, i, none⟩ = some (vs i)
  rows : ∀ i, i < 16 → ∃ g cap, vs i = .slice (some ⟨g, 0, none⟩) (F i).length cap ∧ ∀ j (hj : j < (F i).length), W.cell? ⟨g, j, none⟩ = some (str (F i)[j])
/-- What must stay for these: the call's world, the array, its rows. -/
def WasK (w : World) (wb : Nat) (vs : Nat → Value) (k : Nat) : Prop := k < w.heap.size ∨ k = wb ∨ ∃ i, i < 16 ∧ (vs i).ownBlock = some k
theorem WasI.keep {K : Nat → Prop} {a W w : World} {wb : Nat} {vs : Nat → Value} {F : Nat → List (List UInt8)} (h : WasI a wb vs F) (hk : Keeps K a W) (hK : ∀ k, WasK w wb vs k → K k) : WasI W wb vs F := by
  refine ⟨fun i hi => (cell_same i (hk.same wb (hK _ (.inr (.inl rfl))))).trans (h.arr i hi), fun i hi => ?_⟩
  obtain ⟨g, cap, hv, hc⟩ := h.rows i hi
  exact ⟨g, cap, hv, fun j hj => (cell_same j (hk.same g (hK _ (.inr (.inr ⟨i, hi, by rw [hv]; rfl⟩))))).trans (hc j hj)⟩
theorem CrI.was {w W : World} {b : Nat} {M : Dv} {wb : Nat} {vs : Nat → Value} {F : Nat → List (List UInt8)} (h : CrI w W b M wb vs F) (hF : ∀ i, i < 16 → F i ≠ []) : WasI W wb vs F :=
  ⟨fun i hi => (h.arr i hi).1, fun i hi => by
    obtain ⟨g, cap, hv, -, -, -, hc⟩ := owns_cells (h.rows i hi).1 (hF i hi)
    exact ⟨g, cap, hv, hc⟩⟩
theorem CrI.devs {w W : World} {b : Nat} {M : Dv} {wb : Nat} {vs : Nat → Value} {F : Nat → List (List UInt8)} (h : CrI w W b M wb vs F) : Devs (WasK w wb vs) W W [(b, M)] := by
  obtain ⟨S, hd, hS⟩ := h.dev
  refine ⟨.refl fun k hk => ?_, fun _ => S, fun q b' M' hq => ?_, fun q hq k hs hk => ?_, fun q r hq hr hne => ?_⟩
  · rcases hk with e | rfl | ⟨i, hi, e⟩
    · have := h.keep.size; omega
    · exact h.wblt
    · exact (owns_lt (h.rows i hi).1 e).2
  · cases q with
    | zero => simp at hq; obtain ⟨rfl, rfl⟩ := hq; exact hd
    | succ q => simp at hq
  · have := hS k hs
    rcases hk with e | e | ⟨i, hi, e⟩
    · omega
    · exact this.2.1 e
    · exact this.2.2 i hi e
  · simp at hq hr; omega
theorem cr_fuse {w W : World} {b : Nat} {M : Dv} {wb : Nat} {vs : Nat → Value} {F : Nat → List (List UInt8)} (h : CrI w W b M wb vs F) (n : Nat) (hn : n ≤ 9223372036854775807) :
    Calls Try.prog 17 #[devp b, .int .i64 (n : Int)] W fun e w' => e = .returned (.int .i64 0) ∧ CrI w w' b (M.fuse n) wb vs F := h.step fun S hS => by
  obtain ⟨g, c, m, vals, hI⟩ := hS
  refine (fuse_any hI n hn).mono ?_
  rintro e w' ⟨rfl, hD, hO⟩
  exact ⟨rfl, Step.of ⟨g, c, m, vals, hD⟩ hO⟩
theorem Keeps.belowK {K : Nat → Prop} {a W : World} {B : Nat} (h : Keeps K a W) (hK : ∀ k, k < B → K k) : Below B a W := ⟨h.os, h.tape, h.output, h.size, fun k hk => h.same k (hK k hk)⟩
theorem wrote_on (M : Dv) (hn : 0 < M.n) (hd : M.down = false) (s : List UInt8) (hs : s.length = 64) : M.wroteE 0 s = 0 := by
  unfold Dv.wroteE Dv.canWrite
  simp [hd, hs]
  omega
theorem crash_loose (M : Dv) (keep : List UInt8) : (M.crash keep).loose = [] := by
  unfold Dv.loose Dv.crash
  simp
theorem Dv.loose_len (M : Dv) : M.loose.length ≤ M.n := by
  unfold Dv.loose
  have := List.length_filter_le (fun i => !(M.row i).isEmpty) (List.range M.n)
  rw [List.length_range] at this
  exact this
theorem Dv.all_len (M : Dv) (k : Nat) : (M.all k).length ≤ M.n := by
  unfold Dv.all Dv.loose
  rw [List.length_map, List.length_take]
  have := List.length_filter_le (fun i => !(M.row i).isEmpty) (List.range M.n)
  rw [List.length_range] at this
  omega
theorem WasI.facts {W : World} {wb : Nat} {vs : Nat → Value} {F : Nat → List (List UInt8)} {M : Dv} (h : WasI W wb vs F) (i : Nat) (hi : i < 16) (hF : F i = M.was i) :
    ∃ g cap, W.cell? ⟨wb, i, none⟩ = some (.slice (some ⟨g, 0, none⟩) (F i).length cap) ∧ 1 ≤ (F i).length ∧ W.cell? ⟨g, 0, none⟩ = some (str (M.dur i)) ∧ W.cell? ⟨g, (F i).length - 1, none⟩ = some (str (M.cur i)) ∧
      ∀ j (hj : j < (F i).length), W.cell? ⟨g, j, none⟩ = some (str (F i)[j]) := by
  obtain ⟨g, cap, hv, hc⟩ := h.rows i hi
  have hp : 1 ≤ (F i).length := by rw [hF]; show 1 ≤ (M.row i).length + 1; omega
  refine ⟨g, cap, hv ▸ h.arr i hi, hp, ?_, ?_, hc⟩
  · rw [hc 0 (by omega)]
    congr 2
    simp only [hF]
    rfl
  · rw [hc ((F i).length - 1) (by omega)]
    have := was_last M i (by rw [← hF]; omega)
    simp only [hF]
    rw [this]
theorem contains_end (F : List (List UInt8)) (c : List UInt8) (h : c ∈ F) : (F.take F.length).contains c = true := by
  rw [List.take_length]
  exact List.contains_iff_mem.2 h
theorem contains_step (F : List (List UInt8)) (c : List UInt8) (j : Nat) (h : j < F.length) : (F.take (j + 1)).contains c = ((F.take j).contains c || c == F[j]) := by
  rw [List.take_succ_eq_append_getElem h, Bool.eq_iff_iff, List.contains_iff_mem, List.mem_append, Bool.or_eq_true, List.contains_iff_mem, beq_iff_eq, List.mem_singleton]
end Go.Proofs.Ytoogedjeclcdbaa
