/- Layer 10 (dirs), the laws: which sectors a step changes, and where the other entries stand. -/
import Derived.Test.YtmidoghjacmdcaaDirsO2
namespace Go.Proofs.Ytmidoghjacmdcaa
open Go.RowKit Go.Lib
set_option linter.unusedVariables false
set_option linter.unusedSimpArgs false
set_option maxRecDepth 10000
theorem set_name {s : List UInt8} {x : En} (h : chk s = 0) (h0 : setE s x = 0) : x.n.length ≤ 27 := by
  by_cases hi : x.i = 0
  · rw [(set_arg h hi).1] at h0; cases h0
  cases hl : look (ents s) x.n with
  | none => rw [(set_none h hi hl).1] at h0; cases h0
  | some k =>
    obtain ⟨_, y, hy, e, _⟩ := look_some hl
    rw [← e]
    exact (chk_dir h).1.len27 _ (List.mem_of_getElem? hy)
theorem slot_in {s : List UInt8} {k : Nat} (h : chk s = 0) (hk : k < (ents s).length) : 32 * k + 32 ≤ s.length := by
  have := (ents_len h).1
  omega
theorem add_near {s : List UInt8} {x : En} (h : chk s = 0) (h0 : addE s x = 0) : ((addT s x).length = s.length + 64 ∧ (addT s x).take s.length = s) ∨ near s (addT s x) := by
  have hm : mayB x = true := by
    cases hm : mayB x with
    | true => rfl
    | false => rw [(add_arg h hm).1] at h0; cases h0
  have hp := slotL_length (mayB_len hm).2.2
  cases hl : look (ents s) x.n with
  | some k => rw [(add_have h hm hl).1] at h0; cases h0
  | none =>
    cases hg : gap (ents s) with
    | some k =>
      rw [(add_gap h hm hl hg).2]
      exact .inr (near_chg hp (slot_in h (gap_lt hg)))
    | none =>
      by_cases h72 : (ents s).length < 72
      · rw [(add_more h hm hl hg h72).2]
        exact .inl ⟨by simp [hp, freeL_length], by simp⟩
      · rw [(add_full h hm hl hg (by omega)).1] at h0; cases h0
theorem set_near {s : List UInt8} {x : En} (h : chk s = 0) (h0 : setE s x = 0) : near s (setT s x) := by
  have hp := slotL_length (set_name h h0)
  by_cases hi : x.i = 0
  · rw [(set_arg h hi).1] at h0; cases h0
  cases hl : look (ents s) x.n with
  | none => rw [(set_none h hi hl).1] at h0; cases h0
  | some k =>
    rw [(set_some h hi hl).2]
    exact near_chg hp (slot_in h (look_lt hl))
theorem del_near {s n : List UInt8} (h : chk s = 0) (h0 : delE s n = 0) : near s (delT s n) := by
  cases hl : look (ents s) n with
  | none => rw [(del_none h hl).1] at h0; cases h0
  | some k =>
    obtain ⟨_, y, hy, _⟩ := look_some hl
    rw [(del_some h hl hy).2.1]
    exact near_chg freeL_length (slot_in h (look_lt hl))
/-- An entry that is listed is found, with its inode. -/
theorem lst_found {s : List UInt8} {y : En} (h : chk s = 0) (hy : y ∈ lst s) : fIno (ents s) y.n = y.i ∧ fIs (ents s) y.n = true := by
  have hd := (chk_dir h).1
  unfold lst at hy
  obtain ⟨h1, h2⟩ := List.mem_filter.1 hy
  obtain ⟨k, hk⟩ := List.mem_iff_getElem?.1 h1
  have hne : y ≠ En.free := by simpa using h2
  have hn : y.n ≠ [] := by
    rcases hd.ok y h1 with e | ⟨e, _⟩
    · exact absurd e hne
    · have := (mayB_len e).2.1
      intro e2
      rw [e2] at this
      simp at this
  have hl := look_is hd.uniq hn hk rfl
  exact ⟨fIno_some hl hk, fIs_some hl⟩
/-- What a step that is done leaves. -/
structure After (s m t : List UInt8) : Prop where
  good : chk t = 0
  same : ∀ n, n ≠ m → look (ents t) n = look (ents s) n ∧ fIno (ents t) n = fIno (ents s) n
theorem Next.after {s t m : List UInt8} {i : Nat} (h : Next s t m i) : After s m t := ⟨h.good, h.same⟩
theorem After.found {s m t : List UInt8} {y : En} (h : After s m t) (hs : chk s = 0) (hy : y ∈ lst s) (hn : y.n ≠ m) : fIno (ents t) y.n = y.i ∧ fIs (ents t) y.n = true ∧ fAt (ents t) y.n = fAt (ents s) y.n := by
  obtain ⟨h1, h2⟩ := lst_found hs hy
  obtain ⟨g1, g2⟩ := h.same _ hn
  exact ⟨g2.trans h1, by unfold fIs at h2 ⊢; rw [g1]; exact h2, by unfold fAt; rw [g1]⟩
/-- What a step comes to. -/
def StepTwo (s : List UInt8) (d : Int) (m t : List UInt8) (e : Nat) : Prop :=
  (e ≠ 0 ∧ t = []) ∨ (e = 0 ∧ After s m t ∧ ((d = 0 ∧ t.length = s.length + 64 ∧ t.take s.length = s) ∨ near s t))
theorem two_add {s m : List UInt8} {xi : Nat} (h : chk s = 0) (hi : xi < 4294967296) : StepTwo s 0 m (addT s ⟨m, xi⟩) (addE s ⟨m, xi⟩) := by
  by_cases h0 : addE s ⟨m, xi⟩ = 0
  · refine .inr ⟨h0, (add_next (x := ⟨m, xi⟩) h hi h0).1.after, ?_⟩
    rcases add_near h h0 with ⟨a, b⟩ | a
    · exact .inl ⟨rfl, a, b⟩
    · exact .inr a
  · exact .inl ⟨h0, add_err h0⟩
theorem two_set {s m : List UInt8} {xi : Nat} {d : Int} (h : chk s = 0) (hi : xi < 4294967296) : StepTwo s d m (setT s ⟨m, xi⟩) (setE s ⟨m, xi⟩) := by
  by_cases h0 : setE s ⟨m, xi⟩ = 0
  · exact .inr ⟨h0, (set_next (x := ⟨m, xi⟩) h hi h0).1.after, .inr (set_near h h0)⟩
  · exact .inl ⟨h0, set_err h0⟩
theorem two_del {s m : List UInt8} {d : Int} (h : chk s = 0) : StepTwo s d m (delT s m) (delE s m) := by
  by_cases h0 : delE s m = 0
  · exact .inr ⟨h0, (del_next h h0).1.after, .inr (del_near h h0)⟩
  · exact .inl ⟨h0, del_err h0⟩
theorem ok_add {s m : List UInt8} {xi : Nat} (h : chk s = 0) (hi : xi < 4294967296) : addE s ⟨m, xi⟩ = 0 → chk (addT s ⟨m, xi⟩) = 0 := fun h0 => (add_next (x := ⟨m, xi⟩) h hi h0).1.good
theorem ok_del {s m : List UInt8} (h : chk s = 0) : delE s m = 0 → chk (delT s m) = 0 := fun h0 => (del_next h h0).1.good
end Go.Proofs.Ytmidoghjacmdcaa
