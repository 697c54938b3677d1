/- What a call holds in memory, as a row of things that lie apart: each in blocks of its own; what was there ahead lies as it lay. -/
import Derived.Test.YthgdkpkhnhjifaaGreatM17
namespace Go.Proofs.YthgdkpkhnhjifaaGreat
open Go.RowKit Go.Maps
set_option linter.unusedVariables false
set_option linter.unusedSimpArgs false
set_option maxRecDepth 10000
/-- A thing in memory: it lies in the blocks of S. -/
structure Res where
  at_ : (Nat → Prop) → World → Prop
  lt : ∀ S W, at_ S W → ∀ k, S k → k < W.heap.size
  kept : ∀ S W W', at_ S W → W.heap.size ≤ W'.heap.size → (∀ k, S k → W'.heap[k]? = W.heap[k]?) → at_ S W'
structure SysOn (w W : World) (rs : List Res) (S : Nat → Nat → Prop) : Prop where
  keeps : Keeps (All w) w W
  at_ : ∀ (i : Nat) (r : Res), rs[i]? = some r → r.at_ (S i) W
  new : ∀ i, i < rs.length → ∀ k, S i k → w.heap.size ≤ k
  apart : ∀ i j, i < rs.length → j < rs.length → i ≠ j → ∀ k, S i k → ¬ S j k
/-- The things of rs lie apart, in blocks that are newer than w; what lay in w lies so still. -/
def Sys (w W : World) (rs : List Res) : Prop := ∃ S, SysOn w W rs S
theorem idx_lt {α : Type} {rs : List α} {i : Nat} {r : α} (h : rs[i]? = some r) : i < rs.length := (List.getElem?_eq_some_iff.1 h).1
section
variable {w W : World} {rs : List Res} {S : Nat → Nat → Prop}
theorem SysOn.lt (h : SysOn w W rs S) {i : Nat} (hi : i < rs.length) (k : Nat) (hk : S i k) : k < W.heap.size :=
  rs[i].lt _ _ (h.at_ i _ (List.getElem?_eq_getElem hi)) k hk
theorem SysOn.below (h : SysOn w W rs S) {W' : World} (hb : Below W.heap.size W W') : SysOn w W' rs S :=
  ⟨h.keeps.below hb, fun i r hi => r.kept _ _ _ (h.at_ i r hi) hb.size fun k hk => hb.block k (h.lt (idx_lt hi) k hk), h.new, h.apart⟩
theorem SysOn.set (h : SysOn w W rs S) {i : Nat} {r r' : Res} (hi : rs[i]? = some r) {W' : World} {S' : Nat → Prop} (ho : Only (S i) W W') (hr : r'.at_ S' W') (hs : ∀ k, S' k → S i k ∨ W.heap.size ≤ k) : SysOn w W' (rs.set i r') (upd S i S') := by
  have hil := idx_lt hi
  have hlen : (rs.set i r').length = rs.length := List.length_set
  refine ⟨h.keeps.only ho fun k hk hK => ?_, fun j q hj => ?_, fun j hj k hk => ?_, fun a c ha hc hne k hk hk2 => ?_⟩
  · have := h.new i hil k hk
    have : k < w.heap.size := hK
    omega
  · by_cases e : j = i
    · subst e
      rw [List.getElem?_set_self hil] at hj
      cases hj
      rw [upd_same]
      exact hr
    · rw [List.getElem?_set_ne (fun h => e h.symm)] at hj
      rw [upd_other _ _ e]
      exact q.kept _ _ _ (h.at_ j q hj) ho.size fun k hk => ho.block k (h.lt (idx_lt hj) k hk) (h.apart j i (idx_lt hj) hil e k hk)
  · rw [hlen] at hj
    by_cases e : j = i
    · subst e
      rw [upd_same] at hk
      rcases hs k hk with h1 | h1
      · exact h.new j hj k h1
      · exact Nat.le_trans h.keeps.size h1
    · rw [upd_other _ _ e] at hk
      exact h.new j hj k hk
  · rw [hlen] at ha hc
    by_cases e : a = i
    · subst e
      rw [upd_same] at hk
      rw [upd_other _ _ (fun h => hne h.symm)] at hk2
      rcases hs k hk with h1 | h1
      · exact h.apart a c ha hc hne k h1 hk2
      · have := h.lt hc k hk2; omega
    · rw [upd_other _ _ e] at hk
      by_cases e2 : c = i
      · subst e2
        rw [upd_same] at hk2
        rcases hs k hk2 with h1 | h1
        · exact h.apart a c ha hc hne k hk h1
        · have := h.lt ha k hk; omega
      · rw [upd_other _ _ e2] at hk2
        exact h.apart a c ha hc hne k hk hk2
theorem SysOn.push (h : SysOn w W rs S) {q : Res} {T : Nat → Prop} (hq : q.at_ T W) (hn : ∀ k, T k → w.heap.size ≤ k) (hd : ∀ i, i < rs.length → ∀ k, S i k → ¬ T k) : SysOn w W (rs ++ [q]) (upd S rs.length T) := by
  have hlen : (rs ++ [q]).length = rs.length + 1 := by simp
  refine ⟨h.keeps, fun j r hj => ?_, fun j hj k hk => ?_, fun a c ha hc hne k hk hk2 => ?_⟩
  · by_cases e : j = rs.length
    · subst e
      rw [List.getElem?_append_right (Nat.le_refl _), Nat.sub_self] at hj
      cases hj
      rw [upd_same]
      exact hq
    · have hjl := idx_lt hj
      rw [hlen] at hjl
      rw [List.getElem?_append_left (by omega)] at hj
      rw [upd_other _ _ e]
      exact h.at_ j r hj
  · rw [hlen] at hj
    by_cases e : j = rs.length
    · subst e
      rw [upd_same] at hk
      exact hn k hk
    · rw [upd_other _ _ e] at hk
      exact h.new j (by omega) k hk
  · rw [hlen] at ha hc
    by_cases e : a = rs.length
    · subst e
      rw [upd_same] at hk
      rw [upd_other _ _ (fun h => hne h.symm)] at hk2
      exact hd c (by omega) k hk2 hk
    · rw [upd_other _ _ e] at hk
      by_cases e2 : c = rs.length
      · subst e2
        rw [upd_same] at hk2
        exact hd a (by omega) k hk hk2
      · rw [upd_other _ _ e2] at hk2
        exact h.apart a c (by omega) (by omega) hne k hk hk2
theorem Sys.start (w : World) : Sys w w [] := ⟨fun _ _ => False, Keeps.start w, fun i r h => by simp at h, fun i h => by simp at h, fun i j h => by simp at h⟩
theorem Sys.keeps (h : Sys w W rs) : Keeps (All w) w W := by obtain ⟨S, h⟩ := h; exact h.keeps
theorem Sys.all (h : Sys w W rs) : Below w.heap.size w W := h.keeps.all
theorem Sys.below (h : Sys w W rs) {W' : World} (hb : Below W.heap.size W W') : Sys w W' rs := by
  obtain ⟨S, h⟩ := h
  exact ⟨S, h.below hb⟩
/-- One thing more, in blocks that are new. -/
theorem Sys.push (h : Sys w W rs) {W' : World} (hb : Below W.heap.size W W') {q : Res} {T : Nat → Prop} (hq : q.at_ T W') (hn : ∀ k, T k → W.heap.size ≤ k) : Sys w W' (rs ++ [q]) := by
  obtain ⟨S, h⟩ := h
  refine ⟨_, (h.below hb).push hq (fun k hk => Nat.le_trans h.keeps.size (hn k hk)) fun i hi k hk hT => ?_⟩
  have := h.lt hi k hk
  have := hn k hT
  omega
theorem Sys.take (h : Sys w W rs) (m : Nat) : Sys w W (rs.take m) := by
  obtain ⟨S, h⟩ := h
  have hlen : (rs.take m).length ≤ rs.length := by rw [List.length_take]; omega
  exact ⟨S, h.keeps, fun i r hi => h.at_ i r (by rw [List.getElem?_take] at hi; split at hi; exact hi; cases hi), fun i hi => h.new i (by omega), fun i j hi hj => h.apart i j (by omega) (by omega)⟩
/-- One thing turns. -/
theorem Sys.use (h : Sys w W rs) {i : Nat} {r : Res} (hi : rs[i]? = some r) : ∃ S, r.at_ S W ∧ (∀ k, S k → w.heap.size ≤ k) ∧ (∀ j q, j ≠ i → rs[j]? = some q → ∃ T, q.at_ T W ∧ ∀ k, T k → ¬ S k) ∧
    (∀ W' r' S', Only S W W' → r'.at_ S' W' → (∀ k, S' k → S k ∨ W.heap.size ≤ k) → Sys w W' (rs.set i r')) ∧
    ∀ W' r' S' q T, Only S W W' → r'.at_ S' W' → (∀ k, S' k → S k ∨ W.heap.size ≤ k) → q.at_ T W' → (∀ k, T k → W.heap.size ≤ k) → (∀ k, S' k → ¬ T k) → Sys w W' (rs.set i r' ++ [q]) := by
  obtain ⟨S, h⟩ := h
  have hil := idx_lt hi
  refine ⟨S i, h.at_ i r hi, h.new i hil, fun j q hj hq => ⟨S j, h.at_ j q hq, h.apart j i (idx_lt hq) hil hj⟩, fun W' r' S' ho hr hs => ⟨_, h.set hi ho hr hs⟩, fun W' r' S' q T ho hr hs hq hT hd => ?_⟩
  refine ⟨_, (h.set hi ho hr hs).push hq (fun k hk => Nat.le_trans h.keeps.size (hT k hk)) fun j hj k hk hTk => ?_⟩
  rw [List.length_set] at hj
  by_cases e : j = i
  · subst e
    rw [upd_same] at hk
    exact hd k hk hTk
  · rw [upd_other _ _ e] at hk
    have := h.lt hj k hk
    have := hT k hTk
    omega
end
/-! Things that are read only. -/
def memR (own : Nat → Prop) (p : World → Prop) (hp : ∀ W W', p W → (∀ k, own k → W'.heap[k]? = W.heap[k]?) → p W') : Res where
  at_ S W := (∀ k, S k ↔ own k) ∧ (∀ k, S k → k < W.heap.size) ∧ p W
  lt S W h := h.2.1
  kept S W W' h hs hb := ⟨h.1, fun k hk => Nat.lt_of_lt_of_le (h.2.1 k hk) hs, hp W W' h.2.2 fun k hk => hb k ((h.1 k).2 hk)⟩
section
variable {w W : World} {rs : List Res} {own : Nat → Prop} {p : World → Prop} {hp : ∀ W W', p W → (∀ k, own k → W'.heap[k]? = W.heap[k]?) → p W'}
theorem Sys.mem (h : Sys w W rs) {i : Nat} (hi : rs[i]? = some (memR own p hp)) : p W := by
  obtain ⟨S, h1, _⟩ := h.use hi
  exact h1.2.2
theorem Sys.addMem (h : Sys w W rs) {W' : World} (hb : Below W.heap.size W W') (hp' : p W') (hn : ∀ k, own k → W.heap.size ≤ k ∧ k < W'.heap.size) : Sys w W' (rs ++ [memR own p hp]) :=
  h.push hb (T := own) ⟨fun k => Iff.rfl, fun k hk => (hn k hk).2, hp'⟩ fun k hk => (hn k hk).1
end
/-- A device. -/
def devR (b : Nat) (M : Dv) : Res := ⟨fun S W => DevAt S W b M, fun S W h => h.lt, fun S W W' h => h.kept⟩
/-- A journal. -/
def jourR (jb b F n rec : Nat) : Res := memR (fun k => k = jb) (fun W => JAt W jb b F n rec) fun W W' h hb => h.kept (hb jb rfl)
/-- A device that is used, beside other things. -/
theorem Sys.dev {w W : World} {rs : List Res} (h : Sys w W rs) {i b : Nat} {M : Dv} (hi : rs[i]? = some (devR b M)) :
    ∃ K, Held K W W b M ∧ (∀ k, k < w.heap.size → K k) ∧ (∀ j own p hp, j ≠ i → rs[j]? = some (memR own p hp) → p W ∧ ∀ k, own k → K k) ∧ (∀ W' N, Held K W W' b N → Sys w W' (rs.set i (devR b N))) ∧
      ∀ W' N q jb, Keeps K W W' → Held (fun k => K k ∨ k = jb) W' W' b N → q.at_ (fun k => k = jb) W' → W.heap.size ≤ jb → Sys w W' (rs.set i (devR b N) ++ [q]) := by
  obtain ⟨S, h1, h2, h3, h4, h5⟩ := h.use hi
  have h1' : DevAt S W b M := h1
  have hon : ∀ W', Keeps (fun k => k < W.heap.size ∧ ¬ S k) W W' → Only S W W' := fun W' hk => ⟨hk.os, hk.tape, hk.output, hk.size, fun k hkl hS => hk.same k ⟨hkl, hS⟩⟩
  have hsub : ∀ S' : Nat → Prop, (∀ k, S' k → ¬ (k < W.heap.size ∧ ¬ S k)) → ∀ k, S' k → S k ∨ W.heap.size ≤ k := fun S' hh k hk => by
    by_cases e : S k
    · exact .inl e
    · exact .inr (Nat.le_of_not_lt fun hlt => hh k hk ⟨hlt, e⟩)
  refine ⟨fun k => k < W.heap.size ∧ ¬ S k, ⟨.refl fun k hk => hk.1, S, h1', fun k hk hK => hK.2 hk⟩, fun k hk => ⟨Nat.lt_of_lt_of_le hk h.keeps.size, fun hS => by have := h2 k hS; omega⟩, fun j own p hp hj hq => ?_, fun W' N hH => ?_, fun W' N q jb hk hH hq hjb => ?_⟩
  · obtain ⟨T, hT, hd⟩ := h3 j _ hj hq
    exact ⟨hT.2.2, fun k hk => ⟨hT.2.1 k ((hT.1 k).2 hk), hd k ((hT.1 k).2 hk)⟩⟩
  · obtain ⟨hk, S', hS', hn⟩ := hH
    exact h4 W' (devR b N) S' (hon W' hk) hS' (hsub S' hn)
  · obtain ⟨_, S', hS', hn⟩ := hH
    exact h5 W' (devR b N) S' q _ (hon W' hk) hS' (hsub S' fun k hkS hK => hn k hkS (.inl hK)) hq (fun k hk => by rw [hk]; exact hjb) fun k hkS hkj => hn k hkS (.inr hkj)
end Go.Proofs.YthgdkpkhnhjifaaGreat
