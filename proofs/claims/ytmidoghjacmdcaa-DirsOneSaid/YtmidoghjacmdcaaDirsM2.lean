/- Layer 10 (dirs): what each function answers; plain mathematics. -/
import Derived.Test.YtmidoghjacmdcaaDirsM
namespace Go.Proofs.Ytmidoghjacmdcaa
set_option linter.unusedVariables false
set_option linter.unusedSimpArgs false
set_option maxRecDepth 10000
/-- The slot that has a name. -/
def look (l : List En) (n : List UInt8) : Option Nat := if n = [] then none else l.findIdx? fun x => x.n == n
theorem look_hit {l : List En} {n : List UInt8} {k : Nat} {x : En} (hn : n ≠ []) (hk : l[k]? = some x) (hx : x.n = n) (hno : ∀ j y, j < k → l[j]? = some y → y.n ≠ n) : look l n = some k := by
  unfold look
  rw [if_neg hn, List.findIdx?_eq_some_iff_getElem]
  obtain ⟨h1, h2⟩ := List.getElem?_eq_some_iff.1 hk
  refine ⟨h1, by rw [h2, hx]; simp, fun j hj => ?_⟩
  have := hno j l[j] hj (List.getElem?_eq_getElem _)
  simpa using this
theorem look_miss {l : List En} {n : List UInt8} (h : n = [] ∨ ∀ y ∈ l, y.n ≠ n) : look l n = none := by
  unfold look
  split
  · rfl
  · rename_i hn
    rw [List.findIdx?_eq_none_iff]
    intro y hy
    simpa using h.resolve_left hn y hy
theorem look_some {l : List En} {n : List UInt8} {k : Nat} (h : look l n = some k) : n ≠ [] ∧ ∃ x, l[k]? = some x ∧ x.n = n ∧ ∀ j y, j < k → l[j]? = some y → y.n ≠ n := by
  unfold look at h
  split at h
  · cases h
  · rename_i hn
    rw [List.findIdx?_eq_some_iff_getElem] at h
    obtain ⟨h1, h2, h3⟩ := h
    refine ⟨hn, l[k], List.getElem?_eq_getElem h1, by simpa using h2, fun j y hj hy => ?_⟩
    have := h3 j hj
    obtain ⟨h4, rfl⟩ := List.getElem?_eq_some_iff.1 hy
    simpa using this
theorem look_none {l : List En} {n : List UInt8} (h : look l n = none) : n = [] ∨ ∀ y ∈ l, y.n ≠ n := by
  unfold look at h
  split at h
  · rename_i hn; exact .inl hn
  · rw [List.findIdx?_eq_none_iff] at h
    exact .inr fun y hy => by simpa using h y hy
theorem look_lt {l : List En} {n : List UInt8} {k : Nat} (h : look l n = some k) : k < l.length := by
  obtain ⟨_, x, h1, _⟩ := look_some h
  exact (List.getElem?_eq_some_iff.1 h1).1
theorem look_pad {l : List En} {n : List UInt8} (m : Nat) : look (l ++ List.replicate m En.free) n = look l n := by
  cases h : look l n with
  | some k =>
    obtain ⟨hn, x, h1, h2, h3⟩ := look_some h
    have hk := (List.getElem?_eq_some_iff.1 h1).1
    refine look_hit hn (by rw [List.getElem?_append_left hk]; exact h1) h2 fun j y hj hy => h3 j y hj ?_
    rwa [List.getElem?_append_left (by omega)] at hy
  | none =>
    refine look_miss ?_
    rcases look_none h with e | e
    · exact .inl e
    · by_cases hn : n = []
      · exact .inl hn
      · refine .inr fun y hy => ?_
        rcases List.mem_append.1 hy with h4 | h4
        · exact e y h4
        · rw [(List.mem_replicate.1 h4).2]
          exact fun h5 => hn h5.symm
/-- The first free slot. -/
def gap (l : List En) : Option Nat := l.findIdx? fun x => x == En.free
theorem gap_hit {l : List En} {k : Nat} (hk : l[k]? = some En.free) (hno : ∀ j y, j < k → l[j]? = some y → y ≠ En.free) : gap l = some k := by
  unfold gap
  rw [List.findIdx?_eq_some_iff_getElem]
  obtain ⟨h1, h2⟩ := List.getElem?_eq_some_iff.1 hk
  refine ⟨h1, by rw [h2]; simp, fun j hj => ?_⟩
  have := hno j l[j] hj (List.getElem?_eq_getElem _)
  simpa using this
theorem gap_miss {l : List En} (h : ∀ y ∈ l, y ≠ En.free) : gap l = none := by
  unfold gap
  rw [List.findIdx?_eq_none_iff]
  intro y hy
  simpa using h y hy
theorem gap_some {l : List En} {k : Nat} (h : gap l = some k) : l[k]? = some En.free ∧ ∀ j y, j < k → l[j]? = some y → y ≠ En.free := by
  unfold gap at h
  rw [List.findIdx?_eq_some_iff_getElem] at h
  obtain ⟨h1, h2, h3⟩ := h
  have h2 : l[k] = En.free := by simpa using h2
  refine ⟨by rw [List.getElem?_eq_getElem h1, h2], fun j y hj hy => ?_⟩
  have := h3 j hj
  obtain ⟨h4, rfl⟩ := List.getElem?_eq_some_iff.1 hy
  simpa using this
theorem gap_none {l : List En} (h : gap l = none) : ∀ y ∈ l, y ≠ En.free := by
  unfold gap at h
  rw [List.findIdx?_eq_none_iff] at h
  intro y hy
  simpa using h y hy
theorem gap_lt {l : List En} {k : Nat} (h : gap l = some k) : k < l.length := (List.getElem?_eq_some_iff.1 (gap_some h).1).1
/-- The first free slot of 72. -/
theorem gap_pad {l : List En} (hl : l.length ≤ 72) : gap (pad72 l) = match gap l with | some k => some k | none => if l.length < 72 then some l.length else none := by
  cases h : gap l with
  | some k =>
    obtain ⟨h1, h2⟩ := gap_some h
    have hk := gap_lt h
    refine gap_hit (by unfold pad72; rw [List.getElem?_append_left hk]; exact h1) fun j y hj hy => h2 j y hj ?_
    unfold pad72 at hy
    rwa [List.getElem?_append_left (by omega)] at hy
  | none =>
    have h1 := gap_none h
    simp only
    by_cases hlt : l.length < 72
    · rw [if_pos hlt]
      refine gap_hit ?_ fun j y hj hy => ?_
      · unfold pad72
        rw [List.getElem?_append_right (Nat.le_refl _), Nat.sub_self, List.getElem?_replicate, if_pos (by omega)]
      · unfold pad72 at hy
        rw [List.getElem?_append_left hj] at hy
        exact h1 y (List.mem_of_getElem? hy)
    · rw [if_neg hlt]
      refine gap_miss ?_
      have : 72 - l.length = 0 := by omega
      unfold pad72
      rw [this]
      simpa using h1
/-- A text with another slot. -/
def chg (s : List UInt8) (k : Nat) (p : List UInt8) : List UInt8 := s.take (32 * k) ++ p ++ s.drop (32 * k + 32)
def fIno (l : List En) (n : List UInt8) : Nat := match look l n with | some k => (l.getD k En.free).i | none => 0
def fAt (l : List En) (n : List UInt8) : Nat := match look l n with | some k => k | none => 0
def fIs (l : List En) (n : List UInt8) : Bool := (look l n).isSome
theorem fIno_some {l : List En} {n : List UInt8} {k : Nat} {x : En} (h : look l n = some k) (hx : l[k]? = some x) : fIno l n = x.i := by
  unfold fIno; rw [h]; simp only [List.getD_eq_getElem?_getD, hx]; rfl
theorem fIno_none {l : List En} {n : List UInt8} (h : look l n = none) : fIno l n = 0 := by unfold fIno; rw [h]
theorem fAt_some {l : List En} {n : List UInt8} {k : Nat} (h : look l n = some k) : fAt l n = k := by unfold fAt; rw [h]
theorem fAt_none {l : List En} {n : List UInt8} (h : look l n = none) : fAt l n = 0 := by unfold fAt; rw [h]
theorem fIs_some {l : List En} {n : List UInt8} {k : Nat} (h : look l n = some k) : fIs l n = true := by unfold fIs; rw [h]; rfl
theorem fIs_none {l : List En} {n : List UInt8} (h : look l n = none) : fIs l n = false := by unfold fIs; rw [h]; rfl
/-- Add. -/
def addE (s : List UInt8) (x : En) : Nat :=
  if chk s ≠ 0 then chk s else if mayB x = false then 2 else if (look (ents s) x.n).isSome = true then 9 else if gap (ents s) = none ∧ 72 ≤ (ents s).length then 4 else 0
def addT (s : List UInt8) (x : En) : List UInt8 :=
  if addE s x ≠ 0 then [] else match gap (ents s) with | some k => chg s k (slotL x) | none => s ++ (slotL x ++ freeL)
/-- Set. -/
def setE (s : List UInt8) (x : En) : Nat := if chk s ≠ 0 then chk s else if x.i = 0 then 2 else if look (ents s) x.n = none then 3 else 0
def setT (s : List UInt8) (x : En) : List UInt8 := if setE s x ≠ 0 then [] else chg s (fAt (ents s) x.n) (slotL x)
/-- Del. -/
def delE (s n : List UInt8) : Nat := if chk s ≠ 0 then chk s else if look (ents s) n = none then 3 else 0
def delT (s n : List UInt8) : List UInt8 := if delE s n ≠ 0 then [] else chg s (fAt (ents s) n) freeL
def delI (s n : List UInt8) : Nat := if delE s n ≠ 0 then 0 else fIno (ents s) n
/-- Trim. -/
def trimT (s : List UInt8) : List UInt8 := if chk s ≠ 0 then [] else s.take (64 * (((bareL s).length + 63) / 64))
theorem add_bad {s : List UInt8} {x : En} (h : chk s ≠ 0) : addE s x = chk s ∧ addT s x = [] := by
  have h1 : addE s x = chk s := by unfold addE; rw [if_pos h]
  exact ⟨h1, by unfold addT; rw [if_pos (by rw [h1]; exact h)]⟩
theorem add_arg {s : List UInt8} {x : En} (h : chk s = 0) (hm : mayB x = false) : addE s x = 2 ∧ addT s x = [] := by
  have h1 : addE s x = 2 := by unfold addE; rw [if_neg (by simp [h]), if_pos hm]
  exact ⟨h1, by unfold addT; rw [if_pos (by rw [h1]; decide)]⟩
theorem add_have {s : List UInt8} {x : En} {k : Nat} (h : chk s = 0) (hm : mayB x = true) (hl : look (ents s) x.n = some k) : addE s x = 9 ∧ addT s x = [] := by
  have h1 : addE s x = 9 := by unfold addE; rw [if_neg (by simp [h]), if_neg (by simp [hm]), if_pos (by rw [hl]; rfl)]
  exact ⟨h1, by unfold addT; rw [if_pos (by rw [h1]; decide)]⟩
theorem add_full {s : List UInt8} {x : En} (h : chk s = 0) (hm : mayB x = true) (hl : look (ents s) x.n = none) (hg : gap (ents s) = none) (h72 : 72 ≤ (ents s).length) : addE s x = 4 ∧ addT s x = [] := by
  have h1 : addE s x = 4 := by unfold addE; rw [if_neg (by simp [h]), if_neg (by simp [hm]), if_neg (by rw [hl]; simp), if_pos ⟨hg, h72⟩]
  exact ⟨h1, by unfold addT; rw [if_pos (by rw [h1]; decide)]⟩
theorem add_more {s : List UInt8} {x : En} (h : chk s = 0) (hm : mayB x = true) (hl : look (ents s) x.n = none) (hg : gap (ents s) = none) (h72 : (ents s).length < 72) : addE s x = 0 ∧ addT s x = s ++ (slotL x ++ freeL) := by
  have h1 : addE s x = 0 := by unfold addE; rw [if_neg (by simp [h]), if_neg (by simp [hm]), if_neg (by rw [hl]; simp), if_neg (by rintro ⟨_, h2⟩; omega)]
  exact ⟨h1, by unfold addT; rw [if_neg (by rw [h1]; decide), hg]⟩
theorem add_gap {s : List UInt8} {x : En} {k : Nat} (h : chk s = 0) (hm : mayB x = true) (hl : look (ents s) x.n = none) (hg : gap (ents s) = some k) : addE s x = 0 ∧ addT s x = chg s k (slotL x) := by
  have h1 : addE s x = 0 := by unfold addE; rw [if_neg (by simp [h]), if_neg (by simp [hm]), if_neg (by rw [hl]; simp), if_neg (by rintro ⟨h2, _⟩; rw [hg] at h2; cases h2)]
  exact ⟨h1, by unfold addT; rw [if_neg (by rw [h1]; decide), hg]⟩
theorem set_bad {s : List UInt8} {x : En} (h : chk s ≠ 0) : setE s x = chk s ∧ setT s x = [] := by
  have h1 : setE s x = chk s := by unfold setE; rw [if_pos h]
  exact ⟨h1, by unfold setT; rw [if_pos (by rw [h1]; exact h)]⟩
theorem set_arg {s : List UInt8} {x : En} (h : chk s = 0) (hi : x.i = 0) : setE s x = 2 ∧ setT s x = [] := by
  have h1 : setE s x = 2 := by unfold setE; rw [if_neg (by simp [h]), if_pos hi]
  exact ⟨h1, by unfold setT; rw [if_pos (by rw [h1]; decide)]⟩
theorem set_none {s : List UInt8} {x : En} (h : chk s = 0) (hi : x.i ≠ 0) (hl : look (ents s) x.n = none) : setE s x = 3 ∧ setT s x = [] := by
  have h1 : setE s x = 3 := by unfold setE; rw [if_neg (by simp [h]), if_neg hi, if_pos hl]
  exact ⟨h1, by unfold setT; rw [if_pos (by rw [h1]; decide)]⟩
theorem set_some {s : List UInt8} {x : En} {k : Nat} (h : chk s = 0) (hi : x.i ≠ 0) (hl : look (ents s) x.n = some k) : setE s x = 0 ∧ setT s x = chg s k (slotL x) := by
  have h1 : setE s x = 0 := by unfold setE; rw [if_neg (by simp [h]), if_neg hi, if_neg (by rw [hl]; simp)]
  exact ⟨h1, by unfold setT; rw [if_neg (by rw [h1]; decide), fAt_some hl]⟩
theorem del_bad {s n : List UInt8} (h : chk s ≠ 0) : delE s n = chk s ∧ delT s n = [] ∧ delI s n = 0 := by
  have h1 : delE s n = chk s := by unfold delE; rw [if_pos h]
  exact ⟨h1, by unfold delT; rw [if_pos (by rw [h1]; exact h)], by unfold delI; rw [if_pos (by rw [h1]; exact h)]⟩
theorem del_none {s n : List UInt8} (h : chk s = 0) (hl : look (ents s) n = none) : delE s n = 3 ∧ delT s n = [] ∧ delI s n = 0 := by
  have h1 : delE s n = 3 := by unfold delE; rw [if_neg (by simp [h]), if_pos hl]
  exact ⟨h1, by unfold delT; rw [if_pos (by rw [h1]; decide)], by unfold delI; rw [if_pos (by rw [h1]; decide)]⟩
theorem del_some {s n : List UInt8} {k : Nat} {x : En} (h : chk s = 0) (hl : look (ents s) n = some k) (hx : (ents s)[k]? = some x) : delE s n = 0 ∧ delT s n = chg s k freeL ∧ delI s n = x.i := by
  have h1 : delE s n = 0 := by unfold delE; rw [if_neg (by simp [h]), if_neg (by rw [hl]; simp)]
  exact ⟨h1, by unfold delT; rw [if_neg (by rw [h1]; decide), fAt_some hl], by unfold delI; rw [if_neg (by rw [h1]; decide), fIno_some hl hx]⟩
theorem trim_bad {s : List UInt8} (h : chk s ≠ 0) : trimT s = [] := if_pos h
theorem trim_ok {s : List UInt8} (h : chk s = 0) : trimT s = s.take (64 * (((bareL s).length + 63) / 64)) := if_neg (by simp [h])
/-- A directory's text and its entries. -/
theorem ents_len {s : List UInt8} (h : chk s = 0) : s.length = 32 * (ents s).length ∧ s.length ≤ 2304 ∧ (ents s).length % 2 = 0 := by
  obtain ⟨h1, h2⟩ := chk_dir h
  have h3 := h1.len
  rw [← h2] at h3
  have := h1.le
  exact ⟨h3, by omega, h1.even⟩
/-- List. -/
def lst (s : List UInt8) : List En := (ents s).filter fun x => x != En.free
end Go.Proofs.Ytmidoghjacmdcaa
