/- Layer 8 (tx): what was written, as mathematics: pairs of a sector and its contents, by sectors rising. -/
import Derived.Test.YthgdkpkhnhjifaaGreatM17
namespace Go.Proofs.YthgdkpkhnhjifaaGreat
open Go.RowKit Go.Maps
set_option linter.unusedVariables false
set_option linter.unusedSimpArgs false
set_option maxRecDepth 10000
/-- By sectors rising. -/
def asc (L : PutL) : Prop := (L.map (·.1)).Pairwise (· < ·)
/-- What was written to a sector. -/
def look : PutL → Nat → Option (List UInt8)
  | [], _ => none
  | p :: r, i => if p.1 = i then some p.2 else look r i
/-- One write more. -/
def ins : PutL → Nat → List UInt8 → PutL
  | [], i, d => [(i, d)]
  | p :: r, i, d => if p.1 < i then p :: ins r i d else if p.1 = i then (i, d) :: r else (i, d) :: p :: r
/-- How many sectors below i were written. -/
def place : PutL → Nat → Nat
  | [], _ => 0
  | p :: r, i => if p.1 < i then place r i + 1 else 0
theorem asc_nil : asc [] := List.Pairwise.nil
theorem asc_cons {p : Nat × List UInt8} {r : PutL} : asc (p :: r) ↔ (∀ q ∈ r, p.1 < q.1) ∧ asc r := by
  unfold asc
  rw [List.map_cons, List.pairwise_cons]
  constructor
  · rintro ⟨h1, h2⟩
    exact ⟨fun q hq => h1 _ (List.mem_map_of_mem hq), h2⟩
  · rintro ⟨h1, h2⟩
    refine ⟨fun a ha => ?_, h2⟩
    obtain ⟨q, hq, rfl⟩ := List.mem_map.1 ha
    exact h1 q hq
theorem look_none {L : PutL} {i : Nat} (h : ∀ p ∈ L, p.1 ≠ i) : look L i = none := by
  induction L with
  | nil => rfl
  | cons p r ih =>
    unfold look
    rw [if_neg (h p (by simp)), ih fun q hq => h q (by simp [hq])]
theorem look_mem {L : PutL} {i : Nat} {d : List UInt8} (h : look L i = some d) : (i, d) ∈ L := by
  induction L with
  | nil => cases h
  | cons p r ih =>
    unfold look at h
    split at h
    · rename_i e
      cases h
      subst e
      simp
    · exact List.mem_cons_of_mem _ (ih h)
theorem look_of {L : PutL} (hL : asc L) {p : Nat × List UInt8} (h : p ∈ L) : look L p.1 = some p.2 := by
  induction L with
  | nil => cases h
  | cons q r ih =>
    obtain ⟨h1, h2⟩ := asc_cons.1 hL
    unfold look
    rcases List.mem_cons.1 h with rfl | h
    · rw [if_pos rfl]
    · have := h1 p h
      rw [if_neg (by omega), ih h2 h]
theorem ins_mem {L : PutL} {i : Nat} {d : List UInt8} {p : Nat × List UInt8} (h : p ∈ ins L i d) : p = (i, d) ∨ p ∈ L := by
  induction L with
  | nil => exact .inl (List.mem_singleton.1 h)
  | cons q r ih =>
    unfold ins at h
    split at h
    · rcases List.mem_cons.1 h with rfl | h
      · exact .inr (by simp)
      · rcases ih h with h | h
        · exact .inl h
        · exact .inr (List.mem_cons_of_mem _ h)
    · split at h
      · rcases List.mem_cons.1 h with rfl | h
        · exact .inl rfl
        · exact .inr (List.mem_cons_of_mem _ h)
      · rcases List.mem_cons.1 h with rfl | h
        · exact .inl rfl
        · exact .inr h
theorem asc_ins {L : PutL} (hL : asc L) (i : Nat) (d : List UInt8) : asc (ins L i d) := by
  induction L with
  | nil => exact asc_cons.2 ⟨fun q hq => by simp at hq, asc_nil⟩
  | cons p r ih =>
    obtain ⟨h1, h2⟩ := asc_cons.1 hL
    unfold ins
    split
    · rename_i h
      refine asc_cons.2 ⟨fun q hq => ?_, ih h2⟩
      rcases ins_mem hq with rfl | hq
      · exact h
      · exact h1 q hq
    · split
      · rename_i h h3
        subst h3
        exact asc_cons.2 ⟨h1, h2⟩
      · refine asc_cons.2 ⟨fun q hq => ?_, hL⟩
        show i < q.1
        rcases List.mem_cons.1 hq with rfl | hq
        · omega
        · have := h1 q hq; omega
theorem look_ins (L : PutL) (i : Nat) (d : List UInt8) : look (ins L i d) = upd (look L) i (some d) := by
  funext j
  induction L with
  | nil =>
    unfold upd ins look look
    by_cases e : j = i
    · subst e; simp
    · rw [if_neg e, if_neg (fun h => e h.symm)]
  | cons p r ih =>
    unfold upd at ih ⊢
    unfold ins
    split
    · rename_i h
      unfold look
      rw [ih]
      by_cases e : j = i
      · subst e; rw [if_neg (by omega), if_pos rfl]; simp
      · rw [if_neg e, if_neg e]
    · split
      · rename_i h h3
        subst h3
        unfold look
        by_cases e : j = p.1
        · subst e; simp
        · rw [if_neg e, if_neg (fun h => e h.symm), if_neg (fun h => e h.symm)]
      · rename_i h h3
        show (if i = j then some d else look (p :: r) j) = _
        by_cases e : j = i
        · subst e; simp
        · rw [if_neg e, if_neg (fun h => e h.symm)]
theorem ins_length {L : PutL} (hL : asc L) (i : Nat) (d : List UInt8) : (ins L i d).length = if (look L i).isSome then L.length else L.length + 1 := by
  induction L with
  | nil => rfl
  | cons p r ih =>
    obtain ⟨h1, h2⟩ := asc_cons.1 hL
    unfold ins
    split
    · rename_i h
      have e : look (p :: r) i = look r i := by show (if p.1 = i then _ else _) = _; rw [if_neg (by omega)]
      rw [List.length_cons, ih h2, e, List.length_cons]
      split <;> rfl
    · split
      · rename_i h h3
        have : look (p :: r) i = some p.2 := by unfold look; rw [if_pos h3]
        rw [this]
        rfl
      · rename_i h h3
        have : look (p :: r) i = none := look_none fun q hq => by
          rcases List.mem_cons.1 hq with rfl | hq
          · exact h3
          · have := h1 q hq; omega
        rw [this]
        rfl
theorem place_le (L : PutL) (i : Nat) : place L i ≤ L.length := by
  induction L with
  | nil => exact Nat.le_refl _
  | cons p r ih =>
    unfold place
    split
    · simpa using ih
    · simp
/-- Below its place all sectors are less. -/
theorem place_lt (L : PutL) (i j : Nat) (hj : j < L.length) (h : j < place L i) : (L[j]).1 < i := by
  induction L generalizing j with
  | nil => simp at hj
  | cons p r ih =>
    unfold place at h
    split at h
    · rename_i hp
      cases j with
      | zero => exact hp
      | succ j => exact ih j (by simpa using hj) (by omega)
    · omega
theorem place_ge (L : PutL) (i : Nat) (h : place L i < L.length) : i ≤ (L[place L i]).1 := by
  induction L with
  | nil => simp at h
  | cons p r ih =>
    by_cases hp : p.1 < i
    · have e : place (p :: r) i = place r i + 1 := by show (if p.1 < i then _ else _) = _; rw [if_pos hp]
      have h' : place r i < r.length := by rw [e] at h; simpa using h
      have := ih h'
      simp only [e, List.getElem_cons_succ]
      exact this
    · have e : place (p :: r) i = 0 := by show (if p.1 < i then _ else _) = _; rw [if_neg hp]
      simp only [e, List.getElem_cons_zero]
      omega
/-- Whether it was written, by its place. -/
theorem look_place {L : PutL} (hL : asc L) (i : Nat) : look L i = if h : place L i < L.length then (if (L[place L i]).1 = i then some (L[place L i]).2 else none) else none := by
  induction L with
  | nil => rfl
  | cons p r ih =>
    obtain ⟨h1, h2⟩ := asc_cons.1 hL
    have ih := ih h2
    by_cases hp : p.1 < i
    · have e : place (p :: r) i = place r i + 1 := by show (if p.1 < i then _ else _) = _; rw [if_pos hp]
      have e2 : look (p :: r) i = look r i := by show (if p.1 = i then _ else _) = _; rw [if_neg (by omega)]
      rw [e2, ih]
      by_cases hl : place r i < r.length
      · rw [dif_pos hl, dif_pos (by rw [e]; simpa using hl)]
        simp only [e, List.getElem_cons_succ]
      · rw [dif_neg hl, dif_neg (by rw [e]; simpa using hl)]
    · have e : place (p :: r) i = 0 := by show (if p.1 < i then _ else _) = _; rw [if_neg hp]
      rw [dif_pos (by rw [e]; simp)]
      simp only [e, List.getElem_cons_zero]
      by_cases h3 : p.1 = i
      · rw [if_pos h3]; show (if p.1 = i then _ else _) = _; rw [if_pos h3]
      · rw [if_neg h3]
        exact look_none fun q hq => by
          rcases List.mem_cons.1 hq with rfl | hq
          · exact h3
          · have := h1 q hq; omega
theorem place_some {L : PutL} (hL : asc L) {i : Nat} {d : List UInt8} (h : look L i = some d) : ∃ hk : place L i < L.length, L[place L i] = (i, d) := by
  rw [look_place hL] at h
  split at h
  · rename_i hk
    split at h
    · rename_i e
      cases h
      exact ⟨hk, Prod.ext e rfl⟩
    · cases h
  · cases h
theorem place_none {L : PutL} (hL : asc L) {i : Nat} (h : look L i = none) (hk : place L i < L.length) : i < (L[place L i]).1 := by
  rw [look_place hL, dif_pos hk] at h
  have := place_ge L i hk
  split at h
  · cases h
  · omega
theorem ins_new {L : PutL} (hL : asc L) {i : Nat} (d : List UInt8) (h : look L i = none) : ins L i d = L.take (place L i) ++ (i, d) :: L.drop (place L i) := by
  induction L with
  | nil => rfl
  | cons p r ih =>
    obtain ⟨h1, h2⟩ := asc_cons.1 hL
    have hne : p.1 ≠ i := fun e => by unfold look at h; rw [if_pos e] at h; cases h
    have hr : look r i = none := by unfold look at h; rwa [if_neg hne] at h
    unfold ins place
    by_cases hp : p.1 < i
    · rw [if_pos hp, if_pos hp, ih h2 hr]; rfl
    · rw [if_neg hp, if_neg hp, if_neg hne]; rfl
theorem ins_old {L : PutL} (hL : asc L) {i : Nat} (d : List UInt8) (h : (look L i).isSome = true) : ins L i d = L.take (place L i) ++ (i, d) :: L.drop (place L i + 1) := by
  induction L with
  | nil => cases h
  | cons p r ih =>
    obtain ⟨h1, h2⟩ := asc_cons.1 hL
    unfold ins place
    by_cases hp : p.1 < i
    · have hr : look (p :: r) i = look r i := by show (if p.1 = i then _ else _) = _; rw [if_neg (by omega)]
      rw [hr] at h
      rw [if_pos hp, if_pos hp, ih h2 h]; rfl
    · have he : p.1 = i := by
        by_cases e : p.1 = i
        · exact e
        · have : look (p :: r) i = none := look_none fun q hq => by
            rcases List.mem_cons.1 hq with rfl | hq
            · exact e
            · have := h1 q hq; omega
          rw [this] at h; cases h
      rw [if_neg hp, if_neg hp, if_pos he]; rfl
theorem asc_nodup {L : PutL} (hL : asc L) : (L.map (·.1)).Nodup := by
  have := hL
  unfold asc at this
  exact List.nodup_iff_pairwise_ne.2 (this.imp fun h => by omega)
/-- What sectors are behind what was written. -/
theorem laid_look {L : PutL} (hL : asc L) (f : Nat → List UInt8) (i : Nat) : laid f L i = (look L i).getD (f i) := by
  cases h : look L i with
  | some d => exact laid_mem f L (asc_nodup hL) (i, d) (look_mem h)
  | none =>
    refine laid_out f L i fun hm => ?_
    obtain ⟨p, hp, rfl⟩ := List.mem_map.1 hm
    rw [look_of hL hp] at h
    cases h
theorem laid_ins {L : PutL} (hL : asc L) (f : Nat → List UInt8) (i : Nat) (d : List UInt8) : laid f (ins L i d) = upd (laid f L) i d := by
  funext j
  rw [laid_look (asc_ins hL i d), look_ins]
  unfold upd
  by_cases e : j = i
  · rw [if_pos e, if_pos e]; rfl
  · rw [if_neg e, if_neg e, laid_look hL]
/-- Two rising rows of the same numbers. -/
theorem asc_eq : ∀ {a b : List Nat}, a.Pairwise (· < ·) → b.Pairwise (· < ·) → (∀ x, x ∈ a ↔ x ∈ b) → a = b
  | [], [], _, _, _ => rfl
  | [], y :: s, _, _, h => by have := (h y).2 (by simp); simp at this
  | x :: r, [], _, _, h => by have := (h x).1 (by simp); simp at this
  | x :: r, y :: s, ha, hb, h => by
    obtain ⟨h1, h2⟩ := List.pairwise_cons.1 ha
    obtain ⟨h3, h4⟩ := List.pairwise_cons.1 hb
    have hxy : x = y := by
      have hx := (h x).1 (by simp)
      have hy := (h y).2 (by simp)
      rcases List.mem_cons.1 hx with e | e
      · exact e
      · rcases List.mem_cons.1 hy with e2 | e2
        · exact e2.symm
        · have := h3 x e; have := h1 y e2; omega
    subst hxy
    refine congrArg _ (asc_eq h2 h4 fun z => ⟨fun hz => ?_, fun hz => ?_⟩)
    · have hlt := h1 z hz
      rcases List.mem_cons.1 ((h z).1 (List.mem_cons_of_mem _ hz)) with e | e
      · omega
      · exact e
    · have hlt := h3 z hz
      rcases List.mem_cons.1 ((h z).2 (List.mem_cons_of_mem _ hz)) with e | e
      · omega
      · exact e
/-- Which sectors were written, among those below n. -/
theorem keys_look {L : PutL} (hL : asc L) {n : Nat} (hn : ∀ p ∈ L, p.1 < n) (f : Nat → Option Value) (hf : ∀ i, (f i).isSome = (look L i).isSome) : keysOf n f = L.map (·.1) := by
  refine asc_eq ((List.pairwise_lt_range).filter _) hL fun x => ?_
  unfold keysOf
  rw [List.mem_filter, List.mem_range, hf, List.mem_map]
  constructor
  · rintro ⟨h1, h2⟩
    obtain ⟨d, hd⟩ := Option.isSome_iff_exists.1 h2
    exact ⟨_, look_mem hd, rfl⟩
  · rintro ⟨p, hp, rfl⟩
    exact ⟨hn p hp, by rw [look_of hL hp]; rfl⟩
theorem ok_ins {L : PutL} {n i : Nat} {d : List UInt8} (h : PutsOk n L) (hi : i < n) (hd : d.length = 64) : PutsOk n (ins L i d) := by
  intro p hp
  rcases ins_mem hp with rfl | hp
  · exact ⟨hi, hd⟩
  · exact h p hp
end Go.Proofs.YthgdkpkhnhjifaaGreat
