/- Layer 11 (image): as many blocks are taken as the inodes have: plain mathematics. -/
import Derived.Test.YtnfiapjdkjbdhaaGreatImg28
namespace Go.Proofs.YtnfiapjdkjbdhaaGreat
open Go.RowKit Go.Maps Go.Lib
set_option linter.unusedVariables false
set_option linter.unusedSimpArgs false
set_option maxRecDepth 10000
theorem nodup_subI : ∀ (l own : List Nat), l.Nodup → (∀ x ∈ l, x ∈ own) → l.length ≤ own.length
  | [], _, _, _ => Nat.zero_le _
  | a :: l, own, hn, hs => by
    have ha := hs a (List.mem_cons_self ..)
    have hl := nodup_subI l (own.erase a) (List.nodup_cons.1 hn).2 fun x hx => (List.mem_erase_of_ne (fun e => (List.nodup_cons.1 hn).1 (by rw [e] at hx; exact hx))).2 (hs x (List.mem_cons_of_mem _ hx))
    have := List.length_erase_of_mem ha
    have := List.length_pos_of_mem ha
    simp only [List.length_cons]
    omega
/-- The blocks of the first n inodes. -/
def ownsL (G : Gm) (v : Nat → List UInt8) (tab : Nat → Im) : Nat → List Nat
  | 0 => []
  | n + 1 => ownsL G v tab n ++ ownV G v (tab (n + 1))
section
variable {G : Gm} {v : Nat → List UInt8} {tab : Nat → Im} {E : List Nat}
theorem ownsL_mem (n : Nat) (c : Nat) : c ∈ ownsL G v tab n ↔ ∃ j, 1 ≤ j ∧ j ≤ n ∧ c ∈ ownV G v (tab j) := by
  induction n with
  | zero => simp [ownsL]; omega
  | succ n ih =>
    unfold ownsL
    rw [List.mem_append, ih]
    constructor
    · rintro (⟨j, h1, h2, h3⟩ | h)
      · exact ⟨j, h1, by omega, h3⟩
      · exact ⟨n + 1, by omega, Nat.le_refl _, h⟩
    · rintro ⟨j, h1, h2, h3⟩
      by_cases e : j = n + 1
      · subst e; exact .inr h3
      · exact .inl ⟨j, h1, by omega, h3⟩
theorem ownsL_nodup (h : Own G v tab E) : ∀ n, n ≤ G.i → (ownsL G v tab n).Nodup
  | 0, _ => List.nodup_nil
  | n + 1, hn => by
    unfold ownsL
    refine List.nodup_append.2 ⟨ownsL_nodup h n (by omega), h.nd _ ⟨by omega, hn⟩, fun a ha b hb e => ?_⟩
    subst e
    obtain ⟨j, h1, h2, h3⟩ := (ownsL_mem n a).1 ha
    exact h.apart j (n + 1) ⟨h1, by omega⟩ ⟨by omega, hn⟩ (by omega) a h3 hb
/-- A block of the next inode is no one's yet. -/
theorem ownsL_new (h : Own G v tab E) {n k c : Nat} (hn : n + 1 ≤ G.i) (hc : (ownV G v (tab (n + 1)))[k]? = some c) : c ∉ ownsL G v tab n ++ (ownV G v (tab (n + 1))).take k := by
  intro hm
  have hnd := h.nd (n + 1) ⟨by omega, hn⟩
  rcases List.mem_append.1 hm with hm | hm
  · obtain ⟨j, h1, h2, h3⟩ := (ownsL_mem n c).1 hm
    exact h.apart j (n + 1) ⟨h1, by omega⟩ ⟨by omega, hn⟩ (by omega) c h3 (List.mem_of_getElem? hc)
  · obtain ⟨i, hi, he⟩ := List.mem_iff_getElem.1 hm
    rw [List.length_take] at hi
    rw [List.getElem_take] at he
    obtain ⟨hk, hke⟩ := List.getElem?_eq_some_iff.1 hc
    exact List.pairwise_iff_getElem.1 hnd i k (by omega) hk (by omega) (he.trans hke.symm)
theorem count_filter (l : List UInt8) (n : Nat) : Bits.countL l (n + 1) = Bits.countL l 1 + ((List.range' 1 n).filter fun c => Bits.bitL l c).length := by
  induction n with
  | zero => simp
  | succ n ih =>
    have hs : Bits.countL l (n + 1 + 1) = Bits.countL l (n + 1) + if Bits.bitL l (n + 1) = true then 1 else 0 := rfl
    rw [hs, ih, List.range'_1_concat, List.filter_append, List.length_append]
    have : 1 + n = n + 1 := by omega
    rw [this]
    clear hs ih
    cases hb : Bits.bitL l (n + 1) with
    | false => simp [hb]
    | true => simp [hb]; omega
theorem owns_count (h : Own G v tab []) : ((ownsL G v tab G.i).length : Int) = (G.b : Int) - leftV (v (G.off 3)) G.b := by
  have hc := count_filter (v (G.off 3)) G.b
  have hm : ∀ c, c ∈ (List.range' 1 G.b).filter (fun c => Bits.bitL (v (G.off 3)) c) ↔ c ∈ ownsL G v tab G.i := fun c => by
    rw [List.mem_filter, List.mem_range'_1, ownsL_mem]
    constructor
    · rintro ⟨h1, h2⟩
      rcases (h.bit c ⟨h1.1, by omega⟩).1 h2 with e | ⟨j, hj, e⟩
      · cases e
      · exact ⟨j, hj.1, hj.2, e⟩
    · rintro ⟨j, h1, h2, h3⟩
      have hb := (h.ino j ⟨h1, h2⟩).own h3
      exact ⟨⟨hb.1, by have := hb.2; omega⟩, (h.bit c hb).2 (.inr ⟨j, ⟨h1, h2⟩, h3⟩)⟩
  have h1 := nodup_subI _ _ (ownsL_nodup h G.i (Nat.le_refl _)) fun x hx => (hm x).2 hx
  have h2 := nodup_subI _ _ (List.Pairwise.filter (fun c => Bits.bitL (v (G.off 3)) c) (List.nodup_range' (s := 1) (n := G.b))) fun x hx => (hm x).1 hx
  unfold leftV
  omega
end
end Go.Proofs.YtnfiapjdkjbdhaaGreat
