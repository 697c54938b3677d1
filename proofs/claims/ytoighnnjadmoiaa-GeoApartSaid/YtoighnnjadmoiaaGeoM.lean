/- Where things lie on a disk: plain mathematics, no program. -/
import Derived.Test.YtoighnnjadmoiaaOctM
namespace Go.Proofs.Ytoighnnjadmoiaa
/-- A geometry: inodes, blocks, sectors of journal. -/
structure Gm where
  i : Nat
  b : Nat
  j : Nat
deriving DecidableEq
/-- A geometry that may be. -/
def Gm.ok (G : Gm) : Prop := (2 ≤ G.i ∧ G.i ≤ 256) ∧ (8 ≤ G.b ∧ G.b ≤ 1024) ∧ (40 ≤ G.j ∧ G.j ≤ 256)
instance (G : Gm) : Decidable G.ok := by unfold Gm.ok; exact inferInstance
/-- How many sectors part p has. -/
def Gm.cnt (G : Gm) : Nat → Nat
  | 0 => 1
  | 1 => G.j
  | 2 => (G.i + 512) / 512
  | 3 => (G.b + 512) / 512
  | 4 => (G.i + 1) / 2
  | 5 => G.b
  | _ => 0
/-- Where part p begins. -/
def Gm.off (G : Gm) : Nat → Nat
  | 0 => 0
  | p + 1 => G.off p + G.cnt p
theorem Gm.off_succ (G : Gm) (p : Nat) : G.off (p + 1) = G.off p + G.cnt p := rfl
theorem Gm.cnt_pos {G : Gm} (h : G.ok) (p : Nat) (hp : p < 6) : 1 ≤ G.cnt p := by
  unfold Gm.ok at h
  match p, hp with
  | 0, _ | 1, _ | 2, _ | 3, _ | 4, _ | 5, _ => simp only [Gm.cnt]; omega
theorem Gm.cnt_le {G : Gm} (h : G.ok) (p : Nat) : G.cnt p ≤ 1024 := by
  unfold Gm.ok at h
  match p with
  | 0 | 1 | 2 | 3 | 4 | 5 => simp only [Gm.cnt]; omega
  | p + 6 => simp [Gm.cnt]
theorem Gm.off_mono (G : Gm) {p q : Nat} (h : p ≤ q) : G.off p ≤ G.off q := by
  induction q with
  | zero => have : p = 0 := by omega
            subst this; exact Nat.le_refl _
  | succ q ih =>
    rcases Nat.lt_or_ge p (q + 1) with h1 | h1
    · exact Nat.le_trans (ih (by omega)) (by rw [Gm.off_succ]; omega)
    · have : p = q + 1 := by omega
      subst this; exact Nat.le_refl _
theorem Gm.off_le {G : Gm} (h : G.ok) (p : Nat) (hp : p ≤ 6) : G.off p ≤ 1024 * p := by
  induction p with
  | zero => simp [Gm.off]
  | succ p ih =>
    have := ih (by omega)
    have := G.cnt_le h p
    rw [Gm.off_succ]; omega
/-- The disk's sectors. -/
abbrev Gm.all (G : Gm) : Nat := G.off 6
/-- The part that has sector x: the first one that ends behind it. -/
def Gm.part (G : Gm) (x : Nat) : Nat → Nat → Nat
  | 0, p => p
  | n + 1, p => if x < G.off (p + 1) then p else G.part x n (p + 1)
theorem Gm.part_unique (G : Gm) {x p q : Nat} (h1 : G.off p ≤ x) (h2 : x < G.off (p + 1)) (h3 : G.off q ≤ x) (h4 : x < G.off (q + 1)) : p = q := by
  rcases Nat.lt_trichotomy p q with h | h | h
  · have := G.off_mono (show p + 1 ≤ q by omega); omega
  · exact h
  · have := G.off_mono (show q + 1 ≤ p by omega); omega
theorem Gm.part_at (G : Gm) {x : Nat} (k : Nat) (hx : x < G.off k) : ∃ p, p < k ∧ G.off p ≤ x ∧ x < G.off (p + 1) := by
  induction k with
  | zero => simp [Gm.off] at hx
  | succ k ih =>
    by_cases h : x < G.off k
    · obtain ⟨p, h1, h2, h3⟩ := ih h
      exact ⟨p, by omega, h2, h3⟩
    · exact ⟨k, by omega, by omega, hx⟩
/-- The text that a superblock begins with. -/
def labelL : List UInt8 := [108, 117, 110, 101, 116, 116, 101, 49]
/-- The superblock. -/
def superL (G : Gm) : List UInt8 := labelL ++ leB 4 G.i ++ leB 4 G.b ++ leB 4 G.j ++ List.replicate 44 0
theorem superL_length (G : Gm) : (superL G).length = 64 := by simp [superL, labelL, leB_length]
/-- The numbers of a text where they stand. -/
def gotL (l : List UInt8) : Gm := ⟨leV ((l.drop 8).take 4), leV ((l.drop 12).take 4), leV ((l.drop 16).take 4)⟩
theorem gotL_super {G : Gm} (h : G.ok) : gotL (superL G) = G := by
  unfold Gm.ok at h
  have e1 : ((superL G).drop 8).take 4 = leB 4 G.i := by
    have : superL G = labelL ++ (leB 4 G.i ++ (leB 4 G.b ++ leB 4 G.j ++ List.replicate 44 0)) := by simp [superL, List.append_assoc]
    rw [this, List.drop_append_of_le_length (by simp [labelL])]
    rw [show labelL.drop 8 = [] from rfl, List.nil_append, List.take_left' (leB_length _ _)]
  have e2 : ((superL G).drop 12).take 4 = leB 4 G.b := by
    have : superL G = (labelL ++ leB 4 G.i) ++ (leB 4 G.b ++ (leB 4 G.j ++ List.replicate 44 0)) := by simp [superL, List.append_assoc]
    rw [this, List.drop_left' (by simp [labelL, leB_length]), List.take_left' (leB_length _ _)]
  have e3 : ((superL G).drop 16).take 4 = leB 4 G.j := by
    have : superL G = (labelL ++ leB 4 G.i ++ leB 4 G.b) ++ (leB 4 G.j ++ List.replicate 44 0) := by simp [superL, List.append_assoc]
    rw [this, List.drop_left' (by simp [labelL, leB_length]), List.take_left' (leB_length _ _)]
  unfold gotL
  rw [e1, e2, e3, leV_leB _ _ (by omega), leV_leB _ _ (by omega), leV_leB _ _ (by omega)]
theorem superL_inj {G H : Gm} (h : G.ok) (k : H.ok) (e : superL G = superL H) : G = H := by
  rw [← gotL_super h, ← gotL_super k, e]
/-- Which geometry's superblock a text is. -/
def readL (l : List UInt8) : Option Gm := if (gotL l).ok ∧ superL (gotL l) = l then some (gotL l) else none
theorem readL_super {G : Gm} (h : G.ok) : readL (superL G) = some G := by
  unfold readL
  rw [gotL_super h, if_pos ⟨h, rfl⟩]
theorem readL_some {l : List UInt8} {G : Gm} (h : readL l = some G) : G.ok ∧ superL G = l ∧ G = gotL l := by
  unfold readL at h
  split at h
  · rename_i hc
    injection h with h
    subst h
    exact ⟨hc.1, hc.2, rfl⟩
  · cases h
theorem readL_none {l : List UInt8} (h : ∀ G : Gm, G.ok → superL G ≠ l) : readL l = none := by
  unfold readL
  rw [if_neg]
  exact fun hc => h _ hc.1 hc.2
theorem readL_short {l : List UInt8} (h : l.length ≠ 64) : readL l = none :=
  readL_none fun G _ e => h (by rw [← e, superL_length])
end Go.Proofs.Ytoighnnjadmoiaa
