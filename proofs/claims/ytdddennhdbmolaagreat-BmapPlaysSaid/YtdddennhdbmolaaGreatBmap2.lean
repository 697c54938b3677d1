/- Layer 9 (bmap): which blocks are strange; what is asked of all. -/
import Derived.Test.YtdddennhdbmolaaGreatBmap1
import Derived.Deep.RegionHeld3
namespace Go.Proofs.YtdddennhdbmolaaGreat
open Go.RowKit Go.Lib
set_option linter.unusedVariables false
set_option linter.unusedSimpArgs false
set_option maxRecDepth 10000
/-- A geometry in a block of its own. -/
def GeoAt (W : World) (p : Nat) (i b j : Int) : Prop := W.heap[p]? = some (.cells #[.int .i64 i, .int .i64 b, .int .i64 j] 23 (0, 0))
theorem GeoAt.below {W W' : World} {p : Nat} {i b j : Int} (h : GeoAt W p i b j) (hb : Below W.heap.size W W') : GeoAt W' p i b j := (hb.block p (Array.getElem?_eq_some_iff.1 h).1).trans h
theorem GeoAt.lt {W : World} {p : Nat} {i b j : Int} (h : GeoAt W p i b j) : p < W.heap.size := (Array.getElem?_eq_some_iff.1 h).1
/-- Not 0, and no block of the geometry. -/
def oddB (i b j : Int) (n : Nat) : Bool := decide (n ≠ 0 ∧ (¬ mayI i b j ∨ b < (n : Int)))
instance (i b j : Int) : Decidable (mayI i b j) := by unfold mayI; infer_instance
theorem strange_any (p : Nat) (i b j : Int) (n : Nat) (hn : n < 65536) (w : World) (h : GeoAt w p i b j) :
    Calls Tryz.prog 44 #[w16 n, .pointer (some ⟨p, 0, none⟩)] w fun e w' => e = .returned (.bool (oddB i b j n)) ∧ Below w.heap.size w w' := by
  have c0 : w.cell? ⟨p, 0, none⟩ = some (.int .i64 i) := cell_of_row w p 0 _ 23 (0, 0) h
  have c1 : w.cell? ⟨p, 1, none⟩ = some (.int .i64 b) := cell_of_row w p 1 _ 23 (0, 0) h
  have c2 : w.cell? ⟨p, 2, none⟩ = some (.int .i64 j) := cell_of_row w p 2 _ 23 (0, 0) h
  have H := Lib.hid h
  by_cases hok : mayI i b j ∧ 1 ≤ n ∧ (n : Int) ≤ b
  · obtain ⟨hm, h1, h2⟩ := hok
    have ho : oddB i b j n = false := by unfold oddB; rw [decide_eq_false]; rintro ⟨-, h3 | h3⟩; exact h3 hm; omega
    obtain ⟨G, hG, rfl, rfl, rfl⟩ := mayI_gm hm
    have HB := Lib.hid fun W => block_ok G (n - 1) (n : Int) (by omega) W hG (by omega)
    rw [ho]
    have hne : ((n : Int) != 0) = true := by simp; omega
    clear ho hm h
    go_enter Tryz.func44, Tryz.ntmps44
    go_wp2_with fail
    refine (HB.out _).mono ?_
    rintro e w1 ⟨rfl, hb⟩
    go_wp2_with fail
    go_ret
    exact ⟨rfl, hb⟩
  · have ho : oddB i b j n = (n != 0) := by
      unfold oddB
      by_cases h0 : n = 0
      · subst h0; simp
      · rw [decide_eq_true]
        · simp [h0]
        · refine ⟨h0, ?_⟩
          by_cases hm : mayI i b j
          · exact .inr (Int.not_le.1 fun h => hok ⟨hm, Nat.pos_of_ne_zero h0, h⟩)
          · exact .inl hm
    have HB := Lib.hid fun W => block_bad i b j (n : Int) W (by
      by_cases hm : mayI i b j
      · rcases Nat.eq_zero_or_pos n with h0 | h0
        · right; omega
        · exact .inr (.inr (Int.not_le.1 fun h => hok ⟨hm, h0, h⟩))
      · exact .inl hm) (by omega) (by omega)
    rw [ho]
    have hne : ((n : Int) != 0) = (n != 0) := by rw [Bool.eq_iff_iff]; simp
    clear ho h hok
    cases hz : n != 0
    · rw [hz] at hne
      go_enter Tryz.func44, Tryz.ntmps44
      go_wp2_with fail
      refine (HB.out _).mono ?_
      rintro e w1 ⟨rfl, hb⟩
      go_wp2_with fail
      go_ret
      exact ⟨rfl, hb⟩
    · rw [hz] at hne
      go_enter Tryz.func44, Tryz.ntmps44
      go_wp2_with fail
      refine (HB.out _).mono ?_
      rintro e w1 ⟨rfl, hb⟩
      go_wp2_with fail
      go_ret
      exact ⟨rfl, hb⟩
/-- Where the first strange one stands. -/
theorem oddIndex_any (p : Nat) (i b j : Int) (l : List Nat) (v : Value) (w : World) (h : GeoAt w p i b j) (hv : U16s w v l) (hl : l.length ≤ 1000) (hn : ∀ n ∈ l, n < 65536) :
    Calls Tryz.prog 67 #[v, .func (.func 44) #[] #[.pointer (some ⟨p, 0, none⟩)]] w fun e w' => (∃ x : Int, e = .returned (.int .i64 x) ∧ decide (0 ≤ x) = l.any (oddB i b j)) ∧ Below w.heap.size w w' := by
  have HG := Lib.hid h
  obtain ⟨A, c, rfl, hc⟩ := hv
  have HC := Lib.hid hc
  have HN := Lib.hid hn
  clear h hc hn
  go_enter Tryz.func67, Tryz.ntmps67
  go_wp2_with fail
  go_loopw [5, 8] (fun _ i' wr => ∃ k : Nat, k ≤ l.length ∧ i' = .int .i64 k ∧ (l.take k).any (oddB i b j) = false ∧ Below w.heap.size w wr) (fun _ i' _ => l.length - (Go.RowKit.intOf i').toNat)
  case atStart => exact ⟨0, Nat.zero_le _, rfl, by simp, Below.refl _ _⟩
  case round =>
    obtain ⟨k, hk, rfl, hany, hb⟩ := hrel
    by_cases hlt : k < l.length
    · obtain ⟨n, hne⟩ : ∃ n, n = l[k] := ⟨_, rfl⟩
      obtain ⟨a, rfl, x0⟩ := HC.out k n (by rw [hne]; exact List.getElem?_eq_getElem hlt)
      have x1 := (hb.cell (World.block_lt_of_cell? w _ x0)).trans x0
      have HS := Lib.hid fun V (hV : Below wr.heap.size wr V) => strange_any p i b j n (by rw [hne]; exact HN.out _ (List.getElem_mem _)) V (((HG.out.below hb)).below hV)
      have htake : (l.take (k + 1)).any (oddB i b j) = oddB i b j n := by rw [List.take_succ_eq_append_getElem hlt, List.any_append, hany, ← hne]; simp
      have hmem : oddB i b j n = true → l.any (oddB i b j) = true := fun e => List.any_eq_true.2 ⟨n, by rw [hne]; exact List.getElem_mem _, e⟩
      have HT := Lib.hid htake
      have HM := Lib.hid hmem
      have HB := Lib.hid hb
      have hI : (k : Int) < (l.length : Int) := by omega
      clear htake hmem hb x0 hne hany
      generalize ho : oddB i b j n = q at *
      clear ho
      cases q
      · go_wp2_with fail
        refine (HS.out _ (Below.refl _ _)).mono ?_
        rintro e w1 ⟨rfl, hb1⟩
        have HB1 := Lib.hid (HB.out.trans (hb1.mono HB.out.size))
        clear hb1
        go_wp2_with fail
        go_roundw
        case rel => exact ⟨k + 1, by omega, by simp, HT.out, HB1.out⟩
        case measure => simp [Go.RowKit.intOf]; omega
      · go_wp2_with fail
        refine (HS.out _ (Below.refl _ _)).mono ?_
        rintro e w1 ⟨rfl, hb1⟩
        have HB1 := Lib.hid (HB.out.trans (hb1.mono HB.out.size))
        clear hb1
        go_wp2_with fail
        go_ret
        exact ⟨⟨_, rfl, by rw [HM.out trivial]; simp⟩, HB1.out⟩
    · obtain rfl : k = l.length := by omega
      rw [List.take_length] at hany
      have HA := Lib.hid hany
      have HB := Lib.hid hb
      clear hany hb
      go_wp2_with fail
      go_ret
      exact ⟨⟨_, rfl, by rw [HA.out]; decide⟩, HB.out⟩
theorem oddContains_any (p : Nat) (i b j : Int) (l : List Nat) (v : Value) (w : World) (h : GeoAt w p i b j) (hv : U16s w v l) (hl : l.length ≤ 1000) (hn : ∀ n ∈ l, n < 65536) :
    Calls Tryz.prog 46 #[v, .func (.func 44) #[] #[.pointer (some ⟨p, 0, none⟩)]] w fun e w' => e = .returned (.bool (l.any (oddB i b j))) ∧ Below w.heap.size w w' := by
  have H := Lib.hid (oddIndex_any p i b j l v w h hv hl hn)
  clear h hv hn
  generalize l.any (oddB i b j) = q at *
  go_enter Tryz.func46, Tryz.ntmps46
  go_wp2_with fail
  refine H.out.mono ?_
  rintro e w1 ⟨⟨x, rfl, hx⟩, hb⟩
  cases q
  · go_wp2_with fail
    go_ret
    exact ⟨rfl, hb⟩
  · go_wp2_with fail
    go_ret
    exact ⟨rfl, hb⟩
end Go.Proofs.YtdddennhdbmolaaGreat
