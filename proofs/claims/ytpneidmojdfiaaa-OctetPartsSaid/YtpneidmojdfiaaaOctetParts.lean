/- Layer 1 (octet): the walk of OctetParts. -/
import Derived.Test.YtpneidmojdfiaaaOctet7
namespace Go.Proofs.Ytpneidmojdfiaaa
open Go.RowKit
set_option linter.unusedVariables false
theorem row_nil (w : World) : Row w (.slice none 0 0) (([] : List (List UInt8)).map str) := ⟨none, 0, rfl, fun j u hj => by simp at hj⟩
set_option maxHeartbeats 800000 in
theorem parts_far (l : List UInt8) (n : Int) (w : World) (hs : l.length ≤ maxLen) (h : 8192 < l.length) :
    Calls Try.prog 4 #[str l, .int .i64 n] w fun e w' => e = .returned (.bool true) ∧ Below w.heap.size w w' := by
  unfold maxLen at hs
  go_enter Try.func4, Try.ntmps4
  go_wp2_with fail
  refine (alive_any _).mono ?_
  rintro e w1 ⟨rfl, hb1⟩
  go_wp2_with fail
  go_ret
  exact ⟨rfl, hb1⟩
set_option maxRecDepth 100000 in
set_option maxHeartbeats 1600000 in
theorem parts_bad_no (l x y : List UInt8) (n E : Int) (w : World) (h : l.length ≤ 8192) (hn : n < 1) (hE : (E != 0) = true)
    (hC : ∀ w : World, Calls Try.prog 12 #[str l, .int .i64 n] w fun e w' => e = .returned (.tuple #[str x, str y, .int .i64 E]) ∧ Below w.heap.size w w')
    (hQ : ∀ w : World, Calls Try.prog 13 #[str l, .int .i64 n] w fun e w' => e = .returned (.tuple #[str x, str y, .int .i64 E]) ∧ Below w.heap.size w w') :
    Calls Try.prog 4 #[str l, .int .i64 n] w fun e w' => e = .returned (.bool true) ∧ Below w.heap.size w w' := by
  have HC := Lib.hid hC
  have HQ := Lib.hid hQ
  clear hC hQ
  go_enter Try.func4, Try.ntmps4
  go_wp2_with fail
  refine (HC.out _).mono ?_
  rintro e w1 ⟨rfl, hb1⟩
  go_wp2_with fail
  refine (HQ.out _).mono ?_
  rintro e w2 ⟨rfl, hb2⟩
  go_wp2_with fail
  refine (split_bad l n _ hn).mono ?_
  rintro e w3 ⟨rfl, hb3⟩
  go_wp2_with fail
  refine (refSplit_bad l n _ hn).mono ?_
  rintro e w4 ⟨rfl, hb4⟩
  go_wp2_with fail
  refine (same_yes _ _ [] _ (row_nil _) (row_nil _) (by decide)).mono ?_
  rintro e w5 ⟨rfl, hb5⟩
  go_wp2_with fail
  refine (alive_any _).mono ?_
  rintro e w6 ⟨rfl, hb6⟩
  go_wp2_with fail
  go_ret
  exact ⟨rfl, chain (chain (chain (chain (chain (hb1) hb2) hb3) hb4) hb5) hb6⟩
set_option maxRecDepth 100000 in
set_option maxHeartbeats 1600000 in
theorem parts_ok_no (l x y : List UInt8) (n : Nat) (E : Int) (w : World) (h : l.length ≤ 8192) (hn : 1 ≤ n) (hn2 : n ≤ 9223372036854775807) (hE : (E != 0) = true)
    (hC : ∀ w : World, Calls Try.prog 12 #[str l, .int .i64 n] w fun e w' => e = .returned (.tuple #[str x, str y, .int .i64 E]) ∧ Below w.heap.size w w')
    (hQ : ∀ w : World, Calls Try.prog 13 #[str l, .int .i64 n] w fun e w' => e = .returned (.tuple #[str x, str y, .int .i64 E]) ∧ Below w.heap.size w w') :
    Calls Try.prog 4 #[str l, .int .i64 n] w fun e w' => e = .returned (.bool true) ∧ Below w.heap.size w w' := by
  have HC := Lib.hid hC
  have HQ := Lib.hid hQ
  clear hC hQ
  have hflat := partsL_flat n (by omega) 8192 l h
  have heach := partsL_each n (by omega) 8192 l h
  have hS := fun W => split_ok l n W h hn hn2
  have hT := fun W => refSplit_ok l n W h hn hn2
  generalize partsL n 8192 l = ls at hflat heach hS hT
  have hlsl : ls.length ≤ 8192 := by
    have : ls.length ≤ ls.flatten.length := by
      clear hS hT hflat
      have h1 : ∀ z ∈ ls, 1 ≤ z.length := by
        intro z hz
        obtain ⟨k, hk, rfl⟩ := List.getElem_of_mem hz
        exact List.length_pos_iff.2 (heach k hk).1
      clear heach
      induction ls with
      | nil => simp
      | cons z r ih =>
        have := h1 z (by simp)
        have := ih (fun y hy => h1 y (by simp [hy]))
        rw [List.flatten_cons, List.length_append, List.length_cons]
        omega
    rw [hflat] at this
    omega
  have HS := Lib.hid hS
  have HT := Lib.hid hT
  have Hflat := Lib.hid hflat
  have Heach := Lib.hid heach
  clear hS hT hflat heach
  go_enter Try.func4, Try.ntmps4
  go_wp2_with fail
  refine (HC.out _).mono ?_
  rintro e w1 ⟨rfl, hb1⟩
  go_wp2_with fail
  refine (HQ.out _).mono ?_
  rintro e w2 ⟨rfl, hb2⟩
  go_wp2_with fail
  refine (HS.out _).mono ?_
  rintro e w3 ⟨v, rfl, hown, hb3⟩
  go_wp2_with fail
  refine (HT.out _).mono ?_
  rintro e w4 ⟨v2, rfl, hown2, hb4⟩
  have hr := row_of_own (own_below hown hb4)
  have hr2 := row_of_own hown2
  clear hown hown2
  go_wp2_with fail
  refine (same_yes _ _ ls _ hr hr2 hlsl).mono ?_
  rintro e w5 ⟨rfl, hb5⟩
  have hr5 := row_below hr hb5
  clear hr hr2
  obtain ⟨A, c, rfl, hcells⟩ := hr5
  have Hcells := Lib.hid hcells
  clear hcells
  rw [List.length_map]
  go_wp2_with fail
  go_loop [15, 16] (fun t i => ∃ k : Nat, k ≤ ls.length ∧ i = .int .i64 k ∧ t = str (ls.take k).flatten) (fun _ i => ls.length - (intOf i).toNat)
  case atStart => exact ⟨0, Nat.zero_le _, rfl, rfl⟩
  case round =>
    obtain ⟨k, hk, rfl, rfl⟩ := hrel
    by_cases hlt : k < ls.length
    · have hu : (ls.map str)[k]? = some (str ls[k]) := by simp [hlt]
      obtain ⟨g, rfl, hc⟩ := Hcells.out k _ hu
      have he := Heach.out k hlt
      have hsum : (ls.take k).flatten ++ ls[k] = (ls.take (k + 1)).flatten := by rw [List.take_succ_eq_append_getElem hlt, List.flatten_append, List.flatten_singleton]
      have htot : (ls.take k).flatten.length + (ls[k]).length ≤ 8192 := by
        rw [← List.length_append, hsum]
        have h3 : ls.flatten.length = (ls.take (k + 1)).flatten.length + (ls.drop (k + 1)).flatten.length := by
          rw [← List.length_append, ← List.flatten_append, List.take_append_drop]
        rw [Hflat.out] at h3
        omega
      have Hsum := Lib.hid hsum
      clear hu hsum
      generalize hz : ls[k] = z at hc he htot Hsum
      clear hz
      generalize hT : (ls.take k).flatten = T at htot Hsum ⊢
      clear hT
      have hz0 : z.isEmpty = false := by simp [he.1]
      have hzn := he.2.1
      by_cases hlast : k + 1 < ls.length
      · have hzl := he.2.2 hlast
        have hzb : ((z.length : Int) != (n : Int)) = false := by rw [hzl]; simp
        clear he hzl
        go_wp2_with fail
        go_round
        case rel => exact ⟨k + 1, by omega, by go_num, by rw [Hsum.out]⟩
        case measure => simp [intOf]; omega
      · clear he
        go_wp2_with fail
        go_round
        case rel => exact ⟨k + 1, by omega, by go_num, by rw [Hsum.out]⟩
        case measure => simp [intOf]; omega
    · have : k = ls.length := by omega
      subst this
      have hfin : (ls.take ls.length).flatten = l := by rw [List.take_length]; exact Hflat.out
      rw [hfin]
      clear hfin
      go_wp2_with fail
      refine (alive_any _).mono ?_
      rintro e w6 ⟨rfl, hb6⟩
      go_wp2_with fail
      go_ret
      exact ⟨rfl, chain (chain (chain (chain (chain (hb1) hb2) hb3) hb4) hb5) hb6⟩
set_option maxRecDepth 100000 in
set_option maxHeartbeats 1600000 in
theorem parts_bad_yes (l x y : List UInt8) (n E : Int) (w : World) (h : l.length ≤ 8192) (hn : n < 1) (hE : (E != 0) = false) (hxy : x ++ y = l)
    (hC : ∀ w : World, Calls Try.prog 12 #[str l, .int .i64 n] w fun e w' => e = .returned (.tuple #[str x, str y, .int .i64 E]) ∧ Below w.heap.size w w')
    (hQ : ∀ w : World, Calls Try.prog 13 #[str l, .int .i64 n] w fun e w' => e = .returned (.tuple #[str x, str y, .int .i64 E]) ∧ Below w.heap.size w w') :
    Calls Try.prog 4 #[str l, .int .i64 n] w fun e w' => e = .returned (.bool true) ∧ Below w.heap.size w w' := by
  have HC := Lib.hid hC
  have HQ := Lib.hid hQ
  clear hC hQ
  have hlen : x.length + y.length = l.length := by rw [← hxy, List.length_append]
  have Hxy := Lib.hid hxy
  clear hxy
  go_enter Try.func4, Try.ntmps4
  go_wp2_with fail
  refine (HC.out _).mono ?_
  rintro e w1 ⟨rfl, hb1⟩
  go_wp2_with fail
  refine (HQ.out _).mono ?_
  rintro e w2 ⟨rfl, hb2⟩
  go_wp2_with fail
  refine (split_bad l n _ hn).mono ?_
  rintro e w3 ⟨rfl, hb3⟩
  go_wp2_with fail
  refine (refSplit_bad l n _ hn).mono ?_
  rintro e w4 ⟨rfl, hb4⟩
  go_wp2_with fail
  refine (same_yes _ _ [] _ (row_nil _) (row_nil _) (by decide)).mono ?_
  rintro e w5 ⟨rfl, hb5⟩
  have hxy := Hxy.out
  go_wp2_with fail
  refine (alive_any _).mono ?_
  rintro e w6 ⟨rfl, hb6⟩
  go_wp2_with fail
  go_ret
  exact ⟨rfl, chain (chain (chain (chain (chain (hb1) hb2) hb3) hb4) hb5) hb6⟩
set_option maxRecDepth 100000 in
set_option maxHeartbeats 1600000 in
theorem parts_ok_yes (l x y : List UInt8) (n : Nat) (E : Int) (w : World) (h : l.length ≤ 8192) (hn : 1 ≤ n) (hn2 : n ≤ 9223372036854775807) (hE : (E != 0) = false) (hxy : x ++ y = l)
    (hC : ∀ w : World, Calls Try.prog 12 #[str l, .int .i64 n] w fun e w' => e = .returned (.tuple #[str x, str y, .int .i64 E]) ∧ Below w.heap.size w w')
    (hQ : ∀ w : World, Calls Try.prog 13 #[str l, .int .i64 n] w fun e w' => e = .returned (.tuple #[str x, str y, .int .i64 E]) ∧ Below w.heap.size w w') :
    Calls Try.prog 4 #[str l, .int .i64 n] w fun e w' => e = .returned (.bool true) ∧ Below w.heap.size w w' := by
  have HC := Lib.hid hC
  have HQ := Lib.hid hQ
  clear hC hQ
  have hlen : x.length + y.length = l.length := by rw [← hxy, List.length_append]
  have Hxy := Lib.hid hxy
  clear hxy
  have hflat := partsL_flat n (by omega) 8192 l h
  have heach := partsL_each n (by omega) 8192 l h
  have hS := fun W => split_ok l n W h hn hn2
  have hT := fun W => refSplit_ok l n W h hn hn2
  generalize partsL n 8192 l = ls at hflat heach hS hT
  have hlsl : ls.length ≤ 8192 := by
    have : ls.length ≤ ls.flatten.length := by
      clear hS hT hflat
      have h1 : ∀ z ∈ ls, 1 ≤ z.length := by
        intro z hz
        obtain ⟨k, hk, rfl⟩ := List.getElem_of_mem hz
        exact List.length_pos_iff.2 (heach k hk).1
      clear heach
      induction ls with
      | nil => simp
      | cons z r ih =>
        have := h1 z (by simp)
        have := ih (fun y hy => h1 y (by simp [hy]))
        rw [List.flatten_cons, List.length_append, List.length_cons]
        omega
    rw [hflat] at this
    omega
  have HS := Lib.hid hS
  have HT := Lib.hid hT
  have Hflat := Lib.hid hflat
  have Heach := Lib.hid heach
  clear hS hT hflat heach
  go_enter Try.func4, Try.ntmps4
  go_wp2_with fail
  refine (HC.out _).mono ?_
  rintro e w1 ⟨rfl, hb1⟩
  go_wp2_with fail
  refine (HQ.out _).mono ?_
  rintro e w2 ⟨rfl, hb2⟩
  go_wp2_with fail
  refine (HS.out _).mono ?_
  rintro e w3 ⟨v, rfl, hown, hb3⟩
  go_wp2_with fail
  refine (HT.out _).mono ?_
  rintro e w4 ⟨v2, rfl, hown2, hb4⟩
  have hr := row_of_own (own_below hown hb4)
  have hr2 := row_of_own hown2
  clear hown hown2
  go_wp2_with fail
  refine (same_yes _ _ ls _ hr hr2 hlsl).mono ?_
  rintro e w5 ⟨rfl, hb5⟩
  have hr5 := row_below hr hb5
  clear hr hr2
  obtain ⟨A, c, rfl, hcells⟩ := hr5
  have Hcells := Lib.hid hcells
  clear hcells
  rw [List.length_map]
  go_wp2_with fail
  go_loop [15, 16] (fun t i => ∃ k : Nat, k ≤ ls.length ∧ i = .int .i64 k ∧ t = str (ls.take k).flatten) (fun _ i => ls.length - (intOf i).toNat)
  case atStart => exact ⟨0, Nat.zero_le _, rfl, rfl⟩
  case round =>
    obtain ⟨k, hk, rfl, rfl⟩ := hrel
    by_cases hlt : k < ls.length
    · have hu : (ls.map str)[k]? = some (str ls[k]) := by simp [hlt]
      obtain ⟨g, rfl, hc⟩ := Hcells.out k _ hu
      have he := Heach.out k hlt
      have hsum : (ls.take k).flatten ++ ls[k] = (ls.take (k + 1)).flatten := by rw [List.take_succ_eq_append_getElem hlt, List.flatten_append, List.flatten_singleton]
      have htot : (ls.take k).flatten.length + (ls[k]).length ≤ 8192 := by
        rw [← List.length_append, hsum]
        have h3 : ls.flatten.length = (ls.take (k + 1)).flatten.length + (ls.drop (k + 1)).flatten.length := by
          rw [← List.length_append, ← List.flatten_append, List.take_append_drop]
        rw [Hflat.out] at h3
        omega
      have Hsum := Lib.hid hsum
      clear hu hsum
      generalize hz : ls[k] = z at hc he htot Hsum
      clear hz
      generalize hT : (ls.take k).flatten = T at htot Hsum ⊢
      clear hT
      have hz0 : z.isEmpty = false := by simp [he.1]
      have hzn := he.2.1
      by_cases hlast : k + 1 < ls.length
      · have hzl := he.2.2 hlast
        have hzb : ((z.length : Int) != (n : Int)) = false := by rw [hzl]; simp
        clear he hzl
        go_wp2_with fail
        go_round
        case rel => exact ⟨k + 1, by omega, by go_num, by rw [Hsum.out]⟩
        case measure => simp [intOf]; omega
      · clear he
        go_wp2_with fail
        go_round
        case rel => exact ⟨k + 1, by omega, by go_num, by rw [Hsum.out]⟩
        case measure => simp [intOf]; omega
    · have : k = ls.length := by omega
      subst this
      have hfin : (ls.take ls.length).flatten = l := by rw [List.take_length]; exact Hflat.out
      rw [hfin]
      clear hfin
      have hxy := Hxy.out
      go_wp2_with fail
      refine (alive_any _).mono ?_
      rintro e w6 ⟨rfl, hb6⟩
      go_wp2_with fail
      go_ret
      exact ⟨rfl, chain (chain (chain (chain (chain (hb1) hb2) hb3) hb4) hb5) hb6⟩
/-- The walk of OctetParts. -/
theorem walk_OctetParts (a : ByteArray) (n : Int) (ha : a.size ≤ 140737488351232) (wn : (Lit.int .i64 n).wf = true) (w : World) :
    Calls Try.prog 4 #[.string a, .int .i64 n] w fun e w' => e = .returned (.bool true) ∧ Below w.heap.size w w' := by
  obtain ⟨l, rfl⟩ : ∃ l : List UInt8, a = ⟨l.toArray⟩ := ⟨a.data.toList, rfl⟩
  have hs2 : l.length ≤ 140737488351232 := by simpa [ByteArray.size] using ha
  have hs : l.length ≤ maxLen := by simp only [maxLen]; omega
  have hn : n ≤ 9223372036854775807 := by
    simp [Lit.wf, IntKind.min, IntKind.max, IntKind.bits, IntKind.signed] at wn
    omega
  by_cases h : 8192 < l.length
  · exact parts_far l n w hs h
  by_cases h1 : n < 0
  · exact parts_bad_no l [] [] n 2 w (by omega) (by omega) (by decide) (fun w => cut_neg l n w h1) (fun w => refCut_neg l n w h1)
  obtain ⟨m, rfl⟩ : ∃ m : Nat, n = m := ⟨n.toNat, by omega⟩
  by_cases h2 : m ≤ l.length
  · have hc := fun w => cut_ok l m m w hs rfl h2
    have hq := fun w => refCut_ok l m w hs h2
    by_cases h3 : m < 1
    · exact parts_bad_yes l _ _ m 0 w (by omega) (by omega) (by decide) (List.take_append_drop _ _) hc hq
    · exact parts_ok_yes l _ _ m 0 w (by omega) (by omega) (by omega) (by decide) (List.take_append_drop _ _) hc hq
  · have hc := fun w => cut_far l m w hs (by omega)
    have hq := fun w => refCut_far l m w hs (by omega)
    exact parts_ok_no l [] [] m 6 w (by omega) (by omega) (by omega) (by decide) hc hq
end Go.Proofs.Ytpneidmojdfiaaa
