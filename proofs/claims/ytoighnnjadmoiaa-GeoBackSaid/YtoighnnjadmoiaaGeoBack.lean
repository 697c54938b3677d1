/- Layer 5: the walk of GeoBack. -/
import Derived.Test.YtoighnnjadmoiaaGeoAlive
import Derived.Test.YtoighnnjadmoiaaBaseGeoEq
import Derived.Test.YtoighnnjadmoiaaBaseBytes
namespace Go.Proofs.Ytoighnnjadmoiaa
open Go.RowKit
set_option linter.unusedVariables false
set_option linter.unusedSimpArgs false
set_option maxRecDepth 10000
set_option maxRecDepth 50000 in
set_option maxHeartbeats 2000000 in
theorem back_no (i b j i2 b2 j2 : Int) (x y : Int) (w : World) (h0 : ¬ mayI i b j ∨ ¬ mayI i2 b2 j2) :
    Calls Try.prog 5 #[geoV i b j, geoV i2 b2 j2, .int .u8 x, .int .u8 y] w fun e w' => e = .returned (.bool true) ∧ Below w.heap.size w w' := by
  have hcase : (∃ (t1 t2 : List UInt8) (e1 e2 : Int) (p1 p2 : Bool), (e1 == 0) = p1 ∧ (e2 == 0) = p2 ∧ (p1 && p2) = false ∧ (e1 != 0) = !p1 ∧ (e2 != 0) = !p2 ∧
      (∀ W, Calls Try.prog 12 #[geoV i b j] W fun e w' => e = .returned (.tuple #[str t1, .int .i64 e1]) ∧ Below W.heap.size W w') ∧
      (∀ W, Calls Try.prog 12 #[geoV i2 b2 j2] W fun e w' => e = .returned (.tuple #[str t2, .int .i64 e2]) ∧ Below W.heap.size W w') ∧
      (∀ W, Calls Try.prog 15 #[geoV i b j] W fun e w' => e = .returned (.bool p1) ∧ Below W.heap.size W w') ∧
      (∀ W, Calls Try.prog 15 #[geoV i2 b2 j2] W fun e w' => e = .returned (.bool p2) ∧ Below W.heap.size W w')) := by
    by_cases h1 : mayI i b j
    · have h2 : ¬ mayI i2 b2 j2 := by rcases h0 with h | h; exact absurd h1 h; exact h
      obtain ⟨G, hG, rfl, rfl, rfl⟩ := mayI_gm h1
      exact ⟨_, _, 0, 2, true, false, rfl, rfl, rfl, rfl, rfl, fun W => super_ok G W hG, fun W => super_bad _ _ _ W h2, fun W => may_ok _ _ _ W h1, fun W => may_bad _ _ _ W h2⟩
    · by_cases h2 : mayI i2 b2 j2
      · obtain ⟨G, hG, rfl, rfl, rfl⟩ := mayI_gm h2
        exact ⟨_, _, 2, 0, false, true, rfl, rfl, rfl, rfl, rfl, fun W => super_bad _ _ _ W h1, fun W => super_ok G W hG, fun W => may_bad _ _ _ W h1, fun W => may_ok _ _ _ W h2⟩
      · exact ⟨_, _, 2, 2, false, false, rfl, rfl, rfl, rfl, rfl, fun W => super_bad _ _ _ W h1, fun W => super_bad _ _ _ W h2, fun W => may_bad _ _ _ W h1, fun W => may_bad _ _ _ W h2⟩
  clear h0
  obtain ⟨t1, t2, e1, e2, p1, p2, q1, q2, hp, q3, q4, hS1, hS2, hM1, hM2⟩ := hcase
  have S1 := Lib.hid hS1
  have S2 := Lib.hid hS2
  have M1 := Lib.hid hM1
  have M2 := Lib.hid hM2
  clear hS1 hS2 hM1 hM2
  cases p1 <;> cases p2
  case true.true => cases hp
  all_goals
    clear hp
    simp only [Bool.not_true, Bool.not_false] at q3 q4
    go_enter Try.func5, Try.ntmps5
    go_wp2_with fail
    with_reducible refine (S1.out _).mono ?_
    rintro e w1 ⟨rfl, hb⟩
    have B := Lib.hid hb
    obtain ⟨hc, hf⟩ := bcell hb
    clear hb
    go_wp2_with fail
    with_reducible refine (S2.out _).mono ?_
    rintro e w2 ⟨rfl, hb⟩
    have B := Lib.hid (B.out.trans (hb.mono B.out.size))
    clear hb hc hf
    obtain ⟨hc, hf⟩ := bcell B.out
    go_wp2_with fail
    with_reducible refine (M1.out _).mono ?_
    rintro e w3 ⟨rfl, hb⟩
    have B := Lib.hid (B.out.trans (hb.mono B.out.size))
    clear hb hc hf
    obtain ⟨hc, hf⟩ := bcell B.out
    go_wp2_with fail
    with_reducible refine (M2.out _).mono ?_
    rintro e w4 ⟨rfl, hb⟩
    have B := Lib.hid (B.out.trans (hb.mono B.out.size))
    clear hb hc hf
    go_wp2_with fail
    refine (alive_any _).mono ?_
    rintro e w5 ⟨rfl, hb⟩
    have B := Lib.hid (B.out.trans (hb.mono B.out.size))
    clear hb
    go_wp2_with fail
    go_ret
    exact ⟨rfl, (((Below.refl _ _).alloc (Nat.le_refl _) _).alloc (by simp) _).trans (B.out.mono (by simp; omega))⟩
theorem xor_byte8 (x y : UInt8) : bits .xor .u8 (x.toNat : Int) (y.toNat : Int) = ((x.toNat ^^^ y.toNat : Nat) : Int) := by
  rw [u8_xor_nat _ _ x.toNat_lt y.toNat_lt]
theorem xor_ne (x y : UInt8) (h : y ≠ 0) : x ^^^ y ≠ x := by
  intro e
  apply h
  have : x ^^^ (x ^^^ y) = x ^^^ x := by rw [e]
  simpa [← UInt8.xor_assoc] using this
theorem set_ne {l : List UInt8} {k : Nat} (hk : k < l.length) {x : UInt8} (h : x ≠ l[k]) : l.set k x ≠ l := by
  intro e
  apply h
  have h2 : (l.set k x)[k]'(by simpa using hk) = x := by simp
  simp only [e] at h2
  exact h2.symm
theorem geo_ne {a b c p q r : Nat} (h : ¬ (a = p ∧ b = q ∧ c = r)) : ((a : Int) == (p : Int) && (b : Int) == (q : Int) && (c : Int) == (r : Int)) = false := by
  rw [Bool.eq_false_iff]
  intro e
  simp only [Bool.and_eq_true, beq_iff_eq] at e
  exact h ⟨by omega, by omega, by omega⟩
theorem heap_alloc_keep' {W : World} {p : Obj} {g : Nat} (h : W.heap[g]? = some p) (o : Obj) : (W.alloc o).heap[g]? = some p := by
  rw [heap_alloc_old _ _ (Array.getElem?_eq_some_iff.1 h).1]
  exact h
set_option maxRecDepth 50000 in
set_option maxHeartbeats 2000000 in
theorem back_yes (a b c p q r n : Nat) (y : UInt8) (w : World) (hG : (⟨a, b, c⟩ : Gm).ok) (hH : (⟨p, q, r⟩ : Gm).ok) (hn : n < 256) :
    Calls Try.prog 5 #[geoV (a : Int) (b : Int) (c : Int), geoV (p : Int) (q : Int) (r : Int), .int .u8 (n : Int), .int .u8 (y.toNat : Int)] w fun e w' => e = .returned (.bool true) ∧ Below w.heap.size w w' := by
  have hS1 : ∀ W, Calls Try.prog 12 #[geoV a b c] W fun e w' => e = .returned (.tuple #[str (superL ⟨a, b, c⟩), .int .i64 0]) ∧ Below W.heap.size W w' := fun W => super_ok ⟨a, b, c⟩ W hG
  have hS2 : ∀ W, Calls Try.prog 12 #[geoV p q r] W fun e w' => e = .returned (.tuple #[str (superL ⟨p, q, r⟩), .int .i64 0]) ∧ Below W.heap.size W w' := fun W => super_ok ⟨p, q, r⟩ W hH
  have hlen : (superL ⟨a, b, c⟩).length = 64 := superL_length _
  have hR1 : ∀ W, Calls Try.prog 13 #[str (superL ⟨a, b, c⟩)] W fun e w' => e = .returned (.tuple #[geoV a b c, .int .i64 0]) ∧ Below W.heap.size W w' := fun W => by
    have h := read_any (superL ⟨a, b, c⟩) W (by rw [hlen]; decide)
    rw [readL_super hG] at h
    exact h
  have E0 : Hid (superL ⟨a, b, c⟩ = superL ⟨p, q, r⟩ ↔ (a = p ∧ b = q ∧ c = r)) := Lib.hid ⟨fun e => by
    have h := superL_inj hG hH e
    exact ⟨congrArg Gm.i h, congrArg Gm.b h, congrArg Gm.j h⟩, fun ⟨a1, a2, a3⟩ => by subst a1 a2 a3; rfl⟩
  have hR2 : ∀ (l : List UInt8), l.length = 64 → ∀ W, Calls Try.prog 13 #[str l] W fun e w' => e = .returned (readV (readL l)) ∧ Below W.heap.size W w' := fun l h W => read_any l W (by rw [h]; decide)
  have S1 := Lib.hid hS1
  have S2 := Lib.hid hS2
  have R1 := Lib.hid hR1
  have R2 := Lib.hid hR2
  have HL := Lib.hid hlen
  have hk : n % 64 < (superL ⟨a, b, c⟩).length := by rw [hlen]; omega
  clear hS1 hS2 hR1 hR2 hlen
  have hcase : ∃ t : Bool, (superL ⟨a, b, c⟩ == superL ⟨p, q, r⟩) = t ∧ ∀ W, (Op.equalIn 10000 23 (.agg #[.int .i64 (a : Int), .int .i64 (b : Int), .int .i64 (c : Int)]) (.agg #[.int .i64 (p : Int), .int .i64 (q : Int), .int .i64 (r : Int)])).run Try.prog W = .ok t W := by
    by_cases h : a = p ∧ b = q ∧ c = r
    · exact ⟨true, by rw [beq_iff_eq]; exact E0.out.2 h, fun W => by obtain ⟨rfl, rfl, rfl⟩ := h; rw [eq_geo]; simp⟩
    · exact ⟨false, by rw [beq_eq_false_iff_ne]; exact fun e => h (E0.out.1 e), fun W => by rw [eq_geo, geo_ne h]⟩
  obtain ⟨tt, ht1, ht2⟩ := hcase
  have hkn : (n : Int) % 64 = ((n % 64 : Nat) : Int) := by omega
  have hk64 : n % 64 < 64 := by omega
  generalize n % 64 = k at *
  obtain ⟨x, hx⟩ : ∃ x, (superL ⟨a, b, c⟩)[k]? = some x := ⟨_, List.getElem?_eq_getElem hk⟩
  have HX := Lib.hid hx
  have HK := Lib.hid hk
  have hset : ∃ s' : List UInt8, s' = (superL ⟨a, b, c⟩).set k (x ^^^ y) ∧ s'.length = 64 ∧ (y = 0 → s' = superL ⟨a, b, c⟩) ∧ (y ≠ 0 → s' ≠ superL ⟨a, b, c⟩) := by
    refine ⟨_, rfl, by simp [HL.out], ?_, ?_⟩
    · rintro rfl
      obtain ⟨h1, h2⟩ := List.getElem?_eq_some_iff.1 hx
      rw [UInt8.xor_zero, ← h2, List.set_getElem_self]
    · intro h
      obtain ⟨h1, h2⟩ := List.getElem?_eq_some_iff.1 hx
      exact set_ne h1 (by rw [h2]; exact xor_ne x y h)
  obtain ⟨s', hs', hs64, hs0, hs1⟩ := hset
  have HS' := Lib.hid hs'
  have HS64 := Lib.hid hs64
  have HS0 := Lib.hid hs0
  have HS1 := Lib.hid hs1
  have hxb := xor_byte8 x y
  clear hs' hs64 hs0 hs1 hk
  have EI : Hid (∀ l G', readL l = some G' → superL G' = l ∧ (l ≠ superL ⟨a, b, c⟩ → G' ≠ ⟨a, b, c⟩) ∧ G'.ok) := Lib.hid (fun l G' h => by
    obtain ⟨h1, h2, -⟩ := readL_some h
    exact ⟨h2, fun hne e => hne (by rw [← h2, e]), h1⟩)
  have RG := Lib.hid (readL_super hG)
  clear hx hG hH E0
  generalize superL ⟨a, b, c⟩ = s at *
  generalize superL ⟨p, q, r⟩ = t at *
  have hl := HL.out
  have hl2 : s.length ≤ 64 := by omega
  have hne : ((s.length : Int) != 64) = false := by simp [hl]
  have hl3 : (s.length : Int) = 64 := by omega
  clear hl
  go_enter Try.func5, Try.ntmps5
  go_wp2_with fail
  with_reducible refine (S1.out _).mono ?_
  rintro e w1 ⟨rfl, hb⟩
  have B := Lib.hid hb
  obtain ⟨hc, hf⟩ := bcell hb
  clear hb
  go_wp2_with fail
  with_reducible refine (S2.out _).mono ?_
  rintro e w2 ⟨rfl, hb⟩
  have B := Lib.hid (B.out.trans (hb.mono B.out.size))
  clear hb hc hf
  obtain ⟨hc, hf⟩ := bcell B.out
  go_wp2_with fail
  with_reducible refine (R1.out _).mono ?_
  rintro e w3 ⟨rfl, hb⟩
  have B := Lib.hid (B.out.trans (hb.mono B.out.size))
  clear hb hc hf
  have A1 := Lib.hid ((B.out.block w.heap.size (by simp; omega)).trans (heap_low w _ _))
  have A2 := Lib.hid ((B.out.block (w.heap.size + 1) (by simp)).trans (heap_new2 w _ _))
  obtain ⟨g0, g1, g2⟩ := gcells rfl A1.out
  obtain ⟨l0, l1, l2⟩ := gcells rfl A2.out
  have hz := (Array.getElem?_eq_some_iff.1 A2.out).1
  have hz0 : w.heap.size < w3.heap.size := by omega
  obtain ⟨cap, W0, hcv, hB, hb0, hsz⟩ := bytes_of_string (P := Try.prog) (w3.alloc (.cells #[.int .i64 (a : Int), .int .i64 (b : Int), .int .i64 (c : Int)] 23)) 9 46 5 s Try.underlying9 Try.underlying46 Try.underlying5
  have HB := Lib.hid hB
  have Hsz := Lib.hid hsz
  clear hB hsz
  have hsz3 : (w3.alloc (.cells #[.int .i64 (a : Int), .int .i64 (b : Int), .int .i64 (c : Int)] 23)).heap.size = w3.heap.size + 1 := by simp
  rw [hsz3] at hcv hb0
  have hB1 := HB.out
  rw [hsz3] at hB1
  have hsz4 := Hsz.out
  rw [hsz3] at hsz4
  obtain ⟨hbc, hbf⟩ := hB1 k HK.out
  obtain ⟨hxk1, hxk2⟩ := List.getElem?_eq_some_iff.1 HX.out
  rw [hxk2] at hbc
  clear hxk1 hxk2
  have hB2 := hB1.set k ((x.toNat ^^^ y.toNat : Nat) : Int) (x ^^^ y) (by simp) HK.out
  rw [← HS'.out] at hB2
  have hcb := string_of_bytes (P := Try.prog) 46 9 5 Try.underlying46 Try.underlying5 Try.underlying9 _ (w3.heap.size + 1) cap s' hB2
  rw [HS64.out, ← HL.out] at hcb
  have hwg : ∀ W', Below (W0.setCell ⟨w3.heap.size + 1, k, none⟩ (.int .u8 ((x.toNat ^^^ y.toNat : Nat) : Int))).heap.size (W0.setCell ⟨w3.heap.size + 1, k, none⟩ (.int .u8 ((x.toNat ^^^ y.toNat : Nat) : Int))) W' → W'.heap[w.heap.size]? = some (.cells #[.int .i64 (a : Int), .int .i64 (b : Int), .int .i64 (c : Int)] 23 (0, 0)) := fun W' h => by
    rw [h.block w.heap.size (by simp; omega), heap_setCell_other _ _ _ _ (by show w.heap.size ≠ w3.heap.size + 1; omega), hb0.block w.heap.size (by omega)]
    exact heap_alloc_keep' A1.out _
  have HWG := Lib.hid hwg
  have HB0 := Lib.hid hb0
  have hszW : w3.heap.size + 2 = W0.heap.size := by omega
  have hszW' : w3.heap.size + 1 < W0.heap.size := by omega
  have HB2 := Lib.hid hB2
  have HD : Hid (Below w.heap.size w (W0.setCell ⟨w3.heap.size + 1, k, none⟩ (.int .u8 ((x.toNat ^^^ y.toNat : Nat) : Int)))) := Lib.hid (by
    have e1 := (((Below.refl _ _).alloc (Nat.le_refl _) _).alloc (by simp) _).trans (B.out.mono (by simp; omega))
    have e2 : Below w.heap.size w W0 := (e1.alloc (by omega) (.cells #[.int .i64 (a : Int), .int .i64 (b : Int), .int .i64 (c : Int)] 23)).trans (hb0.mono (by omega))
    exact e2.setCell (by show w.heap.size ≤ w3.heap.size + 1; omega) _)
  clear hwg hB1 hB2 hb0 hsz4 hsz3
  by_cases hy : y = 0
  · have hs := HS0.out hy
    have hy0 : (((y.toNat : Int)) == 0) = true := by rw [hy]; rfl
    clear hy
    have hR' := R1.out
    rw [← hs] at hR'
    have R3 := Lib.hid hR'
    clear hR' hs
    go_wp2_with fail
    with_reducible refine (R3.out _).mono ?_
    rintro e w4 ⟨rfl, hb4⟩
    have B4 := Lib.hid hb4
    have hz4 : w.heap.size < w4.heap.size := by have := hb4.size; simp at this; omega
    obtain ⟨g0, g1, g2⟩ := gcells rfl (HWG.out w4 hb4)
    clear hb4
    go_wp2_with fail
    refine (alive_any _).mono ?_
    rintro e w5 ⟨rfl, hb5⟩
    go_wp2_with fail
    go_ret
    exact ⟨rfl, (HD.out.trans (B4.out.mono HD.out.size)).alloc (by omega) _ |>.trans (hb5.mono (by simp; omega))⟩
  · have hy0 := byte_ne0 y hy
    have hR := R2.out s' HS64.out
    cases hrd : readL s' with
    | none =>
      rw [hrd] at hR
      have hR' : ∀ W, Calls Try.prog 13 #[str s'] W fun e w' => e = .returned (.tuple #[geoV 0 0 0, .int .i64 7]) ∧ Below W.heap.size W w' := hR
      have R3 := Lib.hid hR'
      clear hR hR' hrd hy
      go_wp2_with fail
      with_reducible refine (R3.out _).mono ?_
      rintro e w4 ⟨rfl, hb4⟩
      have B4 := Lib.hid hb4
      have hz4 : w.heap.size < w4.heap.size := by have := hb4.size; simp at this; omega
      obtain ⟨g0, g1, g2⟩ := gcells rfl (HWG.out w4 hb4)
      clear hb4
      go_wp2_with fail
      refine (alive_any _).mono ?_
      rintro e w5 ⟨rfl, hb5⟩
      go_wp2_with fail
      go_ret
      exact ⟨rfl, (HD.out.trans (B4.out.mono HD.out.size)).alloc (by omega) _ |>.trans (hb5.mono (by simp; omega))⟩
    | some G' =>
      obtain ⟨f1, f2, f3⟩ := EI.out s' G' hrd
      have f4 := f2 (HS1.out hy)
      obtain ⟨a', b', c'⟩ := G'
      rw [hrd] at hR
      have hR' : ∀ W, Calls Try.prog 13 #[str s'] W fun e w' => e = .returned (.tuple #[geoV a' b' c', .int .i64 0]) ∧ Below W.heap.size W w' := hR
      have R3 := Lib.hid hR'
      have hS3 : ∀ W, Calls Try.prog 12 #[geoV a' b' c'] W fun e w' => e = .returned (.tuple #[str s', .int .i64 0]) ∧ Below W.heap.size W w' := fun W => by
        have h := super_ok ⟨a', b', c'⟩ W f3
        rw [f1] at h
        exact h
      have S3 := Lib.hid hS3
      have EQ2 : ∀ W, (Op.equalIn 10000 23 (.agg #[.int .i64 (a' : Int), .int .i64 (b' : Int), .int .i64 (c' : Int)]) (.agg #[.int .i64 (a : Int), .int .i64 (b : Int), .int .i64 (c : Int)])).run Try.prog W = .ok false W := fun W => by
        rw [eq_geo, geo_ne (fun h => f4 (by obtain ⟨rfl, rfl, rfl⟩ := h; rfl))]
      clear hR hR' hrd hy hS3 f1 f2 f3 f4
      go_wp2_with fail
      with_reducible refine (R3.out _).mono ?_
      rintro e w4 ⟨rfl, hb4⟩
      have B4 := Lib.hid hb4
      have hz4 : w.heap.size < w4.heap.size := by have := hb4.size; simp at this; omega
      obtain ⟨g0, g1, g2⟩ := gcells rfl (HWG.out w4 hb4)
      clear hb4
      go_wp2_with fail
      with_reducible refine (S3.out _).mono ?_
      rintro e w5 ⟨rfl, hb5⟩
      have hz5 := hb5.size
      simp at hz5
      have hg5 := (hb5.block w.heap.size (by simp; omega)).trans (heap_alloc_keep' (HWG.out w4 B4.out) _)
      have hd5 := (hb5.block w4.heap.size (by simp)).trans (heap_alloc_new w4 _)
      obtain ⟨g0, g1, g2⟩ := gcells rfl hg5
      obtain ⟨d0, d1, d2⟩ := gcells rfl hd5
      have hB5 : Bytes w5 (w3.heap.size + 1) s' := ((HB2.out.after B4.out).below ((Below.refl _ _).alloc (Nat.le_refl _) _) (by have := B4.out.size; simp at this; omega)).below hb5 (by have := B4.out.size; simp at this; simp; omega)
      have hcb5 := string_of_bytes (P := Try.prog) 46 9 5 Try.underlying46 Try.underlying5 Try.underlying9 w5 (w3.heap.size + 1) cap s' hB5
      rw [HS64.out, ← HL.out] at hcb5
      have B5 := Lib.hid hb5
      clear hb5 hB5 hg5 hd5
      go_wp2_with fail
      refine (alive_any _).mono ?_
      rintro e w6 ⟨rfl, hb6⟩
      go_wp2_with fail
      go_ret
      exact ⟨rfl, (((HD.out.trans (B4.out.mono HD.out.size)).alloc (by omega) _).trans (B5.out.mono (by simp; omega))).trans (hb6.mono (by omega))⟩
theorem back_any (i b j i2 b2 j2 x y : Int) (w : World) (hx : 0 ≤ x) (hx2 : x < 256) (hy : 0 ≤ y) (hy2 : y < 256) :
    Calls Try.prog 5 #[geoV i b j, geoV i2 b2 j2, .int .u8 x, .int .u8 y] w fun e w' => e = .returned (.bool true) ∧ Below w.heap.size w w' := by
  by_cases h1 : mayI i b j
  · by_cases h2 : mayI i2 b2 j2
    · obtain ⟨⟨a, b, c⟩, hG, rfl, rfl, rfl⟩ := mayI_gm h1
      obtain ⟨⟨p, q, r⟩, hH, rfl, rfl, rfl⟩ := mayI_gm h2
      obtain ⟨n, rfl⟩ : ∃ n : Nat, x = (n : Int) := ⟨x.toNat, by omega⟩
      obtain ⟨m, rfl⟩ : ∃ m : UInt8, y = (m.toNat : Int) := ⟨UInt8.ofNat y.toNat, by rw [UInt8.toNat_ofNat']; omega⟩
      exact back_yes a b c p q r n m w hG hH (by omega)
    · exact back_no i b j i2 b2 j2 x y w (.inr h2)
  · exact back_no i b j i2 b2 j2 x y w (.inl h1)
theorem walk_GeoBack (i b j i2 b2 j2 x y : Int) (wx : (Lit.int .u8 x).wf = true) (wy : (Lit.int .u8 y).wf = true) (w : World) :
    Calls Try.prog 5 #[geoV i b j, geoV i2 b2 j2, .int .u8 x, .int .u8 y] w fun e w' => e = .returned (.bool true) ∧ Below w.heap.size w w' := by
  simp [Lit.wf, IntKind.min, IntKind.max, IntKind.bits, IntKind.signed] at wx wy
  exact back_any i b j i2 b2 j2 x y w (by omega) (by omega) (by omega) (by omega)
end Go.Proofs.Ytoighnnjadmoiaa
