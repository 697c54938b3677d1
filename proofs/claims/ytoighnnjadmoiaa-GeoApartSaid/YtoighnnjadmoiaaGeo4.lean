/- Layer 5 (geo): Inode, Block, Where. -/
import Derived.Test.YtoighnnjadmoiaaGeo3
namespace Go.Proofs.Ytoighnnjadmoiaa
open Go.RowKit
set_option linter.unusedVariables false
set_option linter.unusedSimpArgs false
set_option maxRecDepth 10000
theorem ret3_ii {a b c d : Int} {x : Value} (h : a = b) (k : c = d) : Ending.returned (.tuple #[.int .i64 a, .int .i64 c, x]) = .returned (.tuple #[.int .i64 b, .int .i64 d, x]) := by rw [h, k]
theorem ret2_i {a b : Int} {x : Value} (h : a = b) : Ending.returned (.tuple #[.int .i64 a, x]) = .returned (.tuple #[.int .i64 b, x]) := by rw [h]
set_option maxHeartbeats 1000000 in
theorem inode_ok (G : Gm) (k : Nat) (x : Int) (hx : x = ((k + 1 : Nat) : Int)) (w : World) (h : G.ok) (hk : k + 1 ≤ G.i) :
    Calls Try.prog 9 #[gv G, .int .u32 x] w fun e w' => e = .returned (.tuple #[.int .i64 ((G.off 4 + k / 2 : Nat) : Int), .int .i64 ((k % 2 * 32 : Nat) : Int), .int .i64 0]) ∧ Below w.heap.size w w' := by
  have h4 : G.i ≤ 256 := h.1.2
  have HP := Lib.hid fun W => part_ok G 4 4 rfl W h (by omega)
  have HI := Lib.hid fun W => within_in x 1 (G.i : Int) W (by omega) (by omega)
  have h1 := G.off_le h 4 (by omega)
  have h2 := G.cnt_le h 4
  have hx1 : 1 ≤ x := by omega
  have hx2 : x ≤ 256 := by omega
  have HX := Lib.hid hx
  clear hx
  go_enter Try.func9, Try.ntmps9
  go_wp2_with fail
  with_reducible refine (HP.out _).mono ?_
  rintro e w1 ⟨rfl, hb⟩
  have B := Lib.hid hb
  obtain ⟨hc, hf⟩ := bcell hb
  have hz : w.heap.size < w1.heap.size := by have := hb.size; simp at this; omega
  clear hb
  go_wp2_with fail
  with_reducible refine (HI.out _).mono ?_
  rintro e w2 ⟨rfl, rfl⟩
  go_wp2_with fail
  go_ret3
  have hX := HX.out
  exact ⟨ret3_ii (by omega) (by omega), (((Below.refl _ _).alloc (Nat.le_refl _) _).trans (B.out.mono (by simp))).alloc (by omega) _⟩
set_option maxHeartbeats 1000000 in
theorem inode_bad (i b j : Int) (x : Int) (w : World) (h : ¬ mayI i b j ∨ x < 1 ∨ i < x) (h0 : 0 ≤ x) (h9 : x < 4294967296) :
    Calls Try.prog 9 #[geoV i b j, .int .u32 x] w fun e w' => e = .returned (.tuple #[.int .i64 0, .int .i64 0, .int .i64 2]) ∧ Below w.heap.size w w' := by
  by_cases hm : mayI i b j
  · obtain ⟨G, hG, rfl, rfl, rfl⟩ := mayI_gm hm
    have HP := Lib.hid fun W => part_ok G 4 4 rfl W hG (by omega)
    have HI := Lib.hid fun W => within_out x 1 (G.i : Int) W (by rcases h with h | h; exact absurd hm h; exact h)
    clear h hm hG
    go_enter Try.func9, Try.ntmps9
    go_wp2_with fail
    with_reducible refine (HP.out _).mono ?_
    rintro e w1 ⟨rfl, hb⟩
    have B := Lib.hid hb
    obtain ⟨hc, hf⟩ := bcell hb
    have hz : w.heap.size < w1.heap.size := by have := hb.size; simp at this; omega
    clear hb
    go_wp2_with fail
    with_reducible refine (HI.out _).mono ?_
    rintro e w2 ⟨rfl, rfl⟩
    go_wp2_with fail
    go_ret3
    exact ⟨rfl, (((Below.refl _ _).alloc (Nat.le_refl _) _).trans (B.out.mono (by simp))).alloc (by omega) _⟩
  · have HP := Lib.hid fun W => part_bad i b j 4 W (.inl hm)
    clear h hm
    go_enter Try.func9, Try.ntmps9
    go_wp2_with fail
    with_reducible refine (HP.out _).mono ?_
    rintro e w1 ⟨rfl, hb⟩
    have B := Lib.hid hb
    obtain ⟨hc, hf⟩ := bcell hb
    have hz : w.heap.size < w1.heap.size := by have := hb.size; simp at this; omega
    clear hb
    go_wp2_with fail
    go_ret3
    exact ⟨rfl, (((Below.refl _ _).alloc (Nat.le_refl _) _).trans (B.out.mono (by simp))).alloc (by omega) _⟩
set_option maxHeartbeats 1000000 in
theorem block_ok (G : Gm) (k : Nat) (x : Int) (hx : x = ((k + 1 : Nat) : Int)) (w : World) (h : G.ok) (hk : k + 1 ≤ G.b) :
    Calls Try.prog 10 #[gv G, .int .u16 x] w fun e w' => e = .returned (.tuple #[.int .i64 ((G.off 5 + k : Nat) : Int), .int .i64 0]) ∧ Below w.heap.size w w' := by
  have h4 : G.b ≤ 1024 := h.2.1.2
  have HP := Lib.hid fun W => part_ok G 5 5 rfl W h (by omega)
  have HI := Lib.hid fun W => within_in x 1 (G.b : Int) W (by omega) (by omega)
  have h1 := G.off_le h 5 (by omega)
  have h2 := G.cnt_le h 5
  have hx1 : 1 ≤ x := by omega
  have hx2 : x ≤ 1024 := by omega
  have HX := Lib.hid hx
  clear hx
  go_enter Try.func10, Try.ntmps10
  go_wp2_with fail
  with_reducible refine (HP.out _).mono ?_
  rintro e w1 ⟨rfl, hb⟩
  have B := Lib.hid hb
  obtain ⟨hc, hf⟩ := bcell hb
  have hz : w.heap.size < w1.heap.size := by have := hb.size; simp at this; omega
  clear hb
  go_wp2_with fail
  with_reducible refine (HI.out _).mono ?_
  rintro e w2 ⟨rfl, rfl⟩
  go_wp2_with fail
  go_ret2
  have hX := HX.out
  exact ⟨ret2_i (by omega), (((Below.refl _ _).alloc (Nat.le_refl _) _).trans (B.out.mono (by simp))).alloc (by omega) _⟩
set_option maxHeartbeats 1000000 in
theorem block_bad (i b j : Int) (x : Int) (w : World) (h : ¬ mayI i b j ∨ x < 1 ∨ b < x) (h0 : 0 ≤ x) (h9 : x < 65536) :
    Calls Try.prog 10 #[geoV i b j, .int .u16 x] w fun e w' => e = .returned (.tuple #[.int .i64 0, .int .i64 2]) ∧ Below w.heap.size w w' := by
  by_cases hm : mayI i b j
  · obtain ⟨G, hG, rfl, rfl, rfl⟩ := mayI_gm hm
    have HP := Lib.hid fun W => part_ok G 5 5 rfl W hG (by omega)
    have HI := Lib.hid fun W => within_out x 1 (G.b : Int) W (by rcases h with h | h; exact absurd hm h; exact h)
    clear h hm hG
    go_enter Try.func10, Try.ntmps10
    go_wp2_with fail
    with_reducible refine (HP.out _).mono ?_
    rintro e w1 ⟨rfl, hb⟩
    have B := Lib.hid hb
    obtain ⟨hc, hf⟩ := bcell hb
    have hz : w.heap.size < w1.heap.size := by have := hb.size; simp at this; omega
    clear hb
    go_wp2_with fail
    with_reducible refine (HI.out _).mono ?_
    rintro e w2 ⟨rfl, rfl⟩
    go_wp2_with fail
    go_ret2
    exact ⟨rfl, (((Below.refl _ _).alloc (Nat.le_refl _) _).trans (B.out.mono (by simp))).alloc (by omega) _⟩
  · have HP := Lib.hid fun W => part_bad i b j 5 W (.inl hm)
    clear h hm
    go_enter Try.func10, Try.ntmps10
    go_wp2_with fail
    with_reducible refine (HP.out _).mono ?_
    rintro e w1 ⟨rfl, hb⟩
    have B := Lib.hid hb
    obtain ⟨hc, hf⟩ := bcell hb
    have hz : w.heap.size < w1.heap.size := by have := hb.size; simp at this; omega
    clear hb
    go_wp2_with fail
    go_ret2
    exact ⟨rfl, (((Below.refl _ _).alloc (Nat.le_refl _) _).trans (B.out.mono (by simp))).alloc (by omega) _⟩
set_option maxHeartbeats 1000000 in
theorem where_bad (i b j x : Int) (w : World) (h : ¬ mayI i b j) :
    Calls Try.prog 11 #[geoV i b j, .int .i64 x] w fun e w' => e = .returned (.tuple #[.int .i64 0, .int .i64 0, .int .i64 2]) ∧ Below w.heap.size w w' := by
  have HM := Lib.hid fun W => may_bad _ _ _ W h
  clear h
  go_enter Try.func11, Try.ntmps11
  go_wp2_with fail
  with_reducible refine (HM.out _).mono ?_
  rintro e w1 ⟨rfl, hb⟩
  go_wp2_with fail
  go_ret3
  exact ⟨rfl, ((Below.refl _ _).alloc (Nat.le_refl _) _).trans (hb.mono (by simp))⟩
set_option maxHeartbeats 1000000 in
theorem where_ok (G : Gm) (q : Nat) (n : Nat) (x : Int) (hx : x = (n : Int)) (w : World) (h : G.ok) (hq : q < 6) (hn1 : G.off q ≤ n) (hn2 : n < G.off (q + 1)) :
    Calls Try.prog 11 #[gv G, .int .i64 x] w fun e w' => e = .returned (.tuple #[.int .i64 (q : Int), .int .i64 ((n - G.off q : Nat) : Int), .int .i64 0]) ∧ Below w.heap.size w w' := by
  subst hx
  have HM := Lib.hid fun W => may_ok _ _ _ W (gm_mayI h)
  have HY := Lib.hid fun W => layout_any G W h
  have HSP := Lib.hid fun p B W hp hL => span_any G p (p : Int) rfl B W h hp hL
  have HO := Lib.hid (fun p (hp : p ≤ 6) => G.off_le h p hp)
  have HC := Lib.hid (fun p => G.cnt_le h p)
  have HOM := Lib.hid (fun p (hp : p < q) => G.off_mono (show p + 1 ≤ q by omega))
  have hq1 := G.off_le h (q + 1) (by omega)
  have HN := Lib.hid (And.intro hn1 hn2)
  clear hn2
  go_enter Try.func11, Try.ntmps11
  go_wp2_with fail
  with_reducible refine (HM.out _).mono ?_
  rintro e w1 ⟨rfl, hb⟩
  have B := Lib.hid hb
  obtain ⟨hc, hf⟩ := bcell hb
  clear hb
  go_wp2_with fail
  with_reducible refine (HY.out _).mono ?_
  rintro e w2 ⟨bb, rfl, hL, hge, hb⟩
  have HL := Lib.hid hL
  have hz1 := B.out.size
  have hz2 := hL.lt
  have B2 := Lib.hid (Below.refl w2.heap.size w2)
  have B := Lib.hid (B.out.trans (hb.mono hz1))
  clear hb hc hf hL hge
  simp at hz1
  go_wp2_with fail
  go_loopw [8, 9, 15] (fun _ _ i wr => ∃ k : Nat, k ≤ q ∧ i = .int .i64 k ∧ Below w2.heap.size w2 wr) (fun _ _ i _ => q - (intOf i).toNat)
  case atStart => exact ⟨0, Nat.zero_le _, rfl, Below.refl _ _⟩
  case round =>
    obtain ⟨k, hk, rfl, hb⟩ := hrel
    have hLw : Laid wr bb G := HL.out.after hb hz2
    have H3 := Lib.hid (HSP.out k bb wr (by omega) hLw)
    clear hLw
    have ho := HO.out k (by omega)
    have hcc := HC.out k
    by_cases hlt : k < q
    · have hom := HOM.out k hlt
      rw [Gm.off_succ] at hom
      have HI := Lib.hid fun W => within_out (n : Int) (G.off k : Int) ((G.off k : Int) + (G.cnt k : Int) - 1) W (by have := HN.out; omega)
      clear hom
      go_wp2_with fail
      with_reducible refine H3.out.mono ?_
      rintro e w3 ⟨rfl, hb3⟩
      have B3 := Lib.hid hb3
      clear hb3
      go_wp2_with fail
      with_reducible refine (HI.out _).mono ?_
      rintro e w4 ⟨rfl, rfl⟩
      go_wp2_with fail
      go_roundw
      case rel => exact ⟨k + 1, by omega, by go_num, (hb.trans (B3.out.mono hb.size)).alloc (by have := B3.out.size; have := hb.size; omega) _⟩
      case measure => simp [intOf]; omega
    · have hkq : k = q := by omega
      subst hkq
      have hN := HN.out
      rw [Gm.off_succ] at hN
      have HI := Lib.hid fun W => within_in (n : Int) (G.off k : Int) ((G.off k : Int) + (G.cnt k : Int) - 1) W (by omega) (by omega)
      clear hN
      go_wp2_with fail
      with_reducible refine H3.out.mono ?_
      rintro e w3 ⟨rfl, hb3⟩
      have B3 := Lib.hid hb3
      clear hb3
      go_wp2_with fail
      with_reducible refine (HI.out _).mono ?_
      rintro e w4 ⟨rfl, rfl⟩
      go_wp2_with fail
      go_quiet (fail)
      go_wp2_with fail
      go_ret3
      have hN := HN.out
      refine ⟨ret3_ii rfl (by rw [IntWalk.wrap64_in _ (by omega)]; omega), below_drewN ?_ _⟩
      have hz3 := B.out.size
      simp at hz3
      have e1 := ((Below.refl _ _).alloc (Nat.le_refl _) _).trans (B.out.mono (by simp))
      have e2 := e1.trans (hb.mono (by omega))
      have e3 := e2.trans (B3.out.mono (by have := hb.size; omega))
      exact e3.alloc (by have := B3.out.size; have := hb.size; omega) _
set_option maxHeartbeats 1000000 in
theorem where_out (G : Gm) (x : Int) (w : World) (h : G.ok) (hx : x < 0 ∨ (G.all : Int) ≤ x) :
    Calls Try.prog 11 #[gv G, .int .i64 x] w fun e w' => e = .returned (.tuple #[.int .i64 0, .int .i64 0, .int .i64 2]) ∧ Below w.heap.size w w' := by
  have HM := Lib.hid fun W => may_ok _ _ _ W (gm_mayI h)
  have HY := Lib.hid fun W => layout_any G W h
  have HSP := Lib.hid fun p B W hp hL => span_any G p (p : Int) rfl B W h hp hL
  have HO := Lib.hid (fun p (hp : p ≤ 6) => G.off_le h p hp)
  have HC := Lib.hid (fun p => G.cnt_le h p)
  have HOM := Lib.hid (fun p (hp : p < 6) => G.off_mono (show p + 1 ≤ 6 by omega))
  have HN := Lib.hid hx
  clear hx
  go_enter Try.func11, Try.ntmps11
  go_wp2_with fail
  with_reducible refine (HM.out _).mono ?_
  rintro e w1 ⟨rfl, hb⟩
  have B := Lib.hid hb
  obtain ⟨hc, hf⟩ := bcell hb
  clear hb
  go_wp2_with fail
  with_reducible refine (HY.out _).mono ?_
  rintro e w2 ⟨bb, rfl, hL, hge, hb⟩
  have HL := Lib.hid hL
  have hz1 := B.out.size
  have hz2 := hL.lt
  have B2 := Lib.hid (Below.refl w2.heap.size w2)
  have B := Lib.hid (B.out.trans (hb.mono hz1))
  clear hb hc hf hL hge
  simp at hz1
  go_wp2_with fail
  go_loopw [8, 9, 15] (fun _ _ i wr => ∃ k : Nat, k ≤ 6 ∧ i = .int .i64 k ∧ Below w2.heap.size w2 wr) (fun _ _ i _ => 6 - (intOf i).toNat)
  case atStart => exact ⟨0, Nat.zero_le _, rfl, Below.refl _ _⟩
  case round =>
    obtain ⟨k, hk, rfl, hb⟩ := hrel
    have hLw : Laid wr bb G := HL.out.after hb hz2
    by_cases hlt : k < 6
    · have H3 := Lib.hid (HSP.out k bb wr hlt hLw)
      clear hLw
      have ho := HO.out k (by omega)
      have hcc := HC.out k
      have hom := HOM.out k hlt
      rw [Gm.off_succ] at hom
      have HI := Lib.hid fun W => within_out x (G.off k : Int) ((G.off k : Int) + (G.cnt k : Int) - 1) W (by have := HN.out; unfold Gm.all at this; omega)
      clear hom
      go_wp2_with fail
      with_reducible refine H3.out.mono ?_
      rintro e w3 ⟨rfl, hb3⟩
      have B3 := Lib.hid hb3
      clear hb3
      go_wp2_with fail
      with_reducible refine (HI.out _).mono ?_
      rintro e w4 ⟨rfl, rfl⟩
      go_wp2_with fail
      go_roundw
      case rel => exact ⟨k + 1, by omega, by go_num, (hb.trans (B3.out.mono hb.size)).alloc (by have := B3.out.size; have := hb.size; omega) _⟩
      case measure => simp [intOf]; omega
    · have hkq : k = 6 := by omega
      subst hkq
      clear hLw
      go_wp2_with fail
      go_ret3
      have hz3 := B.out.size
      simp at hz3
      have e1 := ((Below.refl _ _).alloc (Nat.le_refl _) _).trans (B.out.mono (by simp))
      exact ⟨rfl, e1.trans (hb.mono (by omega))⟩
end Go.Proofs.Ytoighnnjadmoiaa
