/- Layer 5: the walk of GeoApart. -/
import Derived.Test.YtoighnnjadmoiaaGeoTells
import Derived.Deep.CutBlock
import Derived.Deep.DeepCutAuto
namespace Go.Proofs.Ytoighnnjadmoiaa
open Go.RowKit
set_option linter.unusedVariables false
set_option linter.unusedSimpArgs false
set_option maxRecDepth 10000
set_option maxRecDepth 100000 in
set_option maxHeartbeats 1000000 in
theorem apart_no (i b j x1 x2 y1 y2 : Int) (w : World) (h : ¬ mayI i b j) :
    Calls Try.prog 4 #[geoV i b j, .int .u32 x1, .int .u32 x2, .int .u16 y1, .int .u16 y2] w fun e w' => e = .returned (.bool true) ∧ Below w.heap.size w w' := by
  have KM := Lib.hid fun W => may_bad _ _ _ W h
  have KN := Lib.hid fun W => sectors_bad _ _ _ W h
  clear h
  go_enter Try.func4, Try.ntmps4
  go_wp2_with fail
  with_reducible refine (KM.out _).mono ?_
  rintro e w1 ⟨rfl, hb⟩
  have HA := Lib.hid (keep_call (heap_alloc_new w _) hb)
  have HD := Lib.hid (keep_below ((Below.refl _ _).alloc (Nat.le_refl w.heap.size) _) hb)
  obtain ⟨g0, g1, g2⟩ := gcells rfl HA.out
  clear hb
  go_wp2_with fail
  with_reducible refine (KN.out _).mono ?_
  rintro e w2 ⟨rfl, hb⟩
  have HD := Lib.hid (keep_below HD.out hb)
  clear hb g0 g1 g2
  go_wp2_with fail
  refine (alive_any _).mono ?_
  rintro e w3 ⟨rfl, hb⟩
  go_wp2_with fail
  go_ret
  exact ⟨rfl, keep_below HD.out hb⟩
/-- What two inodes that are there come to: they are one, or lie apart. -/
def InoC (x1 x2 u v u2 v2 : Int) (P : Int → Prop) : Prop :=
  (∃ a, P a) ∧ v % 32 = 0 ∧ 0 ≤ v ∧ v + 32 ≤ 64 ∧ ((x1 = x2 ∧ u = u2 ∧ v = v2) ∨ ((x1 == x2) = false ∧ (u == u2) = false) ∨ ((x1 == x2) = false ∧ u = u2 ∧ (v == v2) = false))
def BlkC (y1 y2 c d : Int) (P : Int → Prop) : Prop :=
  (∃ a, P a) ∧ ((y1 = y2 ∧ c = d) ∨ ((y1 == y2) = false ∧ (c == d) = false))
set_option maxRecDepth 100000 in
set_option maxHeartbeats 2000000 in
theorem apart_yes (G : Gm) (i b j x1 x2 y1 y2 u v e u2 v2 e2 c h d h2 : Int) (w : World) (hG : G.ok) (ei : i = (G.i : Int)) (eb : b = (G.b : Int)) (ej : j = (G.j : Int))
    (tI tB : Bool) (rr : 2 ≤ i ∧ i ≤ 256 ∧ 8 ≤ b ∧ b ≤ 1024) (rx : 0 ≤ x1 ∧ x1 < 4294967296) (ry : 0 ≤ y1 ∧ y1 < 65536)
    (I1 : Hid (∀ W, Calls Try.prog 9 #[geoV i b j, .int .u32 x1] W fun x w' => x = .returned (.tuple #[.int .i64 u, .int .i64 v, .int .i64 e]) ∧ Below W.heap.size W w'))
    (I2 : Hid (∀ W, Calls Try.prog 9 #[geoV i b j, .int .u32 x2] W fun x w' => x = .returned (.tuple #[.int .i64 u2, .int .i64 v2, .int .i64 e2]) ∧ Below W.heap.size W w'))
    (B1 : Hid (∀ W, Calls Try.prog 10 #[geoV i b j, .int .u16 y1] W fun x w' => x = .returned (.tuple #[.int .i64 c, .int .i64 h]) ∧ Below W.heap.size W w'))
    (B2 : Hid (∀ W, Calls Try.prog 10 #[geoV i b j, .int .u16 y2] W fun x w' => x = .returned (.tuple #[.int .i64 d, .int .i64 h2]) ∧ Below W.heap.size W w'))
    (cI : tI = true → InoC x1 x2 u v u2 v2 (fun a => ∀ W, Calls Try.prog 11 #[geoV i b j, .int .i64 u] W fun x w' => x = .returned (.tuple #[.int .i64 4, .int .i64 a, .int .i64 0]) ∧ Below W.heap.size W w'))
    (cB : tB = true → BlkC y1 y2 c d (fun a => ∀ W, Calls Try.prog 11 #[geoV i b j, .int .i64 c] W fun x w' => x = .returned (.tuple #[.int .i64 5, .int .i64 a, .int .i64 0]) ∧ Below W.heap.size W w'))
    (hI : (e = 0 ∧ e2 = 0 ∧ tI = true) ∨ (e = 0 ∧ e2 = 2 ∧ tI = false) ∨ (e = 2 ∧ tI = false)) (hB : (h = 0 ∧ h2 = 0 ∧ tB = true) ∨ (h = 0 ∧ h2 = 2 ∧ tB = false) ∨ (h = 2 ∧ tB = false))
    (ex : (e = 0 ∧ 1 ≤ x1 ∧ x1 ≤ i) ∨ (e = 2 ∧ (x1 < 1 ∨ i < x1))) (hx : (h = 0 ∧ 1 ≤ y1 ∧ y1 ≤ b) ∨ (h = 2 ∧ (y1 < 1 ∨ b < y1))) :
    Calls Try.prog 4 #[geoV i b j, .int .u32 x1, .int .u32 x2, .int .u16 y1, .int .u16 y2] w fun e w' => e = .returned (.bool true) ∧ Below w.heap.size w w' := by
  have hm : mayI i b j := by rw [ei, eb, ej]; exact gm_mayI hG
  have KM := Lib.hid fun W => may_ok _ _ _ W hm
  have hP : ∀ (k : Nat) W, k < 6 → Calls Try.prog 8 #[geoV i b j, .int .i64 (k : Int)] W fun e w' => e = .returned (.tuple #[partV G k, .int .i64 0]) ∧ Below W.heap.size W w' := fun k W hk => by rw [ei, eb, ej]; exact part_ok G k k rfl W hG hk
  have hN : ∀ W, Calls Try.prog 17 #[geoV i b j] W fun e w' => e = .returned (.int .i64 (G.off 6 : Int)) ∧ Below W.heap.size W w' := fun W => by rw [ei, eb, ej]; exact sectors_ok G W hG
  have hW : ∀ (q n : Nat) W, q < 6 → G.off q ≤ n → n < G.off (q + 1) → Calls Try.prog 11 #[geoV i b j, .int .i64 (n : Int)] W fun e w' => e = .returned (.tuple #[.int .i64 (q : Int), .int .i64 ((n - G.off q : Nat) : Int), .int .i64 0]) ∧ Below W.heap.size W w' := fun q n W hq h1 h2 => by rw [ei, eb, ej]; exact where_ok G q n n rfl W hG hq h1 h2
  have KP := Lib.hid hP
  have KN := Lib.hid hN
  have KW := Lib.hid hW
  have Z1 := Lib.hid fun k (hk : k ≤ 6) => G.off_le hG k hk
  have Z2 := Lib.hid fun k => G.cnt_le hG k
  have Z3 := Lib.hid fun k (hk : k < 6) => G.cnt_pos hG k hk
  clear hP hN hW hm hG ei eb ej
  go_enter Try.func4, Try.ntmps4
  go_wp2_with fail
  with_reducible refine (KM.out _).mono ?_
  rintro e w1 ⟨rfl, hb⟩
  have HA := Lib.hid (keep_call (heap_alloc_new w _) hb)
  have HD := Lib.hid (keep_below ((Below.refl _ _).alloc (Nat.le_refl w.heap.size) _) hb)
  clear hb
  go_wp2_with fail
  go_loopw [11, 12, 13, 14] (fun n p _ _ wr => ∃ k : Nat, k ≤ 6 ∧ p = .int .i64 k ∧ n = .int .i64 (G.off k : Int) ∧ wr.heap[w.heap.size]? = some (.cells #[.int .i64 i, .int .i64 b, .int .i64 j] 23 (0, 0)) ∧ Below w.heap.size w wr) (fun _ p _ _ _ => 6 - (intOf p).toNat)
  case atStart => exact ⟨0, by omega, rfl, rfl, HA.out, HD.out⟩
  case round =>
    obtain ⟨k, hk, rfl, rfl, ha, hd⟩ := hrel
    obtain ⟨g0, g1, g2⟩ := gcells rfl ha
    have hlt := row_lt ha
    have HA := Lib.hid ha
    have HD := Lib.hid hd
    have z1 := Z1.out k hk
    have z2 := Z2.out k
    clear ha hd
    by_cases hk6 : k < 6
    · have z3 := Z3.out k hk6
      have HP := Lib.hid fun W => KP.out k W hk6
      go_wp2_with fail
      with_reducible refine (HP.out _).mono ?_
      rintro e w2 ⟨rfl, hb⟩
      have HA := Lib.hid (heap_alloc_keep' (keep_call HA.out hb) (.cells #[.int .i64 (G.off k : Int), .int .i64 (G.cnt k : Int)] 28))
      have HD := Lib.hid ((keep_below HD.out hb).alloc (keep_below HD.out hb).size (.cells #[.int .i64 (G.off k : Int), .int .i64 (G.cnt k : Int)] 28))
      clear hb g0 g1 g2 hlt
      go_wp2_with fail
      go_roundw
      case rel => exact ⟨k + 1, by omega, by go_num, by rw [Gm.off_succ]; go_num, HA.out, HD.out⟩
      case measure => simp [intOf]; omega
    · have hkq : k = 6 := by omega
      subst hkq
      go_wp2_with fail
      with_reducible refine (KN.out _).mono ?_
      rintro e w2 ⟨rfl, hb⟩
      have HA := Lib.hid (keep_call HA.out hb)
      have HD := Lib.hid (keep_below HD.out hb)
      clear hb g0 g1 g2 hlt
      go_wp2_with fail
      go_loopw [15, 16, 17, 18, 19, 20] (fun p _ _ _ _ _ wr => ∃ k : Nat, k ≤ G.off 6 ∧ p = .int .i64 k ∧ wr.heap[w.heap.size]? = some (.cells #[.int .i64 i, .int .i64 b, .int .i64 j] 23 (0, 0)) ∧ Below w.heap.size w wr) (fun p _ _ _ _ _ _ => G.off 6 - (intOf p).toNat)
      case atStart => exact ⟨0, by omega, rfl, HA.out, HD.out⟩
      case round =>
        obtain ⟨n, hn, rfl, ha, hd⟩ := hrel
        obtain ⟨g0, g1, g2⟩ := gcells rfl ha
        have hlt := row_lt ha
        have HA := Lib.hid ha
        have HD := Lib.hid hd
        clear ha hd
        by_cases hn6 : n < G.off 6
        · obtain ⟨q, hq, h1, h2⟩ := G.part_at 6 hn6
          have z3 := Z1.out q (by omega)
          have z4 := Z2.out q
          have hW2 := fun W => KW.out q n W hq h1 h2
          have HP := Lib.hid fun W => KP.out q W hq
          rw [Gm.off_succ] at h2
          obtain ⟨m, hmm⟩ : ∃ m, n - G.off q = m := ⟨_, rfl⟩
          rw [hmm] at hW2
          have HW := Lib.hid hW2
          have hmc : m < G.cnt q := by omega
          have hme : (G.off q : Int) + (m : Int) = (n : Int) := by omega
          clear hmm hW2 h1 h2
          go_wp2_with fail
          with_reducible refine (HW.out _).mono ?_
          rintro e w3 ⟨rfl, hb⟩
          have HA := Lib.hid (keep_call HA.out hb)
          have HD := Lib.hid (keep_below HD.out hb)
          clear hb g0 g1 g2 hlt
          obtain ⟨g0, g1, g2⟩ := gcells rfl HA.out
          have hlt := row_lt HA.out
          go_wp2_with fail
          with_reducible refine (HP.out _).mono ?_
          rintro e w4 ⟨rfl, hb⟩
          have HA := Lib.hid (heap_alloc_keep' (keep_call HA.out hb) (.cells #[.int .i64 (G.off q : Int), .int .i64 (G.cnt q : Int)] 28))
          have HD := Lib.hid ((keep_below HD.out hb).alloc (keep_below HD.out hb).size (.cells #[.int .i64 (G.off q : Int), .int .i64 (G.cnt q : Int)] 28))
          clear hb g0 g1 g2 hlt
          go_wp2_with fail
          go_roundw
          case rel => exact ⟨n + 1, by omega, by go_num, HA.out, HD.out⟩
          case measure => simp [intOf]; omega
        · have hnq : n = G.off 6 := by omega
          subst hnq
          clear z1 z2 hk hk6 hn hn6
          go_wp2_with fail
          with_reducible refine (I1.out _).mono ?_
          rintro z w5 ⟨rfl, hb⟩
          have HA := Lib.hid (keep_call HA.out hb)
          have HD := Lib.hid (keep_below HD.out hb)
          clear hb g0 g1 g2 hlt
          obtain ⟨g0, g1, g2⟩ := gcells rfl HA.out
          have hlt := row_lt HA.out
          go_wp2_with fail
          with_reducible refine (I2.out _).mono ?_
          rintro z w6 ⟨rfl, hb⟩
          have HA := Lib.hid (keep_call HA.out hb)
          have HD := Lib.hid (keep_below HD.out hb)
          clear hb g0 g1 g2 hlt
          obtain ⟨g0, g1, g2⟩ := gcells rfl HA.out
          have hlt := row_lt HA.out
          go_upto_region 22 with fail
          go_cut [138] (fun q wx => q = .bool tI ∧ wx.heap[w.heap.size]? = some (.cells #[.int .i64 i, .int .i64 b, .int .i64 j] 23 (0, 0)) ∧ Below w.heap.size w wx)
          case first =>
            as_aux_lemma =>
              rcases hI with ⟨rfl, rfl, rfl⟩ | ⟨rfl, rfl, rfl⟩ | ⟨rfl, rfl⟩
              all_goals
                go_wp2_with fail
                go_meet
                case rel => exact ⟨rfl, HA.out, HD.out⟩
          case rest =>
            as_aux_lemma =>
              clear HA HD g0 g1 g2 hlt
              obtain ⟨rfl, ha, hd⟩ := hcut
              have HA := Lib.hid ha
              have HD := Lib.hid hd
              clear ha hd
              obtain ⟨g0, g1, g2⟩ := gcells rfl HA.out
              have hlt := row_lt HA.out
              go_upto_if 138 with fail
              go_cut [] (fun wx => wx.heap[w.heap.size]? = some (.cells #[.int .i64 i, .int .i64 b, .int .i64 j] 23 (0, 0)) ∧ Below w.heap.size w wx)
              case first =>
                as_aux_lemma =>
                  cases tI
                  · go_wp2_with fail
                    go_meet
                    case rel => exact ⟨HA.out, HD.out⟩
                  · obtain ⟨⟨a1, hWI⟩, f1, f2, f3, hc⟩ := cI rfl
                    have WI := Lib.hid hWI
                    have f4 : (v % 32 != 0) = false := by rw [f1]; rfl
                    have f5 : decide (v < 0) = false := by simp; omega
                    have f6 : decide (64 < v + 32) = false := by simp; omega
                    clear f1 cI hWI
                    rcases hc with ⟨rfl, rfl, rfl⟩ | ⟨j1, j2⟩ | ⟨j1, rfl, j2⟩
                    all_goals
                      go_wp2_with fail
                      with_reducible refine (WI.out _).mono ?_
                      rintro z w7 ⟨rfl, hb⟩
                      have HA := Lib.hid (keep_call HA.out hb)
                      have HD := Lib.hid (keep_below HD.out hb)
                      clear hb g0 g1 g2 hlt
                      go_wp2_with fail
                      go_meet
                      case rel => exact ⟨HA.out, HD.out⟩
              case rest =>
                as_aux_lemma =>
                  clear HA HD g0 g1 g2 hlt
                  obtain ⟨ha, hd⟩ := hcut
                  have HA := Lib.hid ha
                  have HD := Lib.hid hd
                  clear ha hd
                  obtain ⟨g0, g1, g2⟩ := gcells rfl HA.out
                  have hlt := row_lt HA.out
                  go_wp2_with fail
                  with_reducible refine (B1.out _).mono ?_
                  rintro z w8 ⟨rfl, hb⟩
                  have HA := Lib.hid (keep_call HA.out hb)
                  have HD := Lib.hid (keep_below HD.out hb)
                  clear hb g0 g1 g2 hlt
                  obtain ⟨g0, g1, g2⟩ := gcells rfl HA.out
                  have hlt := row_lt HA.out
                  go_wp2_with fail
                  with_reducible refine (B2.out _).mono ?_
                  rintro z w9 ⟨rfl, hb⟩
                  have HA := Lib.hid (keep_call HA.out hb)
                  have HD := Lib.hid (keep_below HD.out hb)
                  clear hb g0 g1 g2 hlt
                  obtain ⟨g0, g1, g2⟩ := gcells rfl HA.out
                  have hlt := row_lt HA.out
                  go_upto_region 28 with fail
                  go_cut [193] (fun q wx => q = .bool tB ∧ wx.heap[w.heap.size]? = some (.cells #[.int .i64 i, .int .i64 b, .int .i64 j] 23 (0, 0)) ∧ Below w.heap.size w wx)
                  case first =>
                    as_aux_lemma =>
                      rcases hB with ⟨rfl, rfl, rfl⟩ | ⟨rfl, rfl, rfl⟩ | ⟨rfl, rfl⟩
                      all_goals
                        go_wp2_with fail
                        go_meet
                        case rel => exact ⟨rfl, HA.out, HD.out⟩
                  case rest =>
                    as_aux_lemma =>
                      clear HA HD g0 g1 g2 hlt
                      obtain ⟨rfl, ha, hd⟩ := hcut
                      have HA := Lib.hid ha
                      have HD := Lib.hid hd
                      clear ha hd
                      obtain ⟨g0, g1, g2⟩ := gcells rfl HA.out
                      have hlt := row_lt HA.out
                      go_upto_if 193 with fail
                      go_cut [] (fun wx => wx.heap[w.heap.size]? = some (.cells #[.int .i64 i, .int .i64 b, .int .i64 j] 23 (0, 0)) ∧ Below w.heap.size w wx)
                      case first =>
                        as_aux_lemma =>
                          cases tB
                          · go_wp2_with fail
                            go_meet
                            case rel => exact ⟨HA.out, HD.out⟩
                          · obtain ⟨⟨a1, hWI⟩, hc⟩ := cB rfl
                            have WI := Lib.hid hWI
                            clear cB hWI
                            rcases hc with ⟨rfl, rfl⟩ | ⟨j1, j2⟩
                            all_goals
                              go_wp2_with fail
                              with_reducible refine (WI.out _).mono ?_
                              rintro z w7 ⟨rfl, hb⟩
                              have HA := Lib.hid (keep_call HA.out hb)
                              have HD := Lib.hid (keep_below HD.out hb)
                              clear hb g0 g1 g2 hlt
                              go_wp2_with fail
                              go_meet
                              case rel => exact ⟨HA.out, HD.out⟩
                      case rest =>
                        as_aux_lemma =>
                          clear HA HD g0 g1 g2 hlt
                          obtain ⟨ha, hd⟩ := hcut
                          have HA := Lib.hid ha
                          have HD := Lib.hid hd
                          clear ha hd
                          obtain ⟨g0, g1, g2⟩ := gcells rfl HA.out
                          have hlt := row_lt HA.out
                          obtain ⟨⟨rx1, rx2⟩, ⟨ry1, ry2⟩, ri1, ri2, rb1, rb2⟩ := And.intro rx (And.intro ry rr)
                          have hex : (e = 0 ∧ 1 ≤ x1 ∧ x1 ≤ i) ∨ (e = 2 ∧ x1 < 1) ∨ (e = 2 ∧ 1 ≤ x1 ∧ i < x1 ∧ decide (x1 ≤ i) = false) := by
                            rcases ex with h | ⟨h1, h2⟩
                            · exact .inl h
                            · rcases Classical.em (x1 < 1) with h3 | h3
                              · exact .inr (.inl ⟨h1, h3⟩)
                              · exact .inr (.inr ⟨h1, by omega, by omega, by simp; omega⟩)
                          have hhx : (h = 0 ∧ 1 ≤ y1 ∧ y1 ≤ b) ∨ (h = 2 ∧ y1 < 1) ∨ (h = 2 ∧ 1 ≤ y1 ∧ b < y1 ∧ decide (y1 ≤ b) = false) := by
                            rcases hx with h' | ⟨h1, h2⟩
                            · exact .inl h'
                            · rcases Classical.em (y1 < 1) with h3 | h3
                              · exact .inr (.inl ⟨h1, h3⟩)
                              · exact .inr (.inr ⟨h1, by omega, by omega, by simp; omega⟩)
                          clear ex hx rx ry rr
                          rcases hex with ⟨rfl, p1, p2⟩ | ⟨rfl, p1⟩ | ⟨rfl, p1, p2, p3⟩
                          all_goals
                            rcases hhx with ⟨rfl, q1, q2⟩ | ⟨rfl, q1⟩ | ⟨rfl, q1, q2, q3⟩
                          all_goals
                            as_aux_lemma =>
                              go_wp2_with fail
                              refine (alive_any _).mono ?_
                              rintro z w10 ⟨rfl, hb⟩
                              go_wp2_with fail
                              go_ret
                              exact ⟨rfl, keep_below HD.out hb⟩
end Go.Proofs.Ytoighnnjadmoiaa
