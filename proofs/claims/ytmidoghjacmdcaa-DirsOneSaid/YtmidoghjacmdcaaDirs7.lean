/- Layer 10 (dirs), the document's own answers: Check. -/
import Derived.Test.YtmidoghjacmdcaaDirs6
namespace Go.Proofs.Ytmidoghjacmdcaa
open Go.RowKit Go.Lib
set_option linter.unusedVariables false
set_option linter.unusedSimpArgs false
set_option maxRecDepth 10000
/-- Two entries of a row, as the walk reads them. -/
theorem EntRow.at {W : World} {A : Option Addr} {n c : Nat} {l : List En} (h : EntRow W (.slice A n c) l) {j : Nat} {x : En} (hj : l[j]? = some x) :
    ∃ g, A = some ⟨g, 0, none⟩ ∧ W.cell? ⟨g, j * 2, none⟩ = some (str x.n) ∧ W.cell? ⟨g, j * 2 + 1, none⟩ = some (.int .u32 (x.i : Int)) := by
  obtain ⟨A', c', hv, hc⟩ := h
  cases hv
  exact hc j x hj
theorem EntRow.len {W : World} {A : Option Addr} {n c : Nat} {l : List En} (h : EntRow W (.slice A n c) l) : n = l.length := by
  obtain ⟨A', c', hv, hc⟩ := h
  cases hv; rfl
theorem EntRow.form {W : World} {v : Value} {l : List En} (h : EntRow W v l) : ∃ A c, v = .slice A l.length c := by
  obtain ⟨A, c, hv, _⟩ := h
  exact ⟨A, c, hv⟩
/-- Two entries that may not stand beside one another. -/
def clash (x y : En) : Bool := x.i != 0 && (y.i != 0 && x.n == y.n)
theorem clash_iff {x y : En} (hx : okE x) (hy : okE y) : clash x y = true ↔ ¬ (y.n = x.n → x.n = []) := by
  simp only [clash, Bool.and_eq_true, bne_iff_ne, beq_iff_eq, ne_eq, hx.ino_zero, hy.ino_zero, ← hx.name_nil, ← hy.name_nil]
  constructor
  · rintro ⟨h1, h2, h3⟩ h4
    exact h1 (h4 h3.symm)
  · intro h
    have h1 : y.n = x.n := by
      by_cases e : y.n = x.n
      · exact e
      · exact absurd (fun e2 => absurd e2 e) h
    have h2 : ¬ x.n = [] := fun e => h (fun _ => e)
    exact ⟨h2, by rw [h1]; exact h2, h1.symm⟩
theorem uniq_take_succ {l : List En} {k : Nat} (h : k < l.length) : uniq (l.take (k + 1)) ↔ uniq (l.take k) ∧ ∀ j (hj : j < k), (l[j]'(by omega)).n = l[k].n → l[k].n = [] := by
  unfold uniq
  rw [List.take_succ_eq_append_getElem h, List.pairwise_append]
  constructor
  · rintro ⟨h1, _, h3⟩
    refine ⟨h1, fun j hj => ?_⟩
    have hm : l[j]'(by omega) ∈ l.take k := by
      rw [List.mem_take_iff_getElem]
      exact ⟨j, by omega, rfl⟩
    exact h3 _ hm _ (by simp)
  · rintro ⟨h1, h2⟩
    refine ⟨h1, by simp, fun a ha b hb => ?_⟩
    rw [List.mem_take_iff_getElem] at ha
    obtain ⟨j, hj, rfl⟩ := ha
    rw [List.mem_singleton.1 hb]
    exact h2 j (by omega)
theorem uniq_take {l : List En} {k : Nat} (h : uniq l) : uniq (l.take k) := List.Pairwise.sublist (List.take_sublist k l) h
set_option maxRecDepth 100000 in
set_option maxHeartbeats 4000000 in
theorem refCheck_any (s : List UInt8) (w : World) (hs : s.length ≤ maxLen) :
    Calls Try.prog 21 #[str s] w fun e w' => e = .returned (.int .i64 (chk s : Nat)) ∧ Below w.heap.size w w' := by
  have HS := Lib.hid fun W => refSlots_any s W hs
  have hlen : (formL s).length ≤ 72 := by
    unfold formL
    split
    · rename_i h
      simp only [formB, Bool.and_eq_true] at h
      rw [List.length_map]; exact (slots_le h.1).1
    · simp
  have hok : formB s = true → ∀ x ∈ formL s, okE x := by
    intro h x hx
    unfold formL at hx
    rw [if_pos h] at hx
    obtain ⟨p, hp, rfl⟩ := List.mem_map.1 hx
    simp only [formB, Bool.and_eq_true, List.all_eq_true] at h
    exact (okS_okE (h.2 p hp)).1
  cases hF : formB s with
  | false =>
    have HC := Lib.hid (show chk s = 7 by unfold chk; rw [hF]; rfl)
    rw [hF] at HS
    clear hF hok
    go_enter Try.func21, Try.ntmps21
    go_wp2_with fail
    refine (HS.out _).mono ?_
    rintro e w1 ⟨⟨v, rfl, -⟩, hb1⟩
    go_wp2_with fail
    go_ret
    exact ⟨by rw [HC.out]; rfl, hb1⟩
  | true =>
    have HC := Lib.hid (show chk s = if uniq (formL s) then 0 else 9 by unfold chk formL; rw [hF]; rfl)
    have Hok := Lib.hid (hok hF)
    rw [hF] at HS
    clear hF hok
    generalize formL s = l at *
    go_enter Try.func21, Try.ntmps21
    go_wp2_with fail
    refine (HS.out _).mono ?_
    rintro e w1 ⟨⟨v, rfl, hown⟩, hb1⟩
    have hrow := hown.row
    obtain ⟨A, c, rfl⟩ := hrow.form
    have HR := Lib.hid hrow
    have HB1 := Lib.hid hb1
    clear hown hrow hb1 HS
    go_wp2_with fail
    go_loopw [5, 6] (fun i5 i6 wr => ∃ i : Nat, i ≤ l.length ∧ i5 = .int .i64 i ∧ uniq (l.take i) ∧ Below w1.heap.size w1 wr) (fun i _ _ => l.length - (Go.RowKit.intOf i).toNat)
    case atStart => exact ⟨0, Nat.zero_le _, rfl, by simp [uniq], Below.refl _ _⟩
    case round =>
      obtain ⟨i, hi, rfl, hu, hb⟩ := hrel
      have Hu := Lib.hid hu
      clear hu
      by_cases hlt : i < l.length
      · have hltz : (i : Int) < (l.length : Int) := by omega
        obtain ⟨x, hx⟩ : ∃ x, l[i]? = some x := ⟨l[i], List.getElem?_eq_getElem hlt⟩
        have Hx := Lib.hid hx
        have HBr := Lib.hid hb
        clear hx hb
        go_wp2_with fail
        go_loopw [6] (fun i6 wv => ∃ k : Nat, k ≤ i ∧ i6 = .int .i64 k ∧ (∀ j y, j < k → l[j]? = some y → clash x y = false) ∧ Below wr.heap.size wr wv) (fun k _ => i - (Go.RowKit.intOf k).toNat)
        case atStart => exact ⟨0, Nat.zero_le _, rfl, fun j y h => absurd h (Nat.not_lt_zero _), Below.refl _ _⟩
        case round =>
          obtain ⟨k, hk, rfl, hno, hb2⟩ := hrel
          have Hno := Lib.hid hno
          have HB2 := Lib.hid (HBr.out.trans (hb2.mono HBr.out.size))
          have HB2' := Lib.hid hb2
          clear hno hb2
          by_cases hki : k < i
          · have hkz : (k : Int) < (i : Int) := by omega
            have hkl : k < l.length := by omega
            have hklz : (k : Int) < (l.length : Int) := by omega
            obtain ⟨y, hy⟩ : ∃ y, l[k]? = some y := ⟨l[k], List.getElem?_eq_getElem hkl⟩
            have hrow2 := HR.out.below HB2.out
            obtain ⟨g, rfl, x0, x1⟩ := hrow2.at Hx.out
            obtain ⟨g', hg, y0, y1⟩ := hrow2.at hy
            obtain rfl : g = g' := by injection hg with h; injection h
            have Hy := Lib.hid hy
            clear hrow2 hg hy
            by_cases hx0 : x.i = 0
            · have q1 : ((x.i : Int) != 0) = false := by rw [hx0]; rfl
              have HCl := Lib.hid (show clash x y = false by simp [clash, hx0])
              clear hx0
              go_wp2_with fail
              go_quiet (fail)
              go_wp2_with fail
              go_roundw
              case rel =>
                refine ⟨k + 1, by omega, by go_num, fun j z hj hz => ?_, below_drewN HB2'.out _⟩
                rcases Nat.lt_or_ge j k with h | h
                · exact Hno.out j z h hz
                · obtain rfl : j = k := by omega
                  obtain rfl := Option.some.inj (hz.symm.trans Hy.out)
                  exact HCl.out
              case measure => simp [Go.RowKit.intOf]; omega
            · have q1 : ((x.i : Int) != 0) = true := by simp; omega
              by_cases hy0 : y.i = 0
              · have q2 : ((y.i : Int) != 0) = false := by rw [hy0]; rfl
                have HCl := Lib.hid (show clash x y = false by simp [clash, hy0])
                clear hx0 hy0
                go_wp2_with fail
                go_quiet (fail)
                go_wp2_with fail
                go_roundw
                case rel =>
                  refine ⟨k + 1, by omega, by go_num, fun j z hj hz => ?_, below_drewN HB2'.out _⟩
                  rcases Nat.lt_or_ge j k with h | h
                  · exact Hno.out j z h hz
                  · obtain rfl : j = k := by omega
                    obtain rfl := Option.some.inj (hz.symm.trans Hy.out)
                    exact HCl.out
                case measure => simp [Go.RowKit.intOf]; omega
              · have q2 : ((y.i : Int) != 0) = true := by simp; omega
                by_cases hn : x.n = y.n
                · have hcl : clash x y = true := by simp [clash, hx0, hy0, hn]
                  have HC9 := Lib.hid (show chk s = 9 by
                    rw [HC.out, if_neg]
                    intro hu
                    have hxi : l[i] = x := Option.some.inj ((List.getElem?_eq_getElem hlt).symm.trans Hx.out)
                    have hyk : l[k] = y := Option.some.inj ((List.getElem?_eq_getElem hkl).symm.trans Hy.out)
                    have h2 := (uniq_take_succ hlt).1 (uniq_take (k := i + 1) hu)
                    have h3 := h2.2 k hki
                    rw [hxi, hyk] at h3
                    exact (clash_iff (Hok.out x (hxi ▸ List.getElem_mem _)) (Hok.out y (hyk ▸ List.getElem_mem _))).1 hcl h3)
                  rw [← hn] at y0
                  clear hx0 hy0 hn hcl
                  go_wp2_with fail
                  go_quiet (fail)
                  go_wp2_with fail
                  go_ret
                  exact ⟨by rw [HC9.out]; rfl, below_drewN (HB1.out.trans (HB2.out.mono HB1.out.size)) _⟩
                · have q3 : (x.n == y.n) = false := by simp [hn]
                  have HCl := Lib.hid (show clash x y = false by simp [clash, hn])
                  clear hx0 hy0
                  go_wp2_with fail
                  go_quiet (fail)
                  go_wp2_with fail
                  go_roundw
                  case rel =>
                    refine ⟨k + 1, by omega, by go_num, fun j z hj hz => ?_, below_drewN HB2'.out _⟩
                    rcases Nat.lt_or_ge j k with h | h
                    · exact Hno.out j z h hz
                    · obtain rfl : j = k := by omega
                      obtain rfl := Option.some.inj (hz.symm.trans Hy.out)
                      exact HCl.out
                  case measure => simp [Go.RowKit.intOf]; omega
          · have hki2 : k = i := by omega
            have hkz : ¬ (k : Int) < (i : Int) := by omega
            go_wp2_with fail
            go_roundw
            case rel =>
              refine ⟨i + 1, by omega, by go_num, ?_, HB2.out⟩
              rw [uniq_take_succ hlt]
              refine ⟨Hu.out, fun j hj => ?_⟩
              have hxi : l[i] = x := Option.some.inj ((List.getElem?_eq_getElem hlt).symm.trans Hx.out)
              have hjl : j < l.length := by omega
              have hc := Hno.out j l[j] (by omega) (List.getElem?_eq_getElem hjl)
              rw [hxi]
              have h4 := (clash_iff (Hok.out x (hxi ▸ List.getElem_mem _)) (Hok.out l[j] (List.getElem_mem _)))
              rw [hc] at h4
              simp only [Bool.false_eq_true, false_iff, Classical.not_not] at h4
              exact h4
            case measure => simp [Go.RowKit.intOf]; omega
      · have hltz : ¬ (i : Int) < (l.length : Int) := by omega
        have hil : l.take i = l := List.take_of_length_le (by omega)
        have HC0 := Lib.hid (show chk s = 0 by rw [HC.out, if_pos (hil ▸ Hu.out)])
        clear hil
        go_wp2_with fail
        go_ret
        exact ⟨by rw [HC0.out]; rfl, HB1.out.trans (hb.mono HB1.out.size)⟩
end Go.Proofs.Ytmidoghjacmdcaa
