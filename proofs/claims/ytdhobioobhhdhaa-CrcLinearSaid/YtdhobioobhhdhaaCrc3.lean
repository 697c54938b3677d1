/- Layer 2 (crc): the bytes of all parts, one by one. -/
import Derived.Test.YtdhobioobhhdhaaCrc2
import Derived.Test.YtdhobioobhhdhaaBaseIter
namespace Go.Proofs.Ytdhobioobhhdhaa
open Go.RowKit Go.Shelf
set_option linter.unusedVariables false
attribute [local go_sem] Oper.semAt_some
set_option maxRecDepth 100000 in
set_option maxHeartbeats 2000000 in
theorem bytes_in (F : Fence) (n : Nat) (h7 : F.fn 28) (hro : F.round = none) (hn : 1 ≤ n) (l Bs n₀ : Nat) (v : Value) (ps : List (List UInt8)) (hps : ps.length ≤ 1048576) (hlen : ∀ p ∈ ps, p.length ≤ 1048576) (J Jx : List UInt8 → World → Prop)
    (hY : ∀ pre (x : UInt8) W, J pre W → pre.length < ps.flatten.length → YieldAt F (n - 1) Try.prog l #[.int .u8 (x.toNat : Int)] W fun e W' =>
      (e = .returned (.bool true) ∧ J (pre ++ [x]) W' ∧ Below n₀ W W') ∨ (e = .returned (.bool false) ∧ Jx (pre ++ [x]) W'))
    (W : World) (hBs : W.cell? ⟨Bs, 0, none⟩ = some v) (hP : Parts n₀ W v ps) (h0 : J [] W) :
    CallsIn F n Try.prog 28 #[.func (.yield l) #[] #[], .pointer (some ⟨Bs, 0, none⟩)] W fun e W' => (∃ v, e = .returned v) ∧
      ((∃ ys, ys = ps.flatten ∧ J ys W') ∨ (∃ pre, pre <+: ps.flatten ∧ Jx pre W')) := by
  have HP := Lib.hid hP
  obtain ⟨A, c, rfl, hc⟩ := hP
  have Hc := Lib.hid hc
  clear hc
  refine callsIn_of_wp Try.func28 rfl h7 ?_ hro
  simp only [Try.ntmps28, List.size_toArray, List.length_cons, List.length_nil, Nat.reduceAdd, Nat.reduceSub, Array.replicate_succ, Array.replicate_zero, List.push_toArray, List.append_toArray, List.nil_append, List.cons_append]
  gi_wp2
  gi_loopw [8] (fun i wr => ∃ k : Nat, k ≤ ps.length ∧ i = .int .i64 k ∧ J (ps.take k).flatten wr ∧ Below n₀ W wr)
    (fun i _ => ps.length - (intOf i).toNat)
  case atStart => exact ⟨0, Nat.zero_le _, rfl, h0, Below.refl _ _⟩
  case round =>
    obtain ⟨k, hk, rfl, hJs, hnx⟩ := hrel
    by_cases hlt : k < ps.length
    · obtain ⟨g, rfl, hg, hcell⟩ := Hc.out k ps[k] (List.getElem?_eq_getElem hlt)
      have hcx : wr.cell? ⟨g, k, none⟩ = some (str ps[k]) := (hnx.cell (p := ⟨g, k, none⟩) hg).trans hcell
      have hpl := hlen ps[k] (List.getElem_mem hlt)
      have hpre := flat_take_prefix ps k hlt
      have hsucc := flat_take_succ ps k hlt
      have htot : ∀ j, j < ps[k].length → ((ps.take k).flatten ++ ps[k].take j).length < ps.flatten.length := by
        intro j hj
        have := flat_take_le ps (k + 1)
        rw [hsucc] at this
        simp only [List.length_append, List.length_take] at this ⊢
        omega
      have Hpre := Lib.hid hpre
      have Hsucc := Lib.hid hsucc
      have Htot := Lib.hid htot
      clear hpre hsucc htot hcell
      generalize ps[k] = s at hcx hpl Hpre Hsucc Htot
      gi_wp2
      gi_loopw [14] (fun i wq => ∃ j : Nat, j ≤ s.length ∧ i = .int .i64 j ∧ J ((ps.take k).flatten ++ s.take j) wq ∧ Below n₀ W wq)
        (fun i _ => s.length - (intOf i).toNat)
      case atStart => exact ⟨0, Nat.zero_le _, rfl, by simpa using hJs, hnx⟩
      case round =>
        obtain ⟨j, hj, rfl, hJq, hnq⟩ := hrel
        by_cases hlj : j < s.length
        · obtain ⟨fn, tmps, assign, body, hy, hR⟩ := hY _ (s[j]) wr hJq (Htot.out j hlj)
          have hts : s.take (j + 1) = s.take j ++ [s[j]] := List.take_succ_eq_append_getElem hlj
          have Hts := Lib.hid hts
          clear hts
          gi_wp2
          refine hR.mono ?_
          rintro e W3 (⟨rfl, hJ3, hk3⟩ | ⟨rfl, hJx3⟩)
          · gi_wp2
            go_roundw
            case rel => exact ⟨j + 1, by omega, by simp, by rw [Hts.out, ← List.append_assoc]; exact hJ3, hnq.trans hk3⟩
            case measure => simp [intOf]; omega
          · gi_wp2
            refine bodyPost_ret (results_none rfl _ _ _) rfl ?_
            exact ⟨⟨_, rfl⟩, .inr ⟨_, by have := Hpre.out (j + 1); rw [Hts.out, ← List.append_assoc] at this; exact this, hJx3⟩⟩
        · obtain rfl : j = s.length := by omega
          gi_wp2
          go_roundw
          case rel => exact ⟨k + 1, by omega, by simp, by rw [Hsucc.out]; rwa [List.take_length] at hJq, hnq⟩
          case measure => simp [intOf]; omega
    · obtain rfl : k = ps.length := by omega
      gi_wp2
      go_end0
      exact ⟨⟨_, rfl⟩, .inl ⟨_, rfl, by rwa [List.take_length] at hJs⟩⟩
end Go.Proofs.Ytdhobioobhhdhaa
