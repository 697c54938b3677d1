/- Layer 7 (inode): which blocks are there twice. -/
import Derived.Test.YtpipjjngffajlaaInode2
import Derived.Test.YtpipjjngffajlaaBaseMap
import Derived.Carry
namespace Go.Proofs.Ytpipjjngffajlaa
open Go.RowKit
set_option linter.unusedVariables false
set_option linter.unusedSimpArgs false
set_option maxRecDepth 10000
/-- The number in a slot: for a loop's measure. -/
def nOf : Value → Int | .int _ n => n | _ => 0
theorem once_nil : once [] := by decide
theorem once_snoc (p : List Nat) (b : Nat) : once (p ++ [b]) ↔ once p ∧ (b = 0 ∨ b ∉ p) := by
  unfold once
  rw [List.filter_append]
  by_cases h : b = 0
  · subst h; simp
  · have e : List.filter (· != 0) [b] = [b] := by simp [h]
    rw [e, List.nodup_append]
    simp only [List.nodup_cons, List.not_mem_nil, not_false_eq_true, List.nodup_nil, and_self, true_and, List.mem_singleton, forall_eq, List.mem_filter, bne_iff_ne, ne_eq, and_imp]
    constructor
    · rintro ⟨h1, h2⟩
      refine ⟨h1, .inr fun hm => h2 b hm h rfl⟩
    · rintro ⟨h1, h2⟩
      refine ⟨h1, fun a ha _ e => ?_⟩
      subst e
      rcases h2 with h2 | h2
      · exact h h2
      · exact h2 ha
theorem once_take {l : List Nat} (h : once l) (k : Nat) : once (l.take k) := by
  unfold once at *
  exact h.sublist ((List.take_sublist k l).filter _)
/-- How often each is there. -/
def cntV (p : List Nat) (b : Nat) : Option Value := if p.count b = 0 then none else some (.int .i64 (p.count b : Nat))
theorem cntV_get (p : List Nat) (b : Nat) : (cntV p b).getD (.int .i64 0) = .int .i64 (p.count b : Nat) := by
  unfold cntV
  split
  · rename_i h; rw [h]; rfl
  · rfl
theorem cntV_snoc (p : List Nat) (b : Nat) : upd (cntV p) b (some (.int .i64 ((p.count b + 1 : Nat) : Int))) = cntV (p ++ [b]) := by
  funext j
  by_cases h : j = b
  · subst h
    rw [upd_same]
    simp [cntV, List.count_append]
  · rw [upd_other _ _ h]
    have h2 : b ≠ j := fun e => h e.symm
    simp [cntV, List.count_append, List.count_cons, h2]
set_option maxHeartbeats 1000000 in
theorem twice_any (l : List Nat) (v : Value) (w : World) (hv : U16s w v l) (hlt : ∀ x ∈ l, x < 65536) (hlen : l.length ≤ 100000) :
    Calls Try.prog 39 #[v] w fun e w' => e = .returned (.bool (decide (¬ once l))) ∧ Below w.heap.size w w' := by
  obtain ⟨A, c, rfl, hc⟩ := hv
  have Hc := Lib.hid hc
  clear hc
  have hmm := @run_makeMap Try.prog
  go_enter Try.func39, Try.ntmps39
  go_wp2_with fail
  go_loopw [9] (fun i wr => ∃ k : Nat, k ≤ l.length ∧ i = .int .i64 k ∧ QMap Try.prog 22 .u16 wr w.heap.size 65536 (cntV (l.take k)) ∧ once (l.take k) ∧ Below w.heap.size w wr) (fun i _ => l.length - (nOf i).toNat)
  case atStart =>
    refine ⟨0, Nat.zero_le _, rfl, ?_, by simp [once_nil], (Below.refl _ _).alloc (Nat.le_refl _) _⟩
    refine (QMap.made w Try.prog 22 .u16 65536).congr fun i _ => ?_
    simp [cntV]
  case round =>
    obtain ⟨k, hk, rfl, hm, hon, hb⟩ := hrel
    by_cases hlt2 : k < l.length
    · obtain ⟨b, hbe⟩ : ∃ b, b = l[k] := ⟨_, rfl⟩
      have hb16 : b < 65536 := by rw [hbe]; exact hlt _ (List.getElem_mem _)
      have htk : l.take (k + 1) = l.take k ++ [b] := by rw [hbe, List.take_succ_eq_append_getElem hlt2]
      obtain ⟨a, rfl, hcell⟩ := Hc.out k b (by rw [hbe]; simp [hlt2])
      have hcell1 : wr.cell? (a.add k) = some (w16 b) := (hb.cell (World.block_lt_of_cell? w _ hcell)).trans hcell
      have hlk := hm.look (t := 90) (e := 3) Try.underlying22 Try.underlying90 (z := .int .i64 0) (by kernel_rfl) fits_u16 hb16
      rw [cntV_get] at hlk
      obtain ⟨wm, hup, hm2, hgr⟩ := hm.store (t := 90) (e := 3) Try.underlying22 Try.underlying90 (by omega) fits_u16 hb16 (.int .i64 (((l.take k).count b + 1 : Nat) : Int))
      rw [cntV_snoc, ← htk] at hm2
      have hlk2 := hm2.look (t := 90) (e := 3) Try.underlying22 Try.underlying90 (z := .int .i64 0) (by kernel_rfl) fits_u16 hb16
      rw [cntV_get] at hlk2
      have hcnt : (l.take (k + 1)).count b = (l.take k).count b + 1 := by rw [htk]; simp [List.count_append]
      rw [hcnt] at hlk2
      have hq : (l.take k).count b ≤ 100000 := Nat.le_trans List.count_le_length (by simp; omega)
      have hmem : b ∈ l.take k ↔ 0 < (l.take k).count b := List.count_pos_iff.symm
      have hbw : Below w.heap.size w wm := hb.grown hgr hb.size (by intro j hj; cases hj; omega)
      have hon2 : once (l.take (k + 1)) ↔ once (l.take k) ∧ (b = 0 ∨ b ∉ l.take k) := by rw [htk]; exact once_snoc _ _
      have Hon := Lib.hid hon
      have Hon2 := Lib.hid hon2
      have Hmem := Lib.hid hmem
      have Hm2 := Lib.hid hm2
      clear hon hon2 hmem hm hm2 hcell htk hcnt hgr hbe
      generalize (l.take k).count b = q at *
      rw [Int.natCast_succ] at hlk2 hup
      by_cases hz : b = 0
      · subst hz
        go_wp2
        go_roundw
        case rel => exact ⟨k + 1, by omega, by go_num, Hm2.out, Hon2.out.2 ⟨Hon.out, .inl rfl⟩, hbw⟩
        case measure => simp [nOf]; omega
      · have hbz : ((b : Int) != 0) = true := by simpa using hz
        by_cases h0 : q = 0
        · subst h0
          simp only [Int.natCast_zero, Int.zero_add] at hup hlk hlk2
          go_wp2
          go_roundw
          case rel => exact ⟨k + 1, by omega, by go_num, Hm2.out, Hon2.out.2 ⟨Hon.out, .inr fun hm => by have := Hmem.out.1 hm; omega⟩, hbw⟩
          case measure => simp [nOf]; omega
        · go_wp2
          go_ret
          refine ⟨?_, hbw⟩
          have : ¬ once l := fun ho => by
            have := (Hon2.out.1 (once_take ho (k + 1))).2
            rcases this with h | h
            · exact hz h
            · exact h (Hmem.out.2 (by omega))
          simp [this]
    · have : k = l.length := by omega
      subst this
      rw [List.take_length] at hon
      go_wp2
      go_ret
      exact ⟨by simp [hon], hb⟩
end Go.Proofs.Ytpipjjngffajlaa
