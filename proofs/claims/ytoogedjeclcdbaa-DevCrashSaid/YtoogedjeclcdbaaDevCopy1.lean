/- Layer 3 (dev): a row of sectors, cloned. -/
import Derived.Test.YtoogedjeclcdbaaDev17
namespace Go.Proofs.Ytoogedjeclcdbaa
open Go.RowKit Go.Maps
set_option linter.unusedVariables false
theorem slice_not_nil (g off n cap : Nat) (W : World) : (binOp .eql 53 (.slice (some ⟨g, off, none⟩) n cap) (.slice none 0 0)).run Try.prog W = .ok (.bool false) W := by kernel_rfl
theorem build_none (W : World) : (secBuild 0 #[]).run Try.prog W = .ok (.slice (some ⟨W.heap.size, 0, none⟩) 0 0) (W.alloc (.cells #[] 64)) := by
  unfold secBuild
  kernel_rfl
set_option maxRecDepth 100000 in
theorem clone_any (g off cap : Nat) (ps : List (List UInt8)) (W : World) (hr : W.rangeAt g off (bc ps.flatten)) (hn : ps ≠ []) (hl : ∀ p ∈ ps, p.length = 64) (hbig : ps.length ≤ 1099511627776) :
    Calls Try.prog 29 #[.slice (some ⟨g, off, none⟩) ps.length cap] W fun e w' => ∃ g' cap', e = .returned (.slice (some ⟨g', 0, none⟩) ps.length cap') ∧ RowAt w' (.slice (some ⟨g', 0, none⟩) ps.length cap') ps ∧ W.heap.size ≤ g' ∧ Below W.heap.size W w' := by
  obtain ⟨z, hzs, hinfo⟩ : ∃ z : Value, z.cells.size = 64 ∧ (Try.prog.info? 64).map (fun i => (i.zero, i.size, i.bytes)) = some (some z, 64, 64) := ⟨.agg (Array.replicate 64 (.int .u8 0)), by kernel_rfl, by kernel_rfl⟩
  obtain ⟨i, hi, hz, hsz, hby⟩ := info_parts hinfo
  have hpos : 0 < ps.length := List.length_pos_iff.2 hn
  have hfl := flat_len hl
  obtain ⟨V, hV⟩ : ∃ V, W.alloc (.cells #[] 64) = V := ⟨_, rfl⟩
  have hVb : Below W.heap.size W V := by rw [← hV]; exact (Below.refl _ _).alloc (Nat.le_refl _) _
  have hVs : V.heap.size = W.heap.size + 1 := by rw [← hV]; simp
  have hr' : V.rangeAt g off (bc ps.flatten) := by
    have hg : g < W.heap.size := by
      have h0 := hr 0 ((bc ps.flatten)[0]'(by rw [List.length_map, hfl]; omega)) (List.getElem?_eq_getElem _)
      exact World.block_lt_of_cell? W _ h0
    exact range_kept hr (hVb.block g hg)
  have hap := run_append_grow (P := Try.prog) V 53 53 64 i _ Try.underlying53 hi hz ⟨W.heap.size, 0, none⟩ 0 0 [] (by simp) (fun j v h => by simp at h)
    ⟨g, off, none⟩ ps.length cap (bc ps.flatten) (by rw [List.length_map, hfl, hsz]) (fun j u hu => by rw [Addr.add_lit]; exact hr' j u hu) (by omega) (by omega) (growslice_fits (by omega) (by rw [hby]; omega))
  have hg1 := grownCap_ge V (0 + ps.length) 0 64
  have hg2 := grownCap_le_maxLen V (0 + ps.length) 0 64 (by unfold maxLen; omega)
  generalize grownCap V (0 + ps.length) 0 64 = cap' at hap hg1 hg2
  have hg := heap_alloc_new V.drew (.cells (([] : List Value).toArray ++ (bc ps.flatten).toArray ++ Builtin.zeroCells z.cells (cap' - (0 + ps.length))) 64)
  obtain ⟨W', hW'⟩ : ∃ W', V.drew.alloc (.cells (([] : List Value).toArray ++ (bc ps.flatten).toArray ++ Builtin.zeroCells z.cells (cap' - (0 + ps.length))) 64) = W' := ⟨_, rfl⟩
  rw [hW'] at hap hg
  have hRow : RowAt W' (.slice (some ⟨V.heap.size, 0, none⟩) ps.length cap') ps := by
    refine ⟨V.heap.size, 0, cap', rfl, by omega, hg2, range_row hg ?_, ?_⟩
    · simp
    · have := there_row hg
      refine fun j hj => this j ?_
      simp only [Array.size_append, List.size_toArray, List.length_map, hfl, size_zeroCells]
      rw [hzs]
      simp
      omega
  have hB : Below W.heap.size W W' := by
    rw [← hW']
    exact hVb.drew.alloc (by show W.heap.size ≤ V.heap.size; omega) _
  rw [Nat.zero_add] at hap
  change (secAppend #[.slice (some ⟨W.heap.size, 0, none⟩) 0 0, .slice (some ⟨g, off, none⟩) ps.length cap]).run Try.prog V = _ at hap
  rw [hVs] at hap
  have hnil : (binOp .eql 53 (.slice (some ⟨g, off, none⟩) ps.length cap) (.slice none 0 0)).run Try.prog W = .ok (.bool false) W := slice_not_nil g off ps.length cap W
  have hbs := build_none W
  have HR := Lib.hid hRow
  have HB := Lib.hid hB
  clear hW' hg hr hr' hinfo hi hz hsz hby hRow hB
  go_enter Try.func29, Try.ntmps29
  go_wp2
  go_ret
  refine ⟨W.heap.size + 1, cap', ?_, ?_, by omega, HB.out⟩
  · rfl
  · rw [← hVs]; exact HR.out
end Go.Proofs.Ytoogedjeclcdbaa
