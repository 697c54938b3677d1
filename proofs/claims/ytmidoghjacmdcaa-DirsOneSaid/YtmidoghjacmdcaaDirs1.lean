/- Layer 10 (dirs): entries as values; names. -/
import Derived.Test.YtmidoghjacmdcaaDirsU
import Derived.Test.YtmidoghjacmdcaaBaseScope
import Derived.Test.YtmidoghjacmdcaaBaseRound
import Derived.Test.YtmidoghjacmdcaaBaseStill
import Derived.Test.YtmidoghjacmdcaaBaseBytes
import Derived.Lib.SliceRun
import Derived.Lib.OthersKept
import Derived.Deep.LoopGhost
namespace Go.Proofs.Ytmidoghjacmdcaa
open Go.RowKit Go.Lib
set_option linter.unusedVariables false
set_option linter.unusedSimpArgs false
set_option maxRecDepth 10000
abbrev En.v (x : En) : Value := .agg #[str x.n, .int .u32 (x.i : Int)]
/-- The cells of entries. -/
def enC (l : List En) : List Value := l.flatMap fun x => [str x.n, .int .u32 (x.i : Int)]
abbrev entsV (l : List En) : Value := .agg (enC l).toArray
theorem entInfo : (Try.prog.info? 34).map (fun i => (i.zero, i.size, i.bytes)) = some (some (.agg #[str [], .int .u32 0]), 2, 24) := by kernel_rfl
theorem entsInfo : (Try.prog.info? 50).map (fun i => (i.zero, i.size)) = some (some (entsV (List.replicate 72 En.free)), 144) := by kernel_rfl
def nameE (l : List UInt8) : Int := if nameB l = true then 0 else 2
def runeB (r : Nat) : Bool := r == 47 || r == 0
theorem strange_any (r : Nat) (w : World) (hr : r ≤ 1114111) : Calls Try.prog 59 #[.int .i32 (r : Int)] w fun e w' => e = .returned (.bool (runeB r)) ∧ w = w' := by
  by_cases h1 : r = 47
  · subst h1
    go_enter Try.func59, Try.ntmps59
    go_wp2
    go_ret
    exact ⟨rfl, rfl⟩
  · have q1 : ((r : Int) == 47) = false := by simp; omega
    by_cases h2 : r = 0
    · subst h2
      go_enter Try.func59, Try.ntmps59
      go_wp2
      go_ret
      exact ⟨rfl, rfl⟩
    · have q2 : ((r : Int) == 0) = false := by simp; omega
      have q3 : runeB r = false := by simp [runeB, h1, h2]
      have Q3 := Lib.hid q3
      clear h1 h2 q3
      go_enter Try.func59, Try.ntmps59
      go_wp2
      go_ret
      exact ⟨by rw [Q3.out]; rfl, rfl⟩
/-- Where the first strange byte's rune begins, or -1. -/
def Found (l : List UInt8) (i : Int) : Prop := (0 ≤ i ↔ l.any oddB = true) ∧ -1 ≤ i
set_option maxHeartbeats 1000000 in
theorem indexFunc_any (l : List UInt8) (w : World) :
    Calls Try.prog 75 #[str l, .func (.func 59) #[] #[], .bool true] w fun e w' => (∃ i, e = .returned (.int .i64 i) ∧ Found l i) ∧ Below w.heap.size w w' := by
  have hsz : (⟨l.toArray⟩ : ByteArray).size = l.length := by simp [ByteArray.size]
  have Hsz := Lib.hid hsz
  clear hsz
  go_enter Try.func75, Try.ntmps75
  go_wp2
  go_loopg [] l.length (fun gf wx => ∃ pos : Nat, wx.heap[w.heap.size]? = some (.stringIter ⟨l.toArray⟩ pos) ∧ Below w.heap.size w wx ∧ (∀ j (hj : j < l.length), j < pos → oddB l[j] = false) ∧ l.length ≤ pos + gf)
  case atStart => exact ⟨0, World.iter_heap w _ 0, (Below.refl _ w).alloc (Nat.le_refl _) _, fun j _ h => absurd h (Nat.not_lt_zero _), by omega⟩
  case round =>
    obtain ⟨pos, hit, hbw, hno, hfu⟩ := hrel
    have Hno := Lib.hid hno
    clear hno
    by_cases hps : pos < l.length
    · obtain ⟨g', rfl⟩ : ∃ g', gk = g' + 1 := ⟨gk - 1, by omega⟩
      have hnx : ∀ ty, (Instr.next (.pointer (some ⟨w.heap.size, 0, none⟩)) true ty).run Try.prog wr = _ := fun ty => Lib.run_next_any_at wr w.heap.size ⟨l.toArray⟩ pos ty hit (by rw [Hsz.out]; exact hps)
      have hwd := Lib.width_pos ⟨l.toArray⟩ pos
      have hkk := decode_kinds l pos hps
      have hle := Lib.rune_le ⟨l.toArray⟩ pos
      obtain ⟨R, hR⟩ : ∃ R, (Utf8.decode ⟨l.toArray⟩ pos).1 = R := ⟨_, rfl⟩
      obtain ⟨K, hK⟩ : ∃ K, (Utf8.decode ⟨l.toArray⟩ pos).2 = K := ⟨_, rfl⟩
      rw [hR, hK] at hnx hkk
      rw [hK] at hwd
      rw [hR] at hle
      have hit2 := Lib.iterAt_heap wr w.heap.size ⟨l.toArray⟩ pos (pos + K) hit
      have hbw2 := Lib.below_iterAt hbw (k := w.heap.size) (Nat.le_refl _) ⟨l.toArray⟩ (pos + K)
      obtain ⟨W, hWd⟩ : ∃ W, wr.iterAt w.heap.size ⟨l.toArray⟩ (pos + K) = W := ⟨_, rfl⟩
      rw [hWd] at hnx hit2 hbw2
      have hcall := strange_any R W hle
      have Hkk := Lib.hid hkk
      clear hkk hR hK hWd hit hbw
      cases hb : runeB R with
      | true =>
        rw [hb] at hcall
        have Hb := Lib.hid hb
        clear hb
        go_wp2_with (go_at_call 59; refine hcall.mono ?_; rintro e W' ⟨rfl, rfl⟩)
        go_ret
        refine ⟨⟨_, rfl, ?_, by omega⟩, hbw2⟩
        rcases Hkk.out with ⟨h1, _⟩ | ⟨h1, _⟩
        · simp only [Int.natCast_nonneg, true_iff]
          exact List.any_eq_true.2 ⟨_, List.getElem_mem hps, h1⟩
        · exact absurd (by simpa [runeB] using Hb.out) h1
      | false =>
        rw [hb] at hcall
        have Hb := Lib.hid hb
        clear hb
        go_wp2_with (go_at_call 59; refine hcall.mono ?_; rintro e W' ⟨rfl, rfl⟩)
        go_roundg g'
        case measure => omega
        case rel =>
          refine ⟨pos + K, hit2, hbw2, fun j hj h => ?_, by omega⟩
          rcases Nat.lt_or_ge j pos with h2 | h2
          · exact Hno.out j hj h2
          · rcases Hkk.out with ⟨_, h1⟩ | ⟨_, _, h1⟩
            · have := Hb.out
              simp [runeB] at this
              omega
            · exact h1 j hj h2 h
    · have hnx : ∀ ty, (Instr.next (.pointer (some ⟨w.heap.size, 0, none⟩)) true ty).run Try.prog wr = _ := fun ty => Lib.run_next_end_at wr w.heap.size ⟨l.toArray⟩ pos ty hit (by rw [Hsz.out]; exact hps)
      go_wp2
      go_ret
      refine ⟨⟨_, rfl, ?_, by omega⟩, hbw⟩
      have h1 : l.any oddB = false := by
        rw [List.any_eq_false]
        intro x hx
        obtain ⟨j, hj, rfl⟩ := List.getElem_of_mem hx
        rw [Hno.out j hj (by omega)]; simp
      rw [h1]; simp
theorem containsFunc_any (l : List UInt8) (w : World) :
    Calls Try.prog 60 #[str l, .func (.func 59) #[] #[]] w fun e w' => e = .returned (.bool (l.any oddB)) ∧ Below w.heap.size w w' := by
  have h1 : ∀ V, Calls Try.prog 69 #[str l, .func (.func 59) #[] #[]] V fun e w' => (∃ i, e = .returned (.int .i64 i) ∧ Found l i) ∧ Below V.heap.size V w' := by
    intro V
    go_enter Try.func69, Try.ntmps69
    go_wp2_with fail
    refine (indexFunc_any l _).mono ?_
    rintro e w1 ⟨⟨i, rfl, hf⟩, hb⟩
    have Hf := Lib.hid hf
    clear hf
    go_wp2_with fail
    go_ret
    exact ⟨⟨i, rfl, Hf.out⟩, hb⟩
  have H1 := Lib.hid h1
  clear h1
  go_enter Try.func60, Try.ntmps60
  go_wp2_with fail
  refine (H1.out _).mono ?_
  rintro e w1 ⟨⟨i, rfl, hf⟩, hb⟩
  have Hf := Lib.hid hf
  clear hf
  go_wp2_with fail
  go_ret
  refine ⟨?_, hb⟩
  have := Hf.out.1
  rw [Bool.eq_iff_iff.2 (show decide (0 ≤ i) = true ↔ l.any oddB = true by rw [decide_eq_true_iff]; exact this)]; rfl
end Go.Proofs.Ytmidoghjacmdcaa
