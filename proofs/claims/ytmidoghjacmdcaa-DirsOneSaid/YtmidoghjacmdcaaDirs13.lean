/- Layer 10 (dirs): the array of entries; place. -/
import Derived.Test.YtmidoghjacmdcaaBaseEntEq
import Derived.Test.YtmidoghjacmdcaaDirsM2
import Derived.Lib.SliceRun
namespace Go.Proofs.Ytmidoghjacmdcaa
open Go.RowKit Go.Lib
set_option linter.unusedVariables false
set_option linter.unusedSimpArgs false
set_option maxRecDepth 10000
/-- Block g is the array l. -/
def EntAt (W : World) (g : Nat) (l : List En) : Prop := W.heap[g]? = some (.cells (enC l).toArray 50 (0, 0)) ∧ l.length = 72
theorem EntAt.lt {W : World} {g : Nat} {l : List En} (h : EntAt W g l) : g < W.heap.size := (Array.getElem?_eq_some_iff.1 h.1).1
theorem EntAt.below {W W' : World} {g n : Nat} {l : List En} (h : EntAt W g l) (hb : Below n W W') (hg : g < n) : EntAt W' g l := ⟨(hb.block g hg).trans h.1, h.2⟩
theorem EntAt.after {W W' : World} {g : Nat} {l : List En} (h : EntAt W g l) (hb : Below W.heap.size W W') : EntAt W' g l := h.below hb h.lt
theorem EntAt.cells {W : World} {g : Nat} {l : List En} (h : EntAt W g l) {j : Nat} {x : En} (hj : l[j]? = some x) : W.cell? ⟨g, j * 2, none⟩ = some (str x.n) ∧ W.cell? ⟨g, j * 2 + 1, none⟩ = some (.int .u32 (x.i : Int)) := by
  obtain ⟨h1, h2⟩ := enC_at hj
  exact ⟨by rw [cell_of_row W g _ _ _ _ h.1]; simpa using h1, by rw [cell_of_row W g _ _ _ _ h.1]; simpa using h2⟩
theorem EntAt.soft {W : World} {g : Nat} {l : List En} (h : EntAt W g l) (j : Nat) : W.frozen? ⟨g, j, none⟩ = false := frozen_of_row W g j _ _ h.1
def entsLoad (x : Value) : Sem Value := Instr.loadAt 50 x
def entsStore (x v : Value) : Sem Unit := Instr.storeAt 50 x v
@[go_sem ↓] theorem ents_load_fold (x : Value) : Instr.loadAt 50 x = entsLoad x := rfl
@[go_sem ↓] theorem ents_store_fold (x v : Value) : Instr.storeAt 50 x v = entsStore x v := rfl
theorem ents_var {W : World} {g : Nat} {l : List En} (h : EntAt W g l) : (loadVar 50 ⟨g, 0, none⟩).run Try.prog W = .ok (entsV l) W :=
  run_loadVar_row (P := Try.prog) W g 50 50 _ (0, 0) _ h.1 Try.underlying50 rfl (by rw [List.size_toArray, enC_length, h.2]; kernel_rfl)
theorem ents_load {W : World} {g : Nat} {l : List En} (h : EntAt W g l) : (entsLoad (.pointer (some ⟨g, 0, none⟩))).run Try.prog W = .ok (entsV l) W := by
  unfold entsLoad
  simp only [Instr.loadAt, Instr.sureAddr, Sem.run_bind, Sem.run_pure, Result.andThen_ok, ents_var h]
theorem enC_allB (l : List En) : (enC l).toArray.all (·.oneCell') = true := by
  rw [Array.all_eq_true_iff_forall_mem]
  intro v hv
  exact enC_all l v (by simpa using hv)
theorem ents_store {W : World} {g : Nat} {l old : List En} (h : EntAt W g old) (hl : l.length = 72) :
    ∃ W', (entsStore (.pointer (some ⟨g, 0, none⟩)) (entsV l)).run Try.prog W = .ok () W' ∧ EntAt W' g l ∧ (∀ k, k ≠ g → W'.heap[k]? = W.heap[k]?) ∧ (∀ n, n ≤ g → Below n W W') ∧ W'.heap.size = W.heap.size := by
  have hst := run_storeCells_row (P := Try.prog) W g 50 _ (enC l) h.1 (by simp [enC_length, h.2, hl]) (enC_allB l)
  have sz := Try.sizeOf50
  refine ⟨W.setRow g (enC l).toArray, ?_, ⟨setRow_heap W g _ _ _ _ h.1, hl⟩, fun k hk => ?_, fun n hn => below_setRow (Below.refl _ _) g hn _, by simp [World.setRow]⟩
  · unfold entsStore
    simp only [Instr.storeAt, Instr.sureAddr, Sem.run_bind, Sem.run_pure, Result.andThen_ok]
    unfold storeVar
    simp only [Sem.run_bind, sz, Result.andThen_ok, Value.cells]
    have hlen : (enC l).length = 144 := by rw [enC_length, hl]
    simpa [hlen] using hst
  · simp only [World.setRow, Array.getElem?_modify]
    rw [if_neg (fun e => hk e.symm)]
theorem ents_alloc (W : World) (l : List En) (hl : l.length = 72) : EntAt (W.alloc (.cells (enC l).toArray 50)) W.heap.size l := ⟨heap_alloc_new W _, hl⟩
/-- Where, or -1. -/
def optI : Option Nat → Int | some k => (k : Int) | none => -1
theorem findIdx_hit {α : Type} {l : List α} {p : α → Bool} {k : Nat} {x : α} (hk : l[k]? = some x) (hx : p x = true) (hno : ∀ (j : Nat) (y : α), j < k → l[j]? = some y → p y = false) : l.findIdx? p = some k := by
  rw [List.findIdx?_eq_some_iff_getElem]
  obtain ⟨h1, h2⟩ := List.getElem?_eq_some_iff.1 hk
  refine ⟨h1, by rw [h2]; exact hx, fun j hj => ?_⟩
  have := hno j l[j] hj (List.getElem?_eq_getElem _)
  simpa using this
theorem findIdx_miss {α : Type} {l : List α} {p : α → Bool} (h : ∀ (j : Nat) (y : α), l[j]? = some y → p y = false) : l.findIdx? p = none := by
  rw [List.findIdx?_eq_none_iff]
  intro y hy
  obtain ⟨j, hj⟩ := List.getElem?_of_mem hy
  exact h j y hj
set_option maxHeartbeats 2000000 in
theorem indexFunc_ent (gf : Nat) (lb : Array Value) (eg : ∀ args w, (callFunc gf args).run Try.prog w = .ok (.enter gf args) w) (p : En → Bool) (g : Nat) (l : List En) (w : World) (h : EntAt w g l)
    (hp : ∀ V x, Below w.heap.size w V → x ∈ l → Calls Try.prog gf (#[x.v] ++ lb) V fun e w' => e = .returned (.bool (p x)) ∧ Below V.heap.size V w') :
    Calls Try.prog 47 #[.slice (some ⟨g, 0, none⟩) 72 72, .func (.func gf) #[] lb] w fun e w' => e = .returned (.int .i64 (optI (l.findIdx? p))) ∧ Below w.heap.size w w' := by
  have hl := h.2
  have HE := Lib.hid h
  have HP := Lib.hid hp
  clear h hp
  go_enter Try.func47, Try.ntmps47
  go_wp2_with fail
  go_loopw [5, 8] (fun _ i wr => ∃ k : Nat, k ≤ 72 ∧ i = .int .i64 k ∧ (∀ j y, j < k → l[j]? = some y → p y = false) ∧ Below w.heap.size w wr) (fun _ i _ => 72 - (Go.RowKit.intOf i).toNat)
  case atStart => exact ⟨0, Nat.zero_le _, rfl, fun j y h => absurd h (Nat.not_lt_zero _), Below.refl _ _⟩
  case round =>
    obtain ⟨k, hk, rfl, hno, hb⟩ := hrel
    have Hno := Lib.hid hno
    have HB := Lib.hid hb
    clear hno hb
    by_cases hlt : k < 72
    · have hltz : (k : Int) < 72 := by omega
      obtain ⟨x, hx⟩ : ∃ x, l[k]? = some x := ⟨l[k]'(by omega), List.getElem?_eq_getElem (by omega)⟩
      obtain ⟨x0, x1⟩ := (HE.out.below HB.out HE.out.lt).cells hx
      have hcall := HP.out wr x HB.out (List.mem_of_getElem? hx)
      have Hx := Lib.hid hx
      clear hx
      cases hq : p x with
      | true =>
        rw [hq] at hcall
        have HF := Lib.hid (show l.findIdx? p = some k from findIdx_hit Hx.out hq Hno.out)
        clear hq
        go_wp2_with (go_at_fn gf; refine hcall.mono ?_; rintro e w' ⟨rfl, hb'⟩)
        go_ret
        exact ⟨by rw [HF.out]; rfl, HB.out.trans (hb'.mono HB.out.size)⟩
      | false =>
        rw [hq] at hcall
        have Hq := Lib.hid hq
        clear hq
        go_wp2_with (go_at_fn gf; refine hcall.mono ?_; rintro e w' ⟨rfl, hb'⟩)
        go_roundw
        case rel =>
          refine ⟨k + 1, by omega, by go_num, fun j z hj hz => ?_, HB.out.trans (hb'.mono HB.out.size)⟩
          rcases Nat.lt_or_ge j k with h | h
          · exact Hno.out j z h hz
          · obtain rfl : j = k := by omega
            obtain rfl := Option.some.inj (hz.symm.trans Hx.out)
            exact Hq.out
        case measure => simp [Go.RowKit.intOf]; omega
    · have hltz : ¬ (k : Int) < 72 := by omega
      have HF := Lib.hid (show l.findIdx? p = none from findIdx_miss fun j y hj => by
        have := (List.getElem?_eq_some_iff.1 hj).1
        exact Hno.out j y (by omega) hj)
      go_wp2_with fail
      go_ret
      exact ⟨by rw [HF.out]; rfl, HB.out⟩
end Go.Proofs.Ytmidoghjacmdcaa
