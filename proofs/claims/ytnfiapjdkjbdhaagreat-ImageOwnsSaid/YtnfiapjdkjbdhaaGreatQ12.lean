import Derived.Test.YtnfiapjdkjbdhaaGreatQ11
import Derived.Laws.OwnMore
namespace Go.Proofs.YtnfiapjdkjbdhaaGreat.Dirs
open Go.RowKit Go.Lib
set_option linter.unusedVariables false
set_option linter.unusedSimpArgs false
set_option maxRecDepth 10000
theorem enC_length (l : List En) : (enC l).length = l.length * 2 := by
  induction l with
  | nil => rfl
  | cons p r ih =>
    unfold enC at ih ⊢
    rw [List.flatMap_cons, List.length_append, ih, List.length_cons]
    simp only [List.length_cons, List.length_nil]
    omega
theorem enC_cons (x : En) (l : List En) : enC (x :: l) = str x.n :: .int .u32 (x.i : Int) :: enC l := by simp [enC]
theorem enC_at {l : List En} {k : Nat} {x : En} (h : l[k]? = some x) : (enC l)[k * 2]? = some (str x.n) ∧ (enC l)[k * 2 + 1]? = some (.int .u32 (x.i : Int)) := by
  induction l generalizing k with
  | nil => simp at h
  | cons p r ih =>
    rw [enC_cons]
    cases k with
    | zero => simp at h; subst h; exact ⟨rfl, rfl⟩
    | succ k =>
      have := ih (k := k) (by simpa using h)
      rw [show (k + 1) * 2 = k * 2 + 1 + 1 by omega]
      simpa using this
theorem enC_all (l : List En) : ∀ v ∈ enC l, v.oneCell' = true := by
  intro v hv
  obtain ⟨x, _, hx⟩ := List.mem_flatMap.1 hv
  simp at hx
  rcases hx with rfl | rfl <;> rfl
def EntRow (W : World) (v : Value) (l : List En) : Prop :=
  ∃ A c, v = .slice A l.length c ∧ ∀ j x, l[j]? = some x → ∃ g, A = some ⟨g, 0, none⟩ ∧ W.cell? ⟨g, j * 2, none⟩ = some (str x.n) ∧ W.cell? ⟨g, j * 2 + 1, none⟩ = some (.int .u32 (x.i : Int))
theorem EntRow.below {W W' : World} {v : Value} {l : List En} (h : EntRow W v l) (hb : Below W.heap.size W W') : EntRow W' v l := by
  obtain ⟨A, c, hv, hc⟩ := h
  refine ⟨A, c, hv, fun j x hj => ?_⟩
  obtain ⟨g, hA, h1, h2⟩ := hc j x hj
  have hg : g < W.heap.size := World.block_lt_of_cell? W _ h1
  exact ⟨g, hA, (hb.cell (p := ⟨g, j * 2, none⟩) hg).trans h1, (hb.cell (p := ⟨g, j * 2 + 1, none⟩) hg).trans h2⟩
theorem EntRow.nil (W : World) : EntRow W (.slice none 0 0) [] := ⟨none, 0, rfl, fun j x hj => by simp at hj⟩
abbrev OwnE (W : World) (base : Nat) (v : Value) (l : List En) : Prop := W.ownsRow base 193 2 v l.length (enC l)
theorem OwnE.row {W : World} {base : Nat} {v : Value} {l : List En} (h : OwnE W base v l) : EntRow W v l := by
  rcases h.2 with ⟨rfl, h0⟩ | ⟨g, cap, cur, hv, hrest⟩
  · exact ⟨none, 0, by rw [h0], fun j p hj => by rw [List.length_eq_zero_iff.1 h0] at hj; simp at hj⟩
  · refine ⟨some ⟨g, 0, none⟩, cap, hv, fun j p hj => ⟨_, rfl, ?_⟩⟩
    obtain ⟨h1, h2⟩ := enC_at hj
    have hg : v.ownBlock = some g := by rw [hv]; rfl
    have c1 := h.cells hg _ _ h1
    have c2 := h.cells hg _ _ h2
    rw [addr_add0] at c1 c2
    exact ⟨c1, c2⟩
def entAppend (args : Array Value) : Sem Value := Builtin.append_ #[201, 201] 201 args
@[go_sem ↓] theorem ent_append_fold (args : Array Value) : Builtin.append_ #[201, 201] 201 args = entAppend args := rfl
theorem formB_size {s : List UInt8} (h : sizeB s = false) : formB s = false := by simp [formB, h]
end Go.Proofs.YtnfiapjdkjbdhaaGreat.Dirs
/- Two entries compared. -/
namespace Go.Proofs.YtnfiapjdkjbdhaaGreat.Dirs
open Go.RowKit
set_option linter.unusedVariables false
set_option linter.unusedSimpArgs false
set_option maxRecDepth 10000
theorem eq_entry (a b : List UInt8) (c d : Int) (w : World) : (Op.equalIn 10000 193 (.agg #[str a, .int .u32 c]) (.agg #[str b, .int .u32 d])).run Tryz.prog w = .ok (decide (a = b) && c == d) w := by
  have u3 := Tryz.underlying9
  have a3 := Tryz.isAgg9
  have z3 := Tryz.sizeOf9
  have u5 := Tryz.underlying34
  have a5 := Tryz.isAgg34
  have z5 := Tryz.sizeOf34
  rw [run_equalIn_struct (P := Tryz.prog) (w := w) 9999 193 _ _ (by kernel_rfl) (by kernel_rfl)]
  simp only [Program.fieldsOf, Tryz.underlying193]
  go_simp
  by_cases h1 : a = b <;> by_cases h2 : c = d <;> simp [h1, h2]
theorem eq_ent (x y : En) (w : World) : (Op.equalIn 10000 193 x.v y.v).run Tryz.prog w = .ok (decide (x = y)) w := by
  rw [eq_entry]
  congr 1
  obtain ⟨a, c⟩ := x
  obtain ⟨b, d⟩ := y
  rw [Bool.eq_iff_iff]
  simp only [Bool.and_eq_true, beq_iff_eq, decide_eq_true_eq, En.mk.injEq]
  exact ⟨fun h => ⟨h.1, by omega⟩, fun h => ⟨h.1, by omega⟩⟩
end Go.Proofs.YtnfiapjdkjbdhaaGreat.Dirs
/- Layer 10 (dirs): the array of entries; place. -/
namespace Go.Proofs.YtnfiapjdkjbdhaaGreat.Dirs
open Go.RowKit Go.Lib
set_option linter.unusedVariables false
set_option linter.unusedSimpArgs false
set_option maxRecDepth 10000
def EntAt (W : World) (g : Nat) (l : List En) : Prop := W.heap[g]? = some (.cells (enC l).toArray 195 (0, 0)) ∧ l.length = 72
theorem EntAt.lt {W : World} {g : Nat} {l : List En} (h : EntAt W g l) : g < W.heap.size := (Array.getElem?_eq_some_iff.1 h.1).1
theorem EntAt.below {W W' : World} {g n : Nat} {l : List En} (h : EntAt W g l) (hb : Below n W W') (hg : g < n) : EntAt W' g l := ⟨(hb.block g hg).trans h.1, h.2⟩
theorem EntAt.after {W W' : World} {g : Nat} {l : List En} (h : EntAt W g l) (hb : Below W.heap.size W W') : EntAt W' g l := h.below hb h.lt
theorem EntAt.cells {W : World} {g : Nat} {l : List En} (h : EntAt W g l) {j : Nat} {x : En} (hj : l[j]? = some x) : W.cell? ⟨g, j * 2, none⟩ = some (str x.n) ∧ W.cell? ⟨g, j * 2 + 1, none⟩ = some (.int .u32 (x.i : Int)) := by
  obtain ⟨h1, h2⟩ := enC_at hj
  exact ⟨by rw [cell_of_row W g _ _ _ _ h.1]; simpa using h1, by rw [cell_of_row W g _ _ _ _ h.1]; simpa using h2⟩
theorem EntAt.soft {W : World} {g : Nat} {l : List En} (h : EntAt W g l) (j : Nat) : W.frozen? ⟨g, j, none⟩ = false := frozen_of_row W g j _ _ h.1
def entsLoad (x : Value) : Sem Value := Instr.loadAt 195 x
def entsStore (x v : Value) : Sem Unit := Instr.storeAt 195 x v
@[go_sem ↓] theorem ents_load_fold (x : Value) : Instr.loadAt 195 x = entsLoad x := rfl
@[go_sem ↓] theorem ents_store_fold (x v : Value) : Instr.storeAt 195 x v = entsStore x v := rfl
theorem ents_var {W : World} {g : Nat} {l : List En} (h : EntAt W g l) : (loadVar 195 ⟨g, 0, none⟩).run Tryz.prog W = .ok (entsV l) W :=
  run_loadVar_row (P := Tryz.prog) W g 195 195 _ (0, 0) _ h.1 Tryz.underlying195 rfl (by rw [List.size_toArray, enC_length, h.2]; kernel_rfl)
theorem ents_load {W : World} {g : Nat} {l : List En} (h : EntAt W g l) : (entsLoad (.pointer (some ⟨g, 0, none⟩))).run Tryz.prog W = .ok (entsV l) W := by
  unfold entsLoad
  simp only [Instr.loadAt, Instr.sureAddr, Sem.run_bind, Sem.run_pure, Result.andThen_ok, ents_var h]
theorem enC_allB (l : List En) : (enC l).toArray.all (·.oneCell') = true := by
  rw [Array.all_eq_true_iff_forall_mem]
  intro v hv
  exact enC_all l v (by simpa using hv)
theorem ents_store {W : World} {g : Nat} {l old : List En} (h : EntAt W g old) (hl : l.length = 72) :
    ∃ W', (entsStore (.pointer (some ⟨g, 0, none⟩)) (entsV l)).run Tryz.prog W = .ok () W' ∧ EntAt W' g l ∧ (∀ k, k ≠ g → W'.heap[k]? = W.heap[k]?) ∧ (∀ n, n ≤ g → Below n W W') ∧ W'.heap.size = W.heap.size := by
  have hst := run_storeCells_row (P := Tryz.prog) W g 195 _ (enC l) h.1 (by simp [enC_length, h.2, hl]) (enC_allB l)
  have sz := Tryz.sizeOf195
  refine ⟨W.setRow g (enC l).toArray, ?_, ⟨setRow_heap W g _ _ _ _ h.1, hl⟩, fun k hk => ?_, fun n hn => below_setRow (Below.refl _ _) g hn _, by simp [World.setRow]⟩
  · unfold entsStore
    simp only [Instr.storeAt, Instr.sureAddr, Sem.run_bind, Sem.run_pure, Result.andThen_ok]
    unfold storeVar
    simp only [Sem.run_bind, sz, Result.andThen_ok, Value.cells]
    have hlen : (enC l).length = 144 := by rw [enC_length, hl]
    simpa [hlen] using hst
  · simp only [World.setRow, Array.getElem?_modify]
    rw [if_neg (fun e => hk e.symm)]
theorem ents_alloc (W : World) (l : List En) (hl : l.length = 72) : EntAt (W.alloc (.cells (enC l).toArray 195)) W.heap.size l := ⟨heap_alloc_new W _, hl⟩
def optI : Option Nat → Int | some k => (k : Int) | none => -1
theorem findIdx_hit {α : Type} {l : List α} {p : α → Bool} {k : Nat} {x : α} (hk : l[k]? = some x) (hx : p x = true) (hno : ∀ (j : Nat) (y : α), j < k → l[j]? = some y → p y = false) : l.findIdx? p = some k := by
  rw [List.findIdx?_eq_some_iff_getElem]
  obtain ⟨h1, h2⟩ := List.getElem?_eq_some_iff.1 hk
  refine ⟨h1, by rw [h2]; exact hx, fun j hj => ?_⟩
  have := hno j l[j] hj (List.getElem?_eq_getElem _)
  simpa using this
theorem findIdx_miss {α : Type} {l : List α} {p : α → Bool} (h : ∀ (j : Nat) (y : α), l[j]? = some y → p y = false) : l.findIdx? p = none := by
  rw [List.findIdx?_eq_none_iff]
  intro y hy
  obtain ⟨j, hj⟩ := List.getElem?_of_mem hy
  exact h j y hj
set_option maxHeartbeats 2000000 in
theorem indexFunc_ent (gf : Nat) (lb : Array Value) (eg : ∀ args w, (callFunc gf args).run Tryz.prog w = .ok (.enter gf args) w) (p : En → Bool) (g : Nat) (l : List En) (w : World) (h : EntAt w g l)
    (hp : ∀ V x, Below w.heap.size w V → x ∈ l → Calls Tryz.prog gf (#[x.v] ++ lb) V fun e w' => e = .returned (.bool (p x)) ∧ Below V.heap.size V w') :
    Calls Tryz.prog 171 #[.slice (some ⟨g, 0, none⟩) 72 72, .func (.func gf) #[] lb] w fun e w' => e = .returned (.int .i64 (optI (l.findIdx? p))) ∧ Below w.heap.size w w' := by
  have hl := h.2
  have HE := Lib.hid h
  have HP := Lib.hid hp
  clear h hp
  go_enter Tryz.func171, Tryz.ntmps171
  go_wp2_with fail
  go_loopw [5, 8] (fun _ i wr => ∃ k : Nat, k ≤ 72 ∧ i = .int .i64 k ∧ (∀ j y, j < k → l[j]? = some y → p y = false) ∧ Below w.heap.size w wr) (fun _ i _ => 72 - (Go.RowKit.intOf i).toNat)
  case atStart => exact ⟨0, Nat.zero_le _, rfl, fun j y h => absurd h (Nat.not_lt_zero _), Below.refl _ _⟩
  case round =>
    obtain ⟨k, hk, rfl, hno, hb⟩ := hrel
    have Hno := Lib.hid hno
    have HB := Lib.hid hb
    clear hno hb
    by_cases hlt : k < 72
    · have hltz : (k : Int) < 72 := by omega
      obtain ⟨x, hx⟩ : ∃ x, l[k]? = some x := ⟨l[k]'(by omega), List.getElem?_eq_getElem (by omega)⟩
      obtain ⟨x0, x1⟩ := (HE.out.below HB.out HE.out.lt).cells hx
      have hcall := HP.out wr x HB.out (List.mem_of_getElem? hx)
      have Hx := Lib.hid hx
      clear hx
      cases hq : p x with
      | true =>
        rw [hq] at hcall
        have HF := Lib.hid (show l.findIdx? p = some k from findIdx_hit Hx.out hq Hno.out)
        clear hq
        go_wp2_with (go_at_fn gf; refine hcall.mono ?_; rintro e w' ⟨rfl, hb'⟩)
        go_ret
        exact ⟨by rw [HF.out]; rfl, HB.out.trans (hb'.mono HB.out.size)⟩
      | false =>
        rw [hq] at hcall
        have Hq := Lib.hid hq
        clear hq
        go_wp2_with (go_at_fn gf; refine hcall.mono ?_; rintro e w' ⟨rfl, hb'⟩)
        go_roundw
        case rel =>
          refine ⟨k + 1, by omega, by go_num, fun j z hj hz => ?_, HB.out.trans (hb'.mono HB.out.size)⟩
          rcases Nat.lt_or_ge j k with h | h
          · exact Hno.out j z h hz
          · obtain rfl : j = k := by omega
            obtain rfl := Option.some.inj (hz.symm.trans Hx.out)
            exact Hq.out
        case measure => simp [Go.RowKit.intOf]; omega
    · have hltz : ¬ (k : Int) < 72 := by omega
      have HF := Lib.hid (show l.findIdx? p = none from findIdx_miss fun j y hj => by
        have := (List.getElem?_eq_some_iff.1 hj).1
        exact Hno.out j y (by omega) hj)
      go_wp2_with fail
      go_ret
      exact ⟨by rw [HF.out]; rfl, HB.out⟩
end Go.Proofs.YtnfiapjdkjbdhaaGreat.Dirs
/- Layer 10 (dirs), the document's own answers: Check. -/
namespace Go.Proofs.YtnfiapjdkjbdhaaGreat.Dirs
open Go.RowKit Go.Lib
set_option linter.unusedVariables false
set_option linter.unusedSimpArgs false
set_option maxRecDepth 10000
theorem EntRow.at {W : World} {A : Option Addr} {n c : Nat} {l : List En} (h : EntRow W (.slice A n c) l) {j : Nat} {x : En} (hj : l[j]? = some x) :
    ∃ g, A = some ⟨g, 0, none⟩ ∧ W.cell? ⟨g, j * 2, none⟩ = some (str x.n) ∧ W.cell? ⟨g, j * 2 + 1, none⟩ = some (.int .u32 (x.i : Int)) := by
  obtain ⟨A', c', hv, hc⟩ := h
  cases hv
  exact hc j x hj
theorem EntRow.len {W : World} {A : Option Addr} {n c : Nat} {l : List En} (h : EntRow W (.slice A n c) l) : n = l.length := by
  obtain ⟨A', c', hv, hc⟩ := h
  cases hv; rfl
end Go.Proofs.YtnfiapjdkjbdhaaGreat.Dirs
/- Layer 10 (dirs), the document's own answers: Find, List. -/
namespace Go.Proofs.YtnfiapjdkjbdhaaGreat.Dirs
open Go.RowKit Go.Lib
set_option linter.unusedVariables false
set_option linter.unusedSimpArgs false
set_option maxRecDepth 10000
theorem chk_ne {s : List UInt8} (h : chk s ≠ 0) : (((chk s : Nat) : Int) != 0) = true := by simp; omega
theorem OwnE.below {W W' : World} {base : Nat} {v : Value} {l : List En} (h : OwnE W base v l) (hb : Below W.heap.size W W') : OwnE W' base v l := own_below h hb
end Go.Proofs.YtnfiapjdkjbdhaaGreat.Dirs
/- Layer 10 (dirs), the document's own answers: Add, Set, Del, Trim, Same. -/
namespace Go.Proofs.YtnfiapjdkjbdhaaGreat.Dirs
open Go.RowKit Go.Lib
set_option linter.unusedVariables false
set_option linter.unusedSimpArgs false
set_option maxRecDepth 10000
end Go.Proofs.YtnfiapjdkjbdhaaGreat.Dirs
/- Layer 10 (dirs), the document's own answers: Add. -/
namespace Go.Proofs.YtnfiapjdkjbdhaaGreat.Dirs
open Go.RowKit Go.Lib
set_option linter.unusedVariables false
set_option linter.unusedSimpArgs false
set_option maxRecDepth 10000
theorem pair_kept {W W' : World} {g : Nat} {a b : Value} (h : W.cell? ⟨g, 0, none⟩ = some a ∧ W.cell? ⟨g, 1, none⟩ = some b) (hb : Below W.heap.size W W') : W'.cell? ⟨g, 0, none⟩ = some a ∧ W'.cell? ⟨g, 1, none⟩ = some b :=
  have hg : g < W.heap.size := World.block_lt_of_cell? W _ h.1
  ⟨(hb.cell (p := ⟨g, 0, none⟩) hg).trans h.1, (hb.cell (p := ⟨g, 1, none⟩) hg).trans h.2⟩
end Go.Proofs.YtnfiapjdkjbdhaaGreat.Dirs
/- Layer 10 (dirs): place, and the first free slot. -/
namespace Go.Proofs.YtnfiapjdkjbdhaaGreat.Dirs
open Go.RowKit Go.Lib
set_option linter.unusedVariables false
set_option linter.unusedSimpArgs false
set_option maxRecDepth 10000
def hasN (n : List UInt8) (x : En) : Bool := !n.isEmpty && x.n == n
theorem look_has (l : List En) (n : List UInt8) : l.findIdx? (hasN n) = look l n := by
  unfold look
  split
  · rename_i h
    subst h
    exact findIdx_miss fun j y _ => rfl
  · rename_i h
    congr 1
    funext x
    unfold hasN
    have : n.isEmpty = false := by simp [h]
    rw [this]; rfl
set_option maxHeartbeats 1000000 in
theorem hasN_any (x : En) (n : List UInt8) (b : Nat) (V : World) (hc : V.cell? ⟨b, 0, none⟩ = some (str n)) :
    Calls Tryz.prog 172 #[x.v, .pointer (some ⟨b, 0, none⟩)] V fun e w' => e = .returned (.bool (hasN n x)) ∧ Below V.heap.size V w' := by
  obtain ⟨m, i⟩ := x
  have hc2 : (V.alloc (.cells #[str m, .int .u32 (i : Int)] 193)).cell? ⟨b, 0, none⟩ = some (str n) := Lib.cell?_alloc_some _ hc
  clear hc
  by_cases h0 : n = []
  · subst h0
    go_enter Tryz.func172, Tryz.ntmps172
    go_wp2_with fail
    go_ret
    exact ⟨rfl, (Below.refl _ _).alloc (Nat.le_refl _) _⟩
  · have h1 : n.isEmpty = false := by simp [h0]
    have HE := Lib.hid (show hasN n ⟨m, i⟩ = (m == n) by unfold hasN; rw [h1]; rfl)
    go_enter Tryz.func172, Tryz.ntmps172
    go_wp2_with fail
    go_ret
    exact ⟨by rw [HE.out]; rfl, (Below.refl _ _).alloc (Nat.le_refl _) _⟩
set_option maxHeartbeats 2000000 in
theorem place_any (g : Nat) (l : List En) (n : List UInt8) (w : World) (h : EntAt w g l) :
    Calls Tryz.prog 114 #[.pointer (some ⟨g, 0, none⟩), str n] w fun e w' => e = .returned (.int .i64 (optI (look l n))) ∧ Below w.heap.size w w' := by
  have hE : EntAt (w.alloc (.cells #[str n] 9)) g l := h.after ((Below.refl _ _).alloc (Nat.le_refl _) _)
  have hcell : (w.alloc (.cells #[str n] 9)).cell? ⟨w.heap.size, 0, none⟩ = some (str n) := cell_new_l w (str n) 9
  have hI := indexFunc_ent 172 #[.pointer (some ⟨w.heap.size, 0, none⟩)] (enters_of Tryz.func172 (by kernel_rfl) rfl) (hasN n) g l _ hE
    (fun V x hb _ => hasN_any x n w.heap.size V ((hb.cell (p := ⟨w.heap.size, 0, none⟩) (by simp)).trans hcell))
  rw [look_has] at hI
  have HI := Lib.hid hI
  clear hI hE hcell h
  go_enter Tryz.func114, Tryz.ntmps114
  go_wp2_with fail
  refine HI.out.mono ?_
  rintro e w1 ⟨rfl, hb⟩
  go_wp2_with fail
  go_ret
  exact ⟨rfl, ((Below.refl _ _).alloc (Nat.le_refl _) _).trans (hb.mono (by simp))⟩
set_option maxHeartbeats 2000000 in
theorem gap_any (g : Nat) (l : List En) (w : World) (h : EntAt w g l) :
    Calls Tryz.prog 115 #[.slice (some ⟨g, 0, none⟩) 72 72, .agg #[.string ⟨#[]⟩, .int .u32 0]] w fun e w' => e = .returned (.int .i64 (optI (gap l))) ∧ Below w.heap.size w w' := by
  have hl := h.2
  have HB0 := Lib.hid ((Below.refl w.heap.size w).alloc (Nat.le_refl _) (.cells #[str [], .int .u32 0] 193))
  have HE := Lib.hid (h.after HB0.out)
  have HV := Lib.hid (two_cells w (str []) (.int .u32 0) 193)
  clear h
  go_enter Tryz.func115, Tryz.ntmps115
  go_wp2_with fail
  generalize w.alloc (.cells #[str [], .int .u32 0] 193) = W0 at *
  go_loopw [5, 8] (fun _ i wr => ∃ k : Nat, k ≤ 72 ∧ i = .int .i64 k ∧ (∀ (j : Nat) (y : En), j < k → l[j]? = some y → y ≠ En.free) ∧ Below W0.heap.size W0 wr) (fun _ i _ => 72 - (Go.RowKit.intOf i).toNat)
  case atStart => exact ⟨0, Nat.zero_le _, rfl, fun j y h => absurd h (Nat.not_lt_zero _), Below.refl _ _⟩
  case round =>
    obtain ⟨k, hk, rfl, hno, hb⟩ := hrel
    have Hno := Lib.hid hno
    have HB := Lib.hid hb
    clear hno hb
    by_cases hlt : k < 72
    · have hltz : (k : Int) < 72 := by omega
      obtain ⟨x, hx⟩ : ∃ x, l[k]? = some x := ⟨l[k]'(by omega), List.getElem?_eq_getElem (by omega)⟩
      obtain ⟨x0, x1⟩ := (HE.out.below HB.out HE.out.lt).cells hx
      obtain ⟨v0, v1⟩ := pair_kept HV.out HB.out
      have Hx := Lib.hid hx
      clear hx
      by_cases hq : x = En.free
      · have heq : ∀ W, (Op.equalIn 10000 193 (.agg #[.string ⟨#[]⟩, .int .u32 0]) x.v).run Tryz.prog W = .ok true W := fun W => by
          have := eq_ent En.free x W
          rw [show decide (En.free = x) = true by simp [hq]] at this
          exact this
        have HF := Lib.hid (show gap l = some k from gap_hit (hq ▸ Hx.out) Hno.out)
        have heq2 : ∀ W, (Op.equalIn 10000 193 (.agg #[.string ⟨#[]⟩, .int .u32 0]) (.agg #[.string ⟨#[]⟩, .int .u32 0])).run Tryz.prog W = .ok true W := fun W => by
          have := eq_ent En.free En.free W
          rw [show decide (En.free = En.free) = true by simp] at this
          exact this
        clear hq
        go_wp2_with fail
        go_quiet (fail)
        go_wp2_with fail
        go_ret
        exact ⟨by rw [HF.out]; rfl, HB0.out.trans ((below_drewN HB.out _).mono HB0.out.size)⟩
      · have heq : ∀ W, (Op.equalIn 10000 193 (.agg #[.string ⟨#[]⟩, .int .u32 0]) x.v).run Tryz.prog W = .ok false W := fun W => by
          have := eq_ent En.free x W
          rw [show decide (En.free = x) = false by simp; exact fun e => hq e.symm] at this
          exact this
        have Hq := Lib.hid hq
        clear hq
        go_wp2_with fail
        go_quiet (fail)
        go_wp2_with fail
        go_roundw
        case rel =>
          refine ⟨k + 1, by omega, by go_num, fun j z hj hz => ?_, below_drewN HB.out _⟩
          rcases Nat.lt_or_ge j k with h | h
          · exact Hno.out j z h hz
          · obtain rfl : j = k := by omega
            obtain rfl := Option.some.inj (hz.symm.trans Hx.out)
            exact Hq.out
        case measure => simp [Go.RowKit.intOf]; omega
    · have hltz : ¬ (k : Int) < 72 := by omega
      have HF := Lib.hid (show gap l = none from gap_miss fun y hy => by
        obtain ⟨j, hj⟩ := List.getElem?_of_mem hy
        have := (List.getElem?_eq_some_iff.1 hj).1
        exact Hno.out j y (by omega) hj)
      go_wp2_with fail
      go_ret
      exact ⟨by rw [HF.out]; rfl, HB0.out.trans (HB.out.mono HB0.out.size)⟩
end Go.Proofs.YtnfiapjdkjbdhaaGreat.Dirs
/- Layer 10 (dirs): what is wrong with a slot. -/
namespace Go.Proofs.YtnfiapjdkjbdhaaGreat.Dirs
open Go.RowKit Go.Lib
set_option linter.unusedVariables false
set_option linter.unusedSimpArgs false
set_option maxRecDepth 10000
def wrongE (l : List En) (p : List UInt8) : Nat := if okS p = false then 7 else if (look l (getE p).n).isSome = true then 9 else 0
theorem wrong_form {l : List En} {p : List UInt8} (h : okS p = false) : wrongE l p = 7 := if_pos h
theorem wrong_have {l : List En} {p : List UInt8} {k : Nat} (h : okS p = true) (hk : look l (getE p).n = some k) : wrongE l p = 9 := by
  unfold wrongE; rw [if_neg (by simp [h]), hk]; rfl
theorem wrong_ok {l : List En} {p : List UInt8} (h : okS p = true) (hk : look l (getE p).n = none) : wrongE l p = 0 := by
  unfold wrongE; rw [if_neg (by simp [h]), hk]; rfl
theorem ne_entry {x : En} {t : Bool} (h : decide (x = En.free) = t) (W : World) : (Op.equalIn 10000 193 x.v (.agg #[.string ⟨#[]⟩, .int .u32 0])).run Tryz.prog W = .ok t W := by
  rw [← h]; exact eq_ent x En.free W
set_option maxRecDepth 100000 in
set_option maxHeartbeats 2000000 in
theorem wrong_any (p : List UInt8) (hp : p.length = 32) (g : Nat) (l : List En) (w : World) (h : EntAt w g l) :
    Calls Tryz.prog 166 #[(getE p).v, str p, .pointer (some ⟨g, 0, none⟩)] w fun e w' => e = .returned (.int .i64 (wrongE l p : Nat)) ∧ Below w.heap.size w w' := by
  have hn := getE_len hp
  have hi := leV_lt4 p
  have hi : (getE p).i < 4294967296 := hi
  have HM := Lib.hid fun W => may_any (getE p) W (by simp only [maxLen]; omega)
  have HP := Lib.hid fun W => dput_any (getE p) W hi hn
  have HB0 := Lib.hid ((Below.refl w.heap.size w).alloc (Nat.le_refl _) (.cells #[str (getE p).n, .int .u32 ((getE p).i : Int)] 193))
  have HE := Lib.hid (h.after HB0.out)
  have HV := two_cells w (str (getE p).n) (.int .u32 ((getE p).i : Int)) 193
  have HPl := Lib.hid fun W (hW : EntAt W g l) => place_any g l (getE p).n W hW
  have HokS := Lib.hid (show okS p = ((decide (getE p = En.free) || mayB (getE p)) && decide (slotL (getE p) = p)) from rfl)
  have HW7 := Lib.hid fun (h : okS p = false) => wrong_form (l := l) h
  have HW9 := Lib.hid fun (h : okS p = true) k (hk : look l (getE p).n = some k) => wrong_have (l := l) h hk
  have HW0 := Lib.hid fun (h : okS p = true) (hk : look l (getE p).n = none) => wrong_ok (l := l) h hk
  clear h
  generalize getE p = x at *
  cases hf : decide (x = En.free) with
  | false =>
    have hne := fun W => ne_entry hf W
    rw [hf] at HokS
    cases hm : mayB x with
    | false =>
      rw [hm] at HM HokS
      have H7 := Lib.hid (HW7.out HokS.out)
      clear hf hm
      go_enter Tryz.func166, Tryz.ntmps166
      go_wp2_with fail
      refine (HM.out _).mono ?_
      rintro e w1 ⟨rfl, hb1⟩
      have HB1 := Lib.hid (HB0.out.trans (hb1.mono HB0.out.size))
      clear hb1 HM
      go_wp2_with fail
      go_ret
      exact ⟨by rw [H7.out]; rfl, HB1.out⟩
    | true =>
      rw [hm] at HM HokS
      cases hs : decide (slotL x = p) with
      | false =>
        have q1 : (slotL x == p) = false := by simpa using hs
        rw [hs] at HokS
        have H7 := Lib.hid (HW7.out HokS.out)
        clear hf hm hs
        go_enter Tryz.func166, Tryz.ntmps166
        go_wp2_with fail
        refine (HM.out _).mono ?_
        rintro e w1 ⟨rfl, hb1⟩
        obtain ⟨x0, x1⟩ := pair_kept HV hb1
        have HB1 := Lib.hid (HB0.out.trans (hb1.mono HB0.out.size))
        clear hb1 HM HV
        go_wp2_with fail
        refine (HP.out _).mono ?_
        rintro e w2 ⟨rfl, hb2⟩
        have HB2 := Lib.hid (HB1.out.trans (hb2.mono HB1.out.size))
        clear hb2 HP x0 x1
        go_wp2_with fail
        go_ret
        exact ⟨by rw [H7.out]; rfl, HB2.out⟩
      | true =>
        have q1 : (slotL x == p) = true := by simpa using hs
        rw [hs] at HokS
        clear hf hm hs
        cases hk : look l x.n with
        | some k =>
          have H9 := Lib.hid (HW9.out HokS.out k hk)
          rw [hk] at HPl
          clear hk
          go_enter Tryz.func166, Tryz.ntmps166
          go_wp2_with fail
          refine (HM.out _).mono ?_
          rintro e w1 ⟨rfl, hb1⟩
          have HV1 := Lib.hid (pair_kept HV hb1)
          have HE1 := Lib.hid (HE.out.after hb1)
          have HB1 := Lib.hid (HB0.out.trans (hb1.mono HB0.out.size))
          clear hb1 HM HV
          obtain ⟨x0, x1⟩ := HV1.out
          go_wp2_with fail
          refine (HP.out _).mono ?_
          rintro e w2 ⟨rfl, hb2⟩
          have HV2 := Lib.hid (pair_kept HV1.out hb2)
          have HE2 := Lib.hid (HE1.out.after hb2)
          have HB2 := Lib.hid (HB1.out.trans (hb2.mono HB1.out.size))
          clear hb2 HP x0 x1
          obtain ⟨x0, x1⟩ := HV2.out
          go_wp2_with fail
          refine (HPl.out _ HE2.out).mono ?_
          rintro e w3 ⟨rfl, hb3⟩
          have HB3 := Lib.hid (HB2.out.trans (hb3.mono HB2.out.size))
          clear hb3 x0 x1
          dsimp only [optI]
          go_wp2_with fail
          go_ret
          exact ⟨by rw [H9.out]; rfl, HB3.out⟩
        | none =>
          have H9 := Lib.hid (HW0.out HokS.out hk)
          rw [hk] at HPl
          clear hk
          go_enter Tryz.func166, Tryz.ntmps166
          go_wp2_with fail
          refine (HM.out _).mono ?_
          rintro e w1 ⟨rfl, hb1⟩
          have HV1 := Lib.hid (pair_kept HV hb1)
          have HE1 := Lib.hid (HE.out.after hb1)
          have HB1 := Lib.hid (HB0.out.trans (hb1.mono HB0.out.size))
          clear hb1 HM HV
          obtain ⟨x0, x1⟩ := HV1.out
          go_wp2_with fail
          refine (HP.out _).mono ?_
          rintro e w2 ⟨rfl, hb2⟩
          have HV2 := Lib.hid (pair_kept HV1.out hb2)
          have HE2 := Lib.hid (HE1.out.after hb2)
          have HB2 := Lib.hid (HB1.out.trans (hb2.mono HB1.out.size))
          clear hb2 HP x0 x1
          obtain ⟨x0, x1⟩ := HV2.out
          go_wp2_with fail
          refine (HPl.out _ HE2.out).mono ?_
          rintro e w3 ⟨rfl, hb3⟩
          have HB3 := Lib.hid (HB2.out.trans (hb3.mono HB2.out.size))
          clear hb3 x0 x1
          dsimp only [optI]
          go_wp2_with fail
          go_ret
          exact ⟨by rw [H9.out]; rfl, HB3.out⟩
  | true =>
    have hne := fun W => ne_entry hf W
    rw [hf] at HokS
    have hne2 : ∀ W, (Op.equalIn 10000 193 (.agg #[.string ⟨#[]⟩, .int .u32 0]) (.agg #[.string ⟨#[]⟩, .int .u32 0])).run Tryz.prog W = .ok true W := fun W => by
      have := eq_ent En.free En.free W
      rw [show decide (En.free = En.free) = true by simp] at this
      exact this
    cases hs : decide (slotL x = p) with
    | false =>
      have q1 : (slotL x == p) = false := by simpa using hs
      rw [hs] at HokS
      have H7 := Lib.hid (HW7.out (by rw [HokS.out]; simp))
      clear hf hs
      go_enter Tryz.func166, Tryz.ntmps166
      go_wp2_with fail
      refine (HP.out _).mono ?_
      rintro e w2 ⟨rfl, hb2⟩
      have HB2 := Lib.hid (HB0.out.trans (hb2.mono HB0.out.size))
      clear hb2 HP HV
      go_wp2_with fail
      go_ret
      exact ⟨by rw [H7.out]; rfl, HB2.out⟩
    | true =>
      have q1 : (slotL x == p) = true := by simpa using hs
      rw [hs] at HokS
      clear hf hs
      cases hk : look l x.n with
      | some k =>
        have H9 := Lib.hid (HW9.out HokS.out k hk)
        rw [hk] at HPl
        clear hk
        go_enter Tryz.func166, Tryz.ntmps166
        go_wp2_with fail
        refine (HP.out _).mono ?_
        rintro e w2 ⟨rfl, hb2⟩
        have HV2 := Lib.hid (pair_kept HV hb2)
        have HE2 := Lib.hid (HE.out.after hb2)
        have HB2 := Lib.hid (HB0.out.trans (hb2.mono HB0.out.size))
        clear hb2 HP HV
        obtain ⟨x0, x1⟩ := HV2.out
        go_wp2_with fail
        refine (HPl.out _ HE2.out).mono ?_
        rintro e w3 ⟨rfl, hb3⟩
        have HB3 := Lib.hid (HB2.out.trans (hb3.mono HB2.out.size))
        clear hb3 x0 x1
        dsimp only [optI]
        go_wp2_with fail
        go_ret
        exact ⟨by rw [H9.out]; rfl, HB3.out⟩
      | none =>
        have H9 := Lib.hid (HW0.out HokS.out hk)
        rw [hk] at HPl
        clear hk
        go_enter Tryz.func166, Tryz.ntmps166
        go_wp2_with fail
        refine (HP.out _).mono ?_
        rintro e w2 ⟨rfl, hb2⟩
        have HV2 := Lib.hid (pair_kept HV hb2)
        have HE2 := Lib.hid (HE.out.after hb2)
        have HB2 := Lib.hid (HB0.out.trans (hb2.mono HB0.out.size))
        clear hb2 HP HV
        obtain ⟨x0, x1⟩ := HV2.out
        go_wp2_with fail
        refine (HPl.out _ HE2.out).mono ?_
        rintro e w3 ⟨rfl, hb3⟩
        have HB3 := Lib.hid (HB2.out.trans (hb3.mono HB2.out.size))
        clear hb3 x0 x1
        dsimp only [optI]
        go_wp2_with fail
        go_ret
        exact ⟨by rw [H9.out]; rfl, HB3.out⟩
end Go.Proofs.YtnfiapjdkjbdhaaGreat.Dirs
/- Layer 10 (dirs): the slots of a text, one by one. -/
namespace Go.Proofs.YtnfiapjdkjbdhaaGreat.Dirs
open Go.RowKit Go.Shelf
set_option linter.unusedVariables false
set_option linter.unusedSimpArgs false
set_option maxRecDepth 10000
attribute [local go_sem] Oper.semAt_some
abbrev SlIx (s : List UInt8) := Fin (slots s).length
def SlRow (s : List UInt8) (k : Nat) (xs : List (SlIx s)) : Prop := xs.map Fin.val = List.range' 0 k
theorem SlRow.nil (s : List UInt8) : SlRow s 0 [] := rfl
theorem SlRow.length {s : List UInt8} {k : Nat} {xs : List (SlIx s)} (h : SlRow s k xs) : xs.length = k := by
  have := congrArg List.length h
  simpa using this
theorem SlRow.snoc {s : List UInt8} {k : Nat} {xs : List (SlIx s)} (h : SlRow s k xs) (x : SlIx s) (hx : x.val = k) : SlRow s (k + 1) (xs ++ [x]) := by
  unfold SlRow at *
  rw [List.map_append, h, List.range'_concat]
  simp [hx]
theorem SlRow.unsnoc {s : List UInt8} {k : Nat} {xs : List (SlIx s)} {x : SlIx s} (h : SlRow s k (xs ++ [x])) : ∃ j, k = j + 1 ∧ SlRow s j xs ∧ x.val = j := by
  have hl := h.length
  simp only [List.length_append, List.length_singleton] at hl
  refine ⟨xs.length, hl.symm, ?_⟩
  subst hl
  unfold SlRow at *
  rw [List.map_append, List.range'_concat] at h
  have := List.append_inj h (by simp)
  exact ⟨this.1, by simpa using this.2⟩
def KeepHi (n : Nat) (W W' : World) : Prop := ∀ b o v, n ≤ b → W.cell? ⟨b, o, none⟩ = some v → W'.cell? ⟨b, o, none⟩ = some v
theorem KeepHi.refl (n : Nat) (W : World) : KeepHi n W W := fun _ _ _ _ h => h
theorem KeepHi.trans {n : Nat} {X Y Z : World} (h : KeepHi n X Y) (k : KeepHi n Y Z) : KeepHi n X Z := fun b o v hb e => k b o v hb (h b o v hb e)
theorem KeepHi.putObj {n l : Nat} {W : World} {o : Obj} (o' : Obj) (hl : W.heap[l]? = some o) (ho : o.isCells = false) : KeepHi n W (W.putObj l o') := fun b q v _ h =>
  cell_kept h (grownBy_putObj' W l o') (fun r e => by cases e; exact ⟨_, hl, ho⟩)
theorem KeepHi.below {n : Nat} {W W' : World} (h : Below W.heap.size W W') : KeepHi n W W' := fun b o v _ e => (h.cell (p := ⟨b, o, none⟩) (World.block_lt_of_cell? W _ e)).trans e
theorem KeepHi.setCell {n : Nat} (W : World) (p : Addr) (v : Value) (h : p.block < n) : KeepHi n W (W.setCell p v) := fun b o u hb e => by
  rw [World.cell?_setCell_other _ _ _ _ (by rintro rfl; simp at h; omega)]; exact e
theorem KeepHi.drew (n : Nat) (W : World) : KeepHi n W W.drew := fun _ _ _ _ h => h
theorem keeps_below {W W' : World} (h : Below W.heap.size W W') : KeepsOthers W W' := KeepsOthers.of_grownBy (grown_of_below h none) (fun j o e => by cases e)
theorem slots_any (s : List UInt8) (w : World) :
    Calls Tryz.prog 168 #[str s] w fun e w' => e = .returned (.func (.func 207) #[] #[.pointer (some ⟨w.heap.size, 0, none⟩)]) ∧ w' = w.alloc (.cells #[str s] 9) := by
  go_enter Tryz.func168, Tryz.ntmps168
  go_wp2_with fail
  go_ret
  exact ⟨rfl, rfl⟩
theorem own_texts {W : World} {base : Nat} {e : TypeId} {v : Value} {ps : List (List UInt8)} (h : W.ownsRow base e 1 v ps.length (ps.map str)) :
    ∃ A c, v = .slice A ps.length c ∧ ∀ j p, ps[j]? = some p → ∃ g, A = some ⟨g, 0, none⟩ ∧ base ≤ g ∧ W.cell? ⟨g, j, none⟩ = some (str p) := by
  obtain ⟨A, c, hv, hc⟩ := row_of_own h
  rw [List.length_map] at hv
  refine ⟨A, c, hv, fun j p hj => ?_⟩
  obtain ⟨g, hA, hcell⟩ := hc j (str p) (by simp [hj])
  refine ⟨g, hA, ?_, hcell⟩
  rcases h.2 with ⟨rfl, h0⟩ | ⟨g', cap, cur, hv', hb, _⟩
  · injection hv with e1 e2 e3
    rw [← e1] at hA; cases hA
  · rw [hv'] at hv
    injection hv with e1 e2 e3
    rw [← e1] at hA
    injection hA with e4
    injection e4 with e5
    omega
theorem partsL_len (n : Nat) : ∀ (f : Nat) (l : List UInt8), (partsL n f l).length ≤ f
  | 0, l => by simp [partsL]
  | f + 1, l => by
    unfold partsL
    split
    · simp
    · have := partsL_len n f (l.drop n)
      simp; omega
set_option maxRecDepth 100000 in
set_option maxHeartbeats 2000000 in
theorem slots_in (s : List UInt8) (hs : s.length ≤ 8192) (y Bs n₀ : Nat) (J Jx : List (SlIx s) → World → Prop)
    (W : World) (hJ : AbidesFrom W.heap.size J) (hn0 : n₀ ≤ W.heap.size)
    (hY : ∀ pre (x : SlIx s) W, J pre W → pre.length < (slots s).length → YieldAt Fence.wide 1 Tryz.prog y #[.int .i64 (x.val : Int), str (slots s)[x.val]] W fun e W' =>
      (e = .returned (.bool true) ∧ J (pre ++ [x]) W' ∧ KeepHi n₀ W W') ∨ (e = .returned (.bool false) ∧ Jx (pre ++ [x]) W'))
    (hcs : W.cell? ⟨Bs, 0, none⟩ = some (str s)) (h0 : J [] W) :
    CallsIn Fence.wide 2 Tryz.prog 207 #[.func (.yield y) #[] #[], .pointer (some ⟨Bs, 0, none⟩)] W fun e W' => (∃ v, e = .returned v) ∧
      ((∃ ys, SlRow s (slots s).length ys ∧ J ys W') ∨ (∃ pre, (∃ k, k ≤ (slots s).length ∧ SlRow s k pre) ∧ Jx pre W')) := by
  have HSp := Lib.hid fun V => split_ok s 32 V hs (by decide) (by decide)
  have HJ := Lib.hid hJ
  clear hJ
  refine callsIn_of_wp Tryz.func207 rfl trivial ?_ rfl
  simp only [Tryz.ntmps207, List.size_toArray, List.length_cons, List.length_nil, Nat.reduceAdd, Nat.reduceSub, Array.replicate_succ, Array.replicate_zero, List.push_toArray, List.append_toArray, List.nil_append, List.cons_append]
  gi_wp2_with fail
  refine ⟨trivial, (callsIn_wide.2 (HSp.out _)).mono ?_⟩
  rintro e w1 ⟨v, rfl, hown, hb1⟩
  have h1 : J [] w1 := HJ.out [] W w1 none h0 (grown_of_below hb1 none) (fun r e => by cases e)
  have hown : w1.ownsRow W.heap.size 9 1 v (slots s).length ((slots s).map str) := hown
  obtain ⟨A, c, rfl, hc⟩ := own_texts hown
  have Hc := Lib.hid hc
  clear hc hown HSp HJ h0 hcs
  gi_wp2_with fail
  gi_loopw [14] (fun i wr => ∃ (k : Nat) (pre : List (SlIx s)), k ≤ (slots s).length ∧ i = .int .i64 (k : Int) ∧ SlRow s k pre ∧ J pre wr ∧ KeepHi n₀ w1 wr)
    (fun i _ => (slots s).length - (Go.RowKit.intOf i).toNat)
  case atStart => exact ⟨0, [], Nat.zero_le _, rfl, SlRow.nil _, h1, KeepHi.refl _ _⟩
  case round =>
    obtain ⟨k, pre, hk, rfl, hrow, hJs, hnx⟩ := hrel
    have Hrow := Lib.hid hrow
    have Hnx := Lib.hid hnx
    clear hrow hnx
    by_cases hlt : k < (slots s).length
    · obtain ⟨fn, tmps, assign, body, hy, hR⟩ := hY pre ⟨k, hlt⟩ wr hJs (by rw [Hrow.out.length]; omega)
      obtain ⟨g, rfl, hg, hcell⟩ := Hc.out k _ (List.getElem?_eq_getElem hlt)
      have hcx := Hnx.out g k _ (by omega) hcell
      dsimp only at hy
      have hltz : (k : Int) < ((slots s).length : Int) := by omega
      have h81 : (slots s).length ≤ 8192 := partsL_len 32 8192 s
      generalize (slots s)[k] = p at *
      clear hcell
      gi_wp2_with fail
      refine hR.mono ?_
      rintro e W3 (⟨rfl, hJ3, hk3⟩ | ⟨rfl, hJx3⟩)
      · gi_wp2_with fail
        go_roundw
        case rel => exact ⟨k + 1, pre ++ [⟨k, hlt⟩], by omega, by go_num, Hrow.out.snoc _ rfl, hJ3, Hnx.out.trans hk3⟩
        case measure => simp [Go.RowKit.intOf]; omega
      · gi_wp2_with fail
        refine bodyPost_ret (results_none rfl _ _ _) rfl ?_
        exact ⟨⟨_, rfl⟩, .inr ⟨_, ⟨k + 1, by omega, Hrow.out.snoc ⟨k, hlt⟩ rfl⟩, hJx3⟩⟩
    · have hkn : k = (slots s).length := by omega
      have hltz : ¬ (k : Int) < ((slots s).length : Int) := by omega
      have Hkn := Lib.hid hkn
      clear hkn
      gi_wp2_with fail
      go_end0
      exact ⟨⟨_, rfl⟩, .inl ⟨pre, by have := Hrow.out; rwa [Hkn.out] at this, hJs⟩⟩
end Go.Proofs.YtnfiapjdkjbdhaaGreat.Dirs
/- Layer 10 (dirs): read. -/
namespace Go.Proofs.YtnfiapjdkjbdhaaGreat.Dirs
open Go.RowKit Go.Shelf
set_option linter.unusedVariables false
set_option linter.unusedSimpArgs false
set_option maxRecDepth 10000
attribute [local go_sem] Oper.semAt_some
theorem results_row_tmpD {fn : Func} {p q : Tmp} {ty : TypeId} {P : Program} (h : fn.results = #[.cell p ty, .tmp q]) (tmps : Array Value) (w : World) (g : Nat) (v : Value)
    (hp : tmps.getD p undef = .pointer (some ⟨g, 0, none⟩)) (hl : (loadVar ty ⟨g, 0, none⟩).run P w = .ok v w) :
    (results fn tmps).run P w = .ok (.tuple #[v, tmps.getD q undef]) w := by
  have hp' : tmps[p]?.getD undef = .pointer (some ⟨g, 0, none⟩) := by simpa using hp
  simp [results, h, hp', asAddr, hl]
theorem EntAt.kept {W W' : World} {g : Nat} {l : List En} {row : Option Nat} (h : EntAt W g l) (hg : W.grownBy W' row) (hr : ∀ r, row = some r → ∃ o : Obj, W.heap[r]? = some o ∧ o.isCells = false) : EntAt W' g l :=
  ⟨(grownBy_keeps_cells hg hr h.1 rfl).trans h.1, h.2⟩
def RdJ (s : List UInt8) (pre : List (SlIx s)) (l : List En) (e : Int) : Prop :=
  SlRow s pre.length pre → (∀ p ∈ (slots s).take pre.length, okS p = true) ∧
    ((e = 0 ∧ uniq (((slots s).take pre.length).map getE) ∧ l = pad72 (((slots s).take pre.length).map getE)) ∨ (e = 9 ∧ ¬ uniq (((slots s).take pre.length).map getE)))
structure RdW (Z : List En) (r : Nat) (l : List En) (e : Int) (W : World) : Prop where
  res : EntAt W r Z
  arr : EntAt W (r + 1) l
  fn : W.cell? ⟨r + 1 + 1, 0, none⟩ = some (.func (.func 166) #[] #[.pointer (some ⟨r + 1, 0, none⟩)])
  err : W.cell? ⟨r + 1 + 1 + 1, 0, none⟩ = some (.int .i64 e)
  soft : W.frozen? ⟨r + 1 + 1 + 1, 0, none⟩ = false
theorem RdW.kept {Z : List En} {r : Nat} {l : List En} {e : Int} {W W' : World} {row : Option Nat} (h : RdW Z r l e W) (hg : W.grownBy W' row) (hr : ∀ r, row = some r → ∃ o : Obj, W.heap[r]? = some o ∧ o.isCells = false) : RdW Z r l e W' :=
  ⟨h.res.kept hg hr, h.arr.kept hg hr, cell_kept h.fn hg hr, cell_kept h.err hg hr, (frozen_kept h.err hg hr).trans h.soft⟩
theorem RdW.after {Z : List En} {r : Nat} {l : List En} {e : Int} {W W' : World} (h : RdW Z r l e W) (hb : Below W.heap.size W W') : RdW Z r l e W' :=
  h.kept (grown_of_below hb none) (fun r e => by cases e)
theorem RdW.start (w : World) (Z : List En) (hZ : Z.length = 72) (s : List UInt8) (f : Value) (hf : f = .func (.func 166) #[] #[.pointer (some ⟨w.heap.size + 1, 0, none⟩)]) :
    RdW Z w.heap.size Z 0 (((((w.alloc (.cells (enC Z).toArray 195)).alloc (.cells (enC Z).toArray 195)).alloc (.cells #[f] 261)).alloc (.cells #[.int .i64 0] 35)).alloc (.cells #[str s] 9)) := by
  subst hf
  have h1 := ents_alloc w Z hZ
  have h2 := ents_alloc (w.alloc (.cells (enC Z).toArray 195)) Z hZ
  rw [World.size_alloc] at h2
  have h3 := cell_new_l ((w.alloc (.cells (enC Z).toArray 195)).alloc (.cells (enC Z).toArray 195)) (.func (.func 166) #[] #[.pointer (some ⟨w.heap.size + 1, 0, none⟩)]) 261
  have h4 := cell_new_l (((w.alloc (.cells (enC Z).toArray 195)).alloc (.cells (enC Z).toArray 195)).alloc (.cells #[.func (.func 166) #[] #[.pointer (some ⟨w.heap.size + 1, 0, none⟩)]] 261)) (.int .i64 0) 35
  have h5 := frozen_new_l (((w.alloc (.cells (enC Z).toArray 195)).alloc (.cells (enC Z).toArray 195)).alloc (.cells #[.func (.func 166) #[] #[.pointer (some ⟨w.heap.size + 1, 0, none⟩)]] 261)) (.int .i64 0) 35
  simp only [World.size_alloc] at h3 h4 h5
  have b : ∀ (V : World) (o : Obj), Below V.heap.size V (V.alloc o) := fun V o => (Below.refl _ _).alloc (Nat.le_refl _) o
  refine ⟨(((h1.after (b _ _)).after (b _ _)).after (b _ _)).after (b _ _), ((h2.after (b _ _)).after (b _ _)).after (b _ _), Lib.cell?_alloc_some _ (Lib.cell?_alloc_some _ h3), Lib.cell?_alloc_some _ h4, ?_⟩
  have := (b ((((w.alloc (.cells (enC Z).toArray 195)).alloc (.cells (enC Z).toArray 195)).alloc (.cells #[.func (.func 166) #[] #[.pointer (some ⟨w.heap.size + 1, 0, none⟩)]] 261)).alloc (.cells #[.int .i64 0] 35)) (.cells #[str s] 9)).frozen (p := ⟨w.heap.size + 1 + 1 + 1, 0, none⟩) (by simp)
  exact this.trans h5
theorem RdW.setErr {Z : List En} {r : Nat} {l : List En} {e : Int} {W : World} (h : RdW Z r l e W) (e' : Int) : RdW Z r l e' (W.setCell ⟨r + 1 + 1 + 1, 0, none⟩ (.int .i64 e')) := by
  refine ⟨⟨?_, h.res.2⟩, ⟨?_, h.arr.2⟩, ?_, World.cell?_setCell_same' _ _ _ (by rw [h.err]; rfl), by rw [World.frozen?_setCell]; exact h.soft⟩
  · rw [heap_setCell_other _ _ _ _ (by simp only; omega)]; exact h.res.1
  · rw [heap_setCell_other _ _ _ _ (by simp only; omega)]; exact h.arr.1
  · rw [World.cell?_setCell_other _ _ _ _ (by intro e; injection e; omega)]; exact h.fn
theorem enC_set (l : List En) (j : Nat) (x : En) (h : j < l.length) : ((enC l).toArray.setIfInBounds (j * 2) (str x.n)).setIfInBounds (j * 2 + 1) (.int .u32 (x.i : Int)) = (enC (l.set j x)).toArray := by
  apply Array.ext'
  simp only [Array.toList_setIfInBounds]
  induction l generalizing j with
  | nil => simp at h
  | cons y r ih =>
    rw [enC_cons]
    cases j with
    | zero => simp [enC]
    | succ j =>
      rw [List.set_cons_succ, enC_cons, show (j + 1) * 2 = j * 2 + 1 + 1 by omega, List.set_cons_succ, List.set_cons_succ, List.set_cons_succ, List.set_cons_succ, ih j (by simpa using h)]
theorem RdW.put {Z : List En} {r : Nat} {l : List En} {e : Int} {W : World} (h : RdW Z r l e W) {j : Nat} (hj : j < 72) (x : En) :
    RdW Z r (l.set j x) e ((W.setCell ⟨r + 1, j * 2, none⟩ (str x.n)).setCell ⟨r + 1, j * 2 + 1, none⟩ (.int .u32 (x.i : Int))) := by
  refine ⟨⟨?_, h.res.2⟩, ⟨?_, by rw [List.length_set]; exact h.arr.2⟩, ?_, ?_, by rw [World.frozen?_setCell, World.frozen?_setCell]; exact h.soft⟩
  · rw [heap_setCell_other _ _ _ _ (by simp only; omega), heap_setCell_other _ _ _ _ (by simp only; omega)]; exact h.res.1
  · have e1 := heap_setCell_same W (r + 1) (j * 2) _ _ (str x.n) h.arr.1
    rw [heap_setCell_same _ (r + 1) (j * 2 + 1) _ _ _ e1, enC_set l j x (by rw [h.arr.2]; exact hj)]
  · rw [World.cell?_setCell_other _ _ _ _ (by intro e; injection e; omega), World.cell?_setCell_other _ _ _ _ (by intro e; injection e; omega)]; exact h.fn
  · rw [World.cell?_setCell_other _ _ _ _ (by intro e; injection e; omega), World.cell?_setCell_other _ _ _ _ (by intro e; injection e; omega)]; exact h.err
theorem pad72_set {a : List En} (h : a.length < 72) (x : En) : (pad72 a).set a.length x = pad72 (a ++ [x]) := by
  unfold pad72
  rw [List.set_append_right _ _ (Nat.le_refl _), Nat.sub_self]
  obtain ⟨m, hm⟩ : ∃ m, 72 - a.length = m + 1 := ⟨72 - a.length - 1, by omega⟩
  have : 72 - (a ++ [x]).length = m := by simp; omega
  rw [hm, this, List.replicate_succ, List.set_cons_zero]
  simp
theorem uniq_snoc {a : List En} {x : En} : uniq (a ++ [x]) ↔ uniq a ∧ ∀ y ∈ a, y.n = x.n → x.n = [] := by
  unfold uniq
  rw [List.pairwise_append]
  constructor
  · rintro ⟨h1, _, h3⟩
    exact ⟨h1, fun y hy => h3 y hy x (by simp)⟩
  · rintro ⟨h1, h2⟩
    refine ⟨h1, by simp, fun y hy z hz => ?_⟩
    rw [List.mem_singleton.1 hz]
    exact h2 y hy
section
variable {s : List UInt8} {pre : List (SlIx s)} {l : List En} {e : Int} {x : SlIx s} {p : List UInt8}
theorem rdj_row (h : SlRow s (pre ++ [x]).length (pre ++ [x])) : SlRow s pre.length pre ∧ x.val = pre.length := by
  obtain ⟨j, hj, hr, hx⟩ := h.unsnoc
  have : j = pre.length := by simp at hj; omega
  subst this
  exact ⟨hr, hx⟩
theorem rdj_take (h : SlRow s (pre ++ [x]).length (pre ++ [x])) (hp : (slots s)[x.val]? = some p) : (slots s).take (pre ++ [x]).length = (slots s).take pre.length ++ [p] := by
  have hx := (rdj_row h).2
  rw [hx] at hp
  obtain ⟨h1, h2⟩ := List.getElem?_eq_some_iff.1 hp
  rw [List.length_append, List.length_singleton, List.take_succ_eq_append_getElem h1, h2]
theorem RdJ.have_ (h : RdJ s pre l e) (hp : (slots s)[x.val]? = some p) (ho : okS p = true) {k : Nat} (hk : look l (getE p).n = some k) : RdJ s (pre ++ [x]) l 9 := by
  intro hr
  obtain ⟨h1, h2⟩ := h (rdj_row hr).1
  rw [rdj_take hr hp, List.map_append, List.map_singleton]
  refine ⟨?_, .inr ⟨rfl, ?_⟩⟩
  · intro q hq
    rcases List.mem_append.1 hq with h3 | h3
    · exact h1 q h3
    · rw [List.mem_singleton.1 h3]; exact ho
  · rw [uniq_snoc]
    rintro ⟨h3, h4⟩
    rcases h2 with ⟨_, _, h5⟩ | ⟨_, h5⟩
    · rw [h5] at hk
      unfold pad72 at hk
      rw [look_pad] at hk
      obtain ⟨hn, y, hy, hyn, _⟩ := look_some hk
      exact hn (h4 y (List.mem_of_getElem? hy) hyn)
    · exact h5 h3
theorem RdJ.put (h : RdJ s pre l e) (h72 : (slots s).length ≤ 72) (hp : (slots s)[x.val]? = some p) (ho : okS p = true) (hk : look l (getE p).n = none) : RdJ s (pre ++ [x]) (l.set x.val (getE p)) e := by
  intro hr
  obtain ⟨h1, h2⟩ := h (rdj_row hr).1
  have hx := (rdj_row hr).2
  have hpl := (List.getElem?_eq_some_iff.1 hp).1
  rw [rdj_take hr hp, List.map_append, List.map_singleton]
  refine ⟨?_, ?_⟩
  · intro q hq
    rcases List.mem_append.1 hq with h3 | h3
    · exact h1 q h3
    · rw [List.mem_singleton.1 h3]; exact ho
  · rcases h2 with ⟨h3, h4, h5⟩ | ⟨h3, h4⟩
    · have hl : (((slots s).take pre.length).map getE).length = pre.length := by simp; omega
      refine .inl ⟨h3, ?_, ?_⟩
      · rw [uniq_snoc]
        refine ⟨h4, fun y hy hyn => ?_⟩
        rw [h5] at hk
        unfold pad72 at hk
        rw [look_pad] at hk
        rcases look_none hk with h6 | h6
        · exact h6
        · exact absurd hyn (h6 y hy)
      · have h7 := pad72_set (a := ((slots s).take pre.length).map getE) (by omega) (getE p)
        rw [hl] at h7
        rw [h5, hx]; exact h7
    · refine .inr ⟨h3, ?_⟩
      rw [uniq_snoc]
      rintro ⟨h5, _⟩
      exact h4 h5
end
set_option maxRecDepth 100000 in
set_option maxHeartbeats 4000000 in
theorem read_ok (s : List UInt8) (w : World) (hz : sizeB s = true) :
    Calls Tryz.prog 112 #[str s] w fun e w' => e = .returned (.tuple #[entsV (pad72 (ents s)), .int .i64 (chk s : Nat)]) ∧ Below w.heap.size w w' := by
  obtain ⟨hm, hle⟩ := sizeB_facts hz
  have q1 : ((s.length : Int) % 64 != 0) = false := by
    have : (s.length : Int) % 64 = 0 := by omega
    rw [this]; rfl
  have q2 : ¬ (2304 : Int) < (s.length : Int) := by omega
  have Hz := Lib.hid hz
  clear hz hm
  obtain ⟨hzr, hsz⟩ := zero_of_info entsInfo
  have Hsz := Lib.hid hsz
  clear hsz
  have hZ72 : (List.replicate 72 En.free).length = 72 := by simp
  have HZ := Lib.hid (show List.replicate 72 En.free = pad72 [] from rfl)
  generalize List.replicate 72 En.free = Z at *
  refine (callsIn_wide (n := 3)).1 ?_
  refine callsIn_of_wp_marks Tryz.func112 rfl trivial ?_ rfl
  simp only [Tryz.ntmps112, List.size_toArray, List.length_cons, List.length_nil, Nat.reduceAdd, Nat.reduceSub, Array.replicate_succ, Array.replicate_zero, List.push_toArray, List.append_toArray, List.nil_append, List.cons_append]
  gi_wp2_with fail
  refine scope_in ?_
  gi_wp2_with fail
  refine wpIn_label ?_
  gi_wp2_with fail
  refine ⟨trivial, (callsIn_wide.2 (slots_any s _)).mono ?_⟩
  rintro e w2 ⟨rfl, rfl⟩
  gi_wp2_with fail
  obtain ⟨W0, hW0⟩ : ∃ W0, (((((w.alloc (.cells (enC Z).toArray 195)).alloc (.cells (enC Z).toArray 195)).alloc (.cells #[.func (.func 166) #[] #[.pointer (some ⟨w.heap.size + 1, 0, none⟩)]] 261)).alloc (.cells #[.int .i64 0] 35)).alloc (.cells #[str s] 9)) = W0 := ⟨_, rfl⟩
  have hst := RdW.start w Z hZ72 s _ rfl
  have hcb := cell_new_l ((((w.alloc (.cells (enC Z).toArray 195)).alloc (.cells (enC Z).toArray 195)).alloc (.cells #[.func (.func 166) #[] #[.pointer (some ⟨w.heap.size + 1, 0, none⟩)]] 261)).alloc (.cells #[.int .i64 0] 35)) (str s) 9
  simp only [World.size_alloc] at hcb
  have hsz0 : W0.heap.size = w.heap.size + 1 + 1 + 1 + 1 + 1 := by rw [← hW0]; simp
  have hB0 : Below w.heap.size w W0 := by
    rw [← hW0]
    exact (((((Below.refl _ _).alloc (Nat.le_refl _) _).alloc (by simp) _).alloc (by simp; omega) _).alloc (by simp; omega) _).alloc (by simp; omega) _
  rw [hW0] at hst hcb
  rw [hW0]
  have HZR := Lib.hid hzr
  clear hW0 hzr
  have Hsz0 := Lib.hid hsz0
  have Hst := Lib.hid hst
  have Hcb := Lib.hid hcb
  have HB0 := Lib.hid hB0
  clear hsz0 hst hcb hB0
  refine wpIn_rangeFunc_ownF rfl (by decide) (gf := 207) (lb := #[.pointer (some ⟨w.heap.size + 1 + 1 + 1 + 1, 0, none⟩)]) rfl trivial (enters_of Tryz.func207 (by kernel_rfl) rfl)
    (encs := fun (x : SlIx s) => #[.int .i64 (x.val : Int), str (slots s)[x.val]]) (S := fun ys => SlRow s (slots s).length ys) (Sp := fun pre => ∃ k, k ≤ (slots s).length ∧ SlRow s k pre) (N := (slots s).length) (w0 := W0) (Kp := KeepHi W0.heap.size)
    (fun y J Jx W hW hJ hJx hY h0 => slots_in s (by omega) y (w.heap.size + 1 + 1 + 1 + 1) W0.heap.size J Jx W hJ hW.size hY ((hW.cell (p := ⟨w.heap.size + 1 + 1 + 1 + 1, 0, none⟩) (by rw [Hsz0.out]; simp)).trans Hcb.out) h0)
    (fun h k => h.trans k) (fun W q o o' _ hq ho _ => KeepHi.putObj o' hq ho) (Below.refl _ _) (fun _ => rfl)
    (fun pre W => (∃ l e, RdW Z w.heap.size l e W ∧ RdJ s pre l e) ∧ Below w.heap.size w W)
    (fun c pre W => (c = .exit 0 ∧ (∃ l, RdW Z w.heap.size l 7 W) ∧ ∃ ys x, pre = ys ++ [x] ∧ okS (slots s)[x.val] = false) ∧ Below w.heap.size w W)
    (OwnFrom.and (Own.from (fun q A B row hs hg hr => by
      obtain ⟨l, e, h1, h2⟩ := hs
      exact ⟨l, e, h1.kept hg hr, h2⟩) _) (ownFrom_below (Nat.le_refl _) (by rw [Hsz0.out]; omega)))
    (fun c => OwnFrom.and (Own.from (fun q A B row hs hg hr => by
      obtain ⟨h1, ⟨l, h2⟩, h3⟩ := hs
      exact ⟨h1, ⟨l, h2.kept hg hr⟩, h3⟩) _) (ownFrom_below (Nat.le_refl _) (by rw [Hsz0.out]; omega)))
    ⟨⟨Z, 0, Hst.out, fun _ => ⟨by simp, .inl ⟨rfl, by simp [uniq], HZ.out⟩⟩⟩, HB0.out⟩
    (fun x => { tmps := #[str s, undef, Value.pointer (some { block := w.heap.size, off := 0 }), Value.int IntKind.i64 0, Value.pointer (some { block := w.heap.size + 1, off := 0 }), Value.pointer (some { block := w.heap.size + 1 + 1, off := 0 }), Value.pointer (some { block := w.heap.size + 1 + 1 + 1, off := 0 }), .int .i64 (x.val : Int), str (slots s)[x.val], undef, str s, Value.int IntKind.i64 (s.length : Int), Value.int IntKind.i64 ((s.length : Int) % 64), Value.bool false, Value.bool false, str s, Value.int IntKind.i64 (s.length : Int), Value.bool (decide ((2304 : Int) < (s.length : Int))), Value.bool (decide ((2304 : Int) < (s.length : Int))), undef, Value.func (Fn.func 166) #[] #[Value.pointer (some { block := w.heap.size + 1, off := 0 })], str s, Value.func (Fn.func 207) #[] #[Value.pointer (some { block := w.heap.size + 1 + 1 + 1 + 1, off := 0 })], .int .i64 (x.val : Int), str (slots s)[x.val], undef, undef, undef, undef, undef, undef, undef, undef, undef, undef, undef, undef, undef, undef, undef, undef, undef, undef], defers := [] }) ?assign ?body ?done ?stop
  case assign =>
    intro l x W K hK
    gi_wp2
    exact hK
  case body =>
    rintro y pre x W ⟨⟨l, e, hW, hJ⟩, hB⟩ hlen
    have hxl := x.isLt
    have h72 : (slots s).length ≤ 72 := (slots_le Hz.out).1
    have hj72 : x.val < 72 := by omega
    have hp32 : ((slots s)[x.val]).length = 32 := slots_each Hz.out (List.getElem_mem _)
    have HG := Lib.hid fun V => dget_any ((slots s)[x.val]) V hp32
    have hWr := fun V (hV : EntAt V (w.heap.size + 1) l) => wrong_any ((slots s)[x.val]) hp32 (w.heap.size + 1) l V hV
    have HJ := Lib.hid hJ
    have HB := Lib.hid hB
    have HW := Lib.hid hW
    have Hsl := Lib.hid (show (slots s)[x.val]? = some (slots s)[x.val] from List.getElem?_eq_getElem hxl)
    have h72 := Lib.hid h72
    clear hJ hB hW hlen hp32
    generalize (slots s)[x.val] = p at *
    cases hok : okS p with
    | false =>
      rw [wrong_form hok] at hWr
      have HWr := Lib.hid hWr
      have Hok := Lib.hid hok
      clear hok hWr
      gi_wp2_with fail
      refine ⟨trivial, (callsIn_wide.2 (HG.out _)).mono ?_⟩
      rintro e1 w1 ⟨rfl, hb1⟩
      have HW1 := Lib.hid (HW.out.after hb1)
      have HB1 := Lib.hid (HB.out.trans (hb1.mono HB.out.size))
      have HK1 := Lib.hid (keeps_below hb1)
      have HH1 := Lib.hid (KeepHi.below (n := W0.heap.size) hb1)
      clear hb1 HG
      have hb2 : Below w1.heap.size w1 (w1.alloc (.cells #[str (getE p).n, .int .u32 ((getE p).i : Int)] 193)) := (Below.refl _ w1).alloc (Nat.le_refl _) _
      have HW2 := Lib.hid (HW1.out.after hb2)
      have HB2 := Lib.hid (HB1.out.trans (hb2.mono HB1.out.size))
      have HK2 := Lib.hid (HK1.out.trans (keeps_below hb2))
      have HH2 := Lib.hid (HH1.out.trans (KeepHi.below (n := W0.heap.size) hb2))
      have hfn := HW2.out.fn
      have HV := Lib.hid (two_cells w1 (str (getE p).n) (.int .u32 ((getE p).i : Int)) 193)
      clear hb2 HW1 HB1 HK1 HH1
      gi_wp2_with fail
      refine ⟨trivial, (callsIn_wide.2 (HWr.out _ HW2.out.arr)).mono ?_⟩
      rintro e2 w2 ⟨rfl, hb3⟩
      have HW3 := Lib.hid (HW2.out.after hb3)
      have HB3 := Lib.hid (HB2.out.trans (hb3.mono HB2.out.size))
      have HK3 := Lib.hid (HK2.out.trans (keeps_below hb3))
      have HH3 := Lib.hid (HH2.out.trans (KeepHi.below (n := W0.heap.size) hb3))
      have HV3 := Lib.hid (pair_kept HV.out hb3)
      clear hb3 hfn HW2 HB2 HK2 HH2 HV HWr
      have herr := HW3.out.err
      have hsoft := HW3.out.soft
      gi_wp2_with fail
      refine ⟨HK3.out.trans (KeepsOthers.setCell _ _ _), ⟨rfl, ⟨l, HW3.out.setErr 7⟩, pre, x, rfl, ?_⟩, HB3.out.setCell (p := ⟨w.heap.size + 1 + 1 + 1, 0, none⟩) (by simp only; omega) _⟩
      have h1 := Hsl.out
      rw [List.getElem?_eq_getElem hxl] at h1
      rw [Option.some.inj h1]
      exact Hok.out
    | true =>
      cases hlk : look l (getE p).n with
      | some k =>
        rw [wrong_have hok hlk] at hWr
        have HWr := Lib.hid hWr
        have HJ2 := Lib.hid (HJ.out.have_ Hsl.out hok hlk)
        clear hok hWr hlk
        gi_wp2_with fail
        refine ⟨trivial, (callsIn_wide.2 (HG.out _)).mono ?_⟩
        rintro e1 w1 ⟨rfl, hb1⟩
        have HW1 := Lib.hid (HW.out.after hb1)
        have HB1 := Lib.hid (HB.out.trans (hb1.mono HB.out.size))
        have HK1 := Lib.hid (keeps_below hb1)
        have HH1 := Lib.hid (KeepHi.below (n := W0.heap.size) hb1)
        clear hb1 HG
        have hb2 : Below w1.heap.size w1 (w1.alloc (.cells #[str (getE p).n, .int .u32 ((getE p).i : Int)] 193)) := (Below.refl _ w1).alloc (Nat.le_refl _) _
        have HW2 := Lib.hid (HW1.out.after hb2)
        have HB2 := Lib.hid (HB1.out.trans (hb2.mono HB1.out.size))
        have HK2 := Lib.hid (HK1.out.trans (keeps_below hb2))
        have HH2 := Lib.hid (HH1.out.trans (KeepHi.below (n := W0.heap.size) hb2))
        have hfn := HW2.out.fn
        have HV := Lib.hid (two_cells w1 (str (getE p).n) (.int .u32 ((getE p).i : Int)) 193)
        clear hb2 HW1 HB1 HK1 HH1
        gi_wp2_with fail
        refine ⟨trivial, (callsIn_wide.2 (HWr.out _ HW2.out.arr)).mono ?_⟩
        rintro e2 w2 ⟨rfl, hb3⟩
        have HW3 := Lib.hid (HW2.out.after hb3)
        have HB3 := Lib.hid (HB2.out.trans (hb3.mono HB2.out.size))
        have HK3 := Lib.hid (HK2.out.trans (keeps_below hb3))
        have HH3 := Lib.hid (HH2.out.trans (KeepHi.below (n := W0.heap.size) hb3))
        have HV3 := Lib.hid (pair_kept HV.out hb3)
        clear hb3 hfn HW2 HB2 HK2 HH2 HV HWr
        have herr := HW3.out.err
        have hsoft := HW3.out.soft
        gi_wp2_with fail
        exact ⟨HK3.out.trans (KeepsOthers.setCell _ _ _), HH3.out.trans (KeepHi.setCell _ _ _ (by rw [Hsz0.out]; simp only; omega)), ⟨l, 9, HW3.out.setErr 9, HJ2.out⟩, HB3.out.setCell (p := ⟨w.heap.size + 1 + 1 + 1, 0, none⟩) (by simp only; omega) _⟩
      | none =>
        rw [wrong_ok hok hlk] at hWr
        have HWr := Lib.hid hWr
        have HJ2 := Lib.hid (HJ.out.put h72.out Hsl.out hok hlk)
        clear hok hWr hlk
        gi_wp2_with fail
        refine ⟨trivial, (callsIn_wide.2 (HG.out _)).mono ?_⟩
        rintro e1 w1 ⟨rfl, hb1⟩
        have HW1 := Lib.hid (HW.out.after hb1)
        have HB1 := Lib.hid (HB.out.trans (hb1.mono HB.out.size))
        have HK1 := Lib.hid (keeps_below hb1)
        have HH1 := Lib.hid (KeepHi.below (n := W0.heap.size) hb1)
        clear hb1 HG
        have hb2 : Below w1.heap.size w1 (w1.alloc (.cells #[str (getE p).n, .int .u32 ((getE p).i : Int)] 193)) := (Below.refl _ w1).alloc (Nat.le_refl _) _
        have HW2 := Lib.hid (HW1.out.after hb2)
        have HB2 := Lib.hid (HB1.out.trans (hb2.mono HB1.out.size))
        have HK2 := Lib.hid (HK1.out.trans (keeps_below hb2))
        have HH2 := Lib.hid (HH1.out.trans (KeepHi.below (n := W0.heap.size) hb2))
        have hfn := HW2.out.fn
        have HV := Lib.hid (two_cells w1 (str (getE p).n) (.int .u32 ((getE p).i : Int)) 193)
        clear hb2 HW1 HB1 HK1 HH1
        gi_wp2_with fail
        refine ⟨trivial, (callsIn_wide.2 (HWr.out _ HW2.out.arr)).mono ?_⟩
        rintro e2 w2 ⟨rfl, hb3⟩
        have HW3 := Lib.hid (HW2.out.after hb3)
        have HB3 := Lib.hid (HB2.out.trans (hb3.mono HB2.out.size))
        have HK3 := Lib.hid (HK2.out.trans (keeps_below hb3))
        have HH3 := Lib.hid (HH2.out.trans (KeepHi.below (n := W0.heap.size) hb3))
        have HV3 := Lib.hid (pair_kept HV.out hb3)
        clear hb3 hfn HW2 HB2 HK2 HH2 HV HWr
        obtain ⟨v0, v1⟩ := HV3.out
        obtain ⟨z, hz⟩ : ∃ z, l[x.val]? = some z := ⟨l[x.val]'(by rw [HW3.out.arr.2]; exact hj72), List.getElem?_eq_getElem _⟩
        obtain ⟨c0, c1⟩ := HW3.out.arr.cells hz
        have f0 := HW3.out.arr.soft (x.val * 2)
        have f1 := HW3.out.arr.soft (x.val * 2 + 1)
        have hjz : (x.val : Int) < 72 := by omega
        clear hz
        gi_wp2_with fail
        exact ⟨HK3.out.trans ((KeepsOthers.setCell _ _ _).trans (KeepsOthers.setCell _ _ _)), HH3.out.trans ((KeepHi.setCell _ _ _ (by rw [Hsz0.out]; simp only; omega)).trans (KeepHi.setCell _ _ _ (by rw [Hsz0.out]; simp only; omega))), ⟨_, e, HW3.out.put hj72 (getE p), HJ2.out⟩, (HB3.out.setCell (p := ⟨w.heap.size + 1, x.val * 2, none⟩) (by simp only; omega) _).setCell (p := ⟨w.heap.size + 1, x.val * 2 + 1, none⟩) (by simp only; omega) _⟩
  case done =>
    rintro D ys W hD hS ⟨⟨l, e, hW, hJ⟩, hB⟩ hK
    have hyl := hS.length
    obtain ⟨j1, j2⟩ := hJ (by rw [hyl]; exact hS)
    rw [hyl, List.take_length] at j1 j2
    have hF : formB s = true := by
      simp only [formB, Bool.and_eq_true, List.all_eq_true]
      exact ⟨Hz.out, j1⟩
    rcases j2 with ⟨rfl, hu, rfl⟩ | ⟨rfl, hu⟩
    · have hc : chk s = 0 := by unfold chk; rw [if_pos hF, if_pos hu]
      have HE := Lib.hid (show ents s = (slots s).map getE by unfold ents; rw [if_pos hc])
      have HC := Lib.hid hc
      have HW := Lib.hid hW
      have HB := Lib.hid hB
      have hl := ents_load hW.arr
      obtain ⟨W2, hst, hr2, ho2, hb2, hsz2⟩ := ents_store hW.res hW.arr.2
      have herr := hW.err
      have HK := Lib.hid hK
      have HR2 := Lib.hid hr2
      have HO2 := Lib.hid ho2
      have HB2 := Lib.hid (hB.trans (hb2 w.heap.size (Nat.le_refl _)))
      clear hc hW hB hr2 ho2 hb2 hK hJ hS hyl j1 hF hu
      obtain ⟨L, hL⟩ : ∃ L, pad72 ((slots s).map getE) = L := ⟨_, rfl⟩
      rw [hL] at HW hl hst HR2
      have HL := Lib.hid hL
      clear hL
      gi_wp2_with fail
      rw [Exit.noGoto_ret]
      have hK2 : W2.heap[D]? = some (.deferred (some [])) := (HO2.out D (by have := Hsz0.out; omega)).trans HK.out
      refine ⟨by simp, .inl ⟨_, _, rfl, run_takeDeferred hK2, ?_⟩⟩
      refine ⟨.tuple #[entsV L, .int .i64 0], ?_, ⟨?_, HB2.out.trans (belowK_b (w := w) (Nat.le_refl _) W2 D _ _ (by have := Hsz0.out; omega) hK2 rfl rfl)⟩⟩
      · exact results_row_tmpD (p := 2) (q := 3) rfl _ _ w.heap.size _ rfl (ents_var (HR2.out.kept (grownBy_putObj' _ D (.deferred none)) (fun r e => by cases e; exact ⟨_, hK2, rfl⟩)))
      · rw [HE.out, HC.out, HL.out]; rfl
    · have hc : chk s = 9 := by unfold chk; rw [if_pos hF, if_neg hu]
      have HE := Lib.hid (show ents s = [] from ents_bad (by rw [hc]; decide))
      have HC := Lib.hid hc
      have hWd : RdW Z w.heap.size l 9 W.drew := ⟨hW.res, hW.arr, hW.fn, hW.err, hW.soft⟩
      obtain ⟨W2, hst, hr2, ho2, hb2, hsz2⟩ := ents_store hWd.res hZ72
      have herr := hWd.err
      have HK := Lib.hid hK
      have HR2 := Lib.hid hr2
      have HO2 := Lib.hid ho2
      have HB2 := Lib.hid (hB.drew.trans (hb2 w.heap.size (Nat.le_refl _)))
      have herr0 := hW.err
      have herr2 : W2.cell? ⟨w.heap.size + 1 + 1 + 1, 0, none⟩ = some (.int .i64 9) := (World.cell?_of_block (a := ⟨w.heap.size + 1 + 1 + 1, 0, none⟩) (ho2 _ (by simp only; omega))).trans herr
      have hzr := HZR.out
      clear hc hW hWd hB hr2 ho2 hb2 hK hJ hS hyl j1 hF hu
      gi_wp2_with fail
      refine wpIn_wide.2 ?_
      refine wp_region_noPanic ?_
      refine wp_region_held_drew (S := (fun V => V.cell? ⟨w.heap.size + 1 + 1 + 1, 0, none⟩ = some (.int .i64 9))) (by kernel_rfl) (herr) (fun hHeld => ?_)
      refine wpAnyH_take (i := 0) (oi := _) (v := ?_) rfl (by kernel_rfl) (by kernel_rfl) (by kernel_rfl) (fun _ _ _ h => h) (Or.inl ⟨by rfl, ?_⟩) (by assumption) ?_
      rotate_left
      · intro w hSw
        try dsimp only at hSw
        go_simp
        try with_reducible rfl
      (try simp only [Act.put, List.setIfInBounds_toArray, List.set_cons_zero, List.set_cons_succ, List.getElem_toArray, List.getElem_cons_zero, List.getElem_cons_succ])
      refine wpAnyH_take (i := 1) (oi := _) (v := ?_) rfl (by kernel_rfl) (by kernel_rfl) (by kernel_rfl) (fun _ _ _ h => h) (Or.inl ⟨by rfl, ?_⟩) (by assumption) ?_
      rotate_left
      · intro w hSw
        try dsimp only at hSw
        go_simp
        try with_reducible rfl
      (try simp only [Act.put, List.setIfInBounds_toArray, List.set_cons_zero, List.set_cons_succ, List.getElem_toArray, List.getElem_cons_zero, List.getElem_cons_succ])
      refine wpAnyH_ready (rs := [2]) (by kernel_rfl) (by simp) ?_
      refine AllReadyH.cons (o := _) rfl (fun K hK => ?_) AllReadyH.nil
      go_simp
      refine hK.out _ _ (herr2) (fun hHeld => ?_)
      clear hK K
      (try simp only [Act.put, List.setIfInBounds_toArray, List.set_cons_zero, List.set_cons_succ, List.getElem_toArray, List.getElem_cons_zero, List.getElem_cons_succ])
      refine wpAnyH_take (i := 3) (oi := _) (v := ?_) rfl (by kernel_rfl) (by kernel_rfl) (by kernel_rfl) (fun _ _ _ h => h) (Or.inl ⟨by rfl, ?_⟩) (by assumption) ?_
      rotate_left
      · intro w hSw
        try dsimp only at hSw
        go_simp
        try with_reducible rfl
      (try simp only [Act.put, List.setIfInBounds_toArray, List.set_cons_zero, List.set_cons_succ, List.getElem_toArray, List.getElem_cons_zero, List.getElem_cons_succ])
      refine wpAnyH_done (by kernel_rfl) ?_ _
      refine NoPanic.normal ?_
      go_wp2_with fail
      gi_wp2_with fail
      rw [Exit.noGoto_ret]
      have hK2 : W2.heap[D]? = some (.deferred (some [])) := (HO2.out D (by have := Hsz0.out; omega)).trans HK.out
      refine ⟨by simp, .inl ⟨_, _, rfl, run_takeDeferred hK2, ?_⟩⟩
      refine ⟨.tuple #[entsV Z, .int .i64 9], ?_, ⟨?_, HB2.out.trans (belowK_b (w := w) (Nat.le_refl _) W2 D _ _ (by have := Hsz0.out; omega) hK2 rfl rfl)⟩⟩
      · exact results_row_tmpD (p := 2) (q := 3) rfl _ _ w.heap.size _ rfl (ents_var (HR2.out.kept (grownBy_putObj' _ D (.deferred none)) (fun r e => by cases e; exact ⟨_, hK2, rfl⟩)))
      · rw [HE.out, HC.out, HZ.out]; rfl
  case stop =>
    rintro D c pre W hD ⟨k, hk, hrow⟩ ⟨⟨rfl, ⟨l, hW⟩, ys, x, rfl, hx⟩, hB⟩ hK
    have hF : formB s = false := by
      rw [Bool.eq_false_iff]
      intro h
      simp only [formB, Bool.and_eq_true, List.all_eq_true] at h
      have := h.2 _ (List.getElem_mem x.isLt)
      rw [hx] at this; cases this
    have hc : chk s = 7 := by unfold chk; rw [hF]; rfl
    clear hF hx hrow hk
    have HE := Lib.hid (show ents s = [] from ents_bad (by rw [hc]; decide))
    have HC := Lib.hid hc
    have hWd : RdW Z w.heap.size l 7 W.drew := ⟨hW.res, hW.arr, hW.fn, hW.err, hW.soft⟩
    obtain ⟨W2, hst, hr2, ho2, hb2, hsz2⟩ := ents_store hWd.res hZ72
    have herr := hWd.err
    have HK := Lib.hid hK
    have HR2 := Lib.hid hr2
    have HO2 := Lib.hid ho2
    have HB2 := Lib.hid (hB.drew.trans (hb2 w.heap.size (Nat.le_refl _)))
    have herr0 := hW.err
    have herr2 : W2.cell? ⟨w.heap.size + 1 + 1 + 1, 0, none⟩ = some (.int .i64 7) := (World.cell?_of_block (a := ⟨w.heap.size + 1 + 1 + 1, 0, none⟩) (ho2 _ (by simp only; omega))).trans herr
    have hzr := HZR.out
    clear hc hW hWd hB hr2 ho2 hb2 hK
    gi_wp2_with fail
    refine wpIn_wide.2 ?_
    refine wp_region_noPanic ?_
    refine wp_region_held_drew (S := (fun V => V.cell? ⟨w.heap.size + 1 + 1 + 1, 0, none⟩ = some (.int .i64 7))) (by kernel_rfl) (herr) (fun hHeld => ?_)
    refine wpAnyH_take (i := 0) (oi := _) (v := ?_) rfl (by kernel_rfl) (by kernel_rfl) (by kernel_rfl) (fun _ _ _ h => h) (Or.inl ⟨by rfl, ?_⟩) (by assumption) ?_
    rotate_left
    · intro w hSw
      try dsimp only at hSw
      go_simp
      try with_reducible rfl
    (try simp only [Act.put, List.setIfInBounds_toArray, List.set_cons_zero, List.set_cons_succ, List.getElem_toArray, List.getElem_cons_zero, List.getElem_cons_succ])
    refine wpAnyH_take (i := 1) (oi := _) (v := ?_) rfl (by kernel_rfl) (by kernel_rfl) (by kernel_rfl) (fun _ _ _ h => h) (Or.inl ⟨by rfl, ?_⟩) (by assumption) ?_
    rotate_left
    · intro w hSw
      try dsimp only at hSw
      go_simp
      try with_reducible rfl
    (try simp only [Act.put, List.setIfInBounds_toArray, List.set_cons_zero, List.set_cons_succ, List.getElem_toArray, List.getElem_cons_zero, List.getElem_cons_succ])
    refine wpAnyH_ready (rs := [2]) (by kernel_rfl) (by simp) ?_
    refine AllReadyH.cons (o := _) rfl (fun K hK => ?_) AllReadyH.nil
    go_simp
    refine hK.out _ _ (herr2) (fun hHeld => ?_)
    clear hK K
    (try simp only [Act.put, List.setIfInBounds_toArray, List.set_cons_zero, List.set_cons_succ, List.getElem_toArray, List.getElem_cons_zero, List.getElem_cons_succ])
    refine wpAnyH_take (i := 3) (oi := _) (v := ?_) rfl (by kernel_rfl) (by kernel_rfl) (by kernel_rfl) (fun _ _ _ h => h) (Or.inl ⟨by rfl, ?_⟩) (by assumption) ?_
    rotate_left
    · intro w hSw
      try dsimp only at hSw
      go_simp
      try with_reducible rfl
    (try simp only [Act.put, List.setIfInBounds_toArray, List.set_cons_zero, List.set_cons_succ, List.getElem_toArray, List.getElem_cons_zero, List.getElem_cons_succ])
    refine wpAnyH_done (by kernel_rfl) ?_ _
    refine NoPanic.normal ?_
    go_wp2_with fail
    gi_wp2_with fail
    rw [Exit.noGoto_ret]
    have hK2 : W2.heap[D]? = some (.deferred (some [])) := (HO2.out D (by have := Hsz0.out; omega)).trans HK.out
    refine ⟨by simp, .inl ⟨_, _, rfl, run_takeDeferred hK2, ?_⟩⟩
    refine ⟨.tuple #[entsV Z, .int .i64 7], ?_, ⟨?_, HB2.out.trans (belowK_b (w := w) (Nat.le_refl _) W2 D _ _ (by have := Hsz0.out; omega) hK2 rfl rfl)⟩⟩
    · exact results_row_tmpD (p := 2) (q := 3) rfl _ _ w.heap.size _ rfl (ents_var (HR2.out.kept (grownBy_putObj' _ D (.deferred none)) (fun r e => by cases e; exact ⟨_, hK2, rfl⟩)))
    · rw [HE.out, HC.out, HZ.out]; rfl
end Go.Proofs.YtnfiapjdkjbdhaaGreat.Dirs
/- Layer 10 (dirs): read, of whatever text; Check. -/
namespace Go.Proofs.YtnfiapjdkjbdhaaGreat.Dirs
open Go.RowKit Go.Lib
set_option linter.unusedVariables false
set_option linter.unusedSimpArgs false
set_option maxRecDepth 10000
set_option maxRecDepth 100000 in
set_option maxHeartbeats 2000000 in
theorem read_any (s : List UInt8) (w : World) (hs : s.length ≤ maxLen) :
    Calls Tryz.prog 112 #[str s] w fun e w' => e = .returned (.tuple #[entsV (pad72 (ents s)), .int .i64 (chk s : Nat)]) ∧ Below w.heap.size w w' := by
  unfold maxLen at hs
  cases hz : sizeB s with
  | true => exact read_ok s w hz
  | false =>
    have hc : chk s = 7 := by unfold chk; rw [formB_size hz]; rfl
    have HE := Lib.hid (show ents s = [] from ents_bad (by rw [hc]; decide))
    have HC := Lib.hid hc
    obtain ⟨hzr, hsz⟩ := zero_of_info entsInfo
    have Hsz := Lib.hid hsz
    clear hsz hc
    have hZ72 : (List.replicate 72 En.free).length = 72 := by simp
    have HZ := Lib.hid (show List.replicate 72 En.free = pad72 [] from rfl)
    generalize List.replicate 72 En.free = Z at *
    obtain ⟨W2, hst, hr2, ho2, hb2, hsz2⟩ := ents_store (ents_alloc w Z hZ72) hZ72
    have HR2 := Lib.hid hr2
    have HB2 := Lib.hid (((Below.refl w.heap.size w).alloc (Nat.le_refl _) (.cells (enC Z).toArray 195)).trans (hb2 w.heap.size (Nat.le_refl _)))
    clear hr2 ho2 hb2 hsz2
    by_cases hm : s.length % 64 = 0
    · have hq : 2304 < s.length := by
        rcases Nat.lt_or_ge 2304 s.length with h | h
        · exact h
        · simp [sizeB, hm, h] at hz
      have q1 : ((s.length : Int) % 64 != 0) = false := by
        have : (s.length : Int) % 64 = 0 := by omega
        rw [this]; rfl
      have q2 : (2304 : Int) < (s.length : Int) := by omega
      clear hm hz
      go_enter Tryz.func112, Tryz.ntmps112
      go_wp2_with fail
      go_step3
      go_wp2_with fail
      rw [Exit.noGoto_ret]
      refine bodyPost_ret (v := .tuple #[entsV Z, .int .i64 7]) ?_ rfl ⟨by rw [HE.out, HC.out, HZ.out]; rfl, HB2.out⟩
      exact results_row_tmpD (p := 2) (q := 3) rfl _ _ w.heap.size _ rfl (ents_var HR2.out)
    · have q1 : ((s.length : Int) % 64 != 0) = true := by
        have : ¬ (s.length : Int) % 64 = 0 := by omega
        rw [bne_iff_ne]; exact this
      clear hm hz
      go_enter Tryz.func112, Tryz.ntmps112
      go_wp2_with fail
      go_step3
      go_wp2_with fail
      rw [Exit.noGoto_ret]
      refine bodyPost_ret (v := .tuple #[entsV Z, .int .i64 7]) ?_ rfl ⟨by rw [HE.out, HC.out, HZ.out]; rfl, HB2.out⟩
      exact results_row_tmpD (p := 2) (q := 3) rfl _ _ w.heap.size _ rfl (ents_var HR2.out)
theorem arr_laid (W : World) (Z L : List En) (hZ : Z.length = 72) (hL : L.length = 72) :
    ∃ W', (entsStore (.pointer (some ⟨W.heap.size, 0, none⟩)) (entsV L)).run Tryz.prog (W.alloc (.cells (enC Z).toArray 195)) = .ok () W' ∧ EntAt W' W.heap.size L ∧ Below W.heap.size W W' ∧ W'.heap.size = W.heap.size + 1 := by
  obtain ⟨W', h1, h2, h3, h4, h5⟩ := ents_store (ents_alloc W Z hZ) hL
  exact ⟨W', h1, h2, ((Below.refl W.heap.size W).alloc (Nat.le_refl _) _).trans (h4 W.heap.size (Nat.le_refl _)), by rw [h5]; simp⟩
end Go.Proofs.YtnfiapjdkjbdhaaGreat.Dirs
/- Layer 10 (dirs): Find; change. -/
namespace Go.Proofs.YtnfiapjdkjbdhaaGreat.Dirs
open Go.RowKit Go.Lib
set_option linter.unusedVariables false
set_option linter.unusedSimpArgs false
set_option maxRecDepth 10000
theorem pad72_get {l : List En} {k : Nat} {x : En} (h : l[k]? = some x) : (pad72 l)[k]? = some x := by
  unfold pad72
  rw [List.getElem?_append_left (List.getElem?_eq_some_iff.1 h).1]
  exact h
theorem look_pad72 (l : List En) (n : List UInt8) : look (pad72 l) n = look l n := look_pad _
set_option maxRecDepth 100000 in
set_option maxHeartbeats 2000000 in
theorem change_in (s : List UInt8) (k : Nat) (x : En) (w : World) (hs : s.length ≤ 2304) (hk : 32 * k + 32 ≤ s.length) (hi : x.i < 4294967296) (hn : x.n.length ≤ 27) :
    Calls Tryz.prog 116 #[str s, .int .i64 (k : Int), x.v] w fun e w' => e = .returned (str (chg s k (slotL x))) ∧ Below w.heap.size w w' := by
  have HP := Lib.hid fun W => dput_any x W hi hn
  have hpl := slotL_length hn
  obtain ⟨j, hj⟩ : ∃ j, j = 32 * k := ⟨_, rfl⟩
  have e1 : IntKind.i64.wrap ((k : Int) * 32) = (j : Int) := by rw [IntWalk.i64_in _ ⟨by omega, by omega⟩]; omega
  have e2 : IntKind.i64.wrap ((j : Int) + 32) = (j : Int) + 32 := IntWalk.i64_in _ ⟨by omega, by omega⟩
  have HE := Lib.hid (show chg s k (slotL x) = s.take j ++ slotL x ++ s.drop (j + 32) by unfold chg; rw [hj])
  have b1 : j ≤ s.length := by omega
  have b2 : j + 32 ≤ s.length := by omega
  have b3 : (j : Int) ≤ (s.length : Int) := by omega
  have b4 : (j : Int) + 32 ≤ (s.length : Int) := by omega
  have b5 : ((j : Int) == (s.length : Int)) = false := by simp; omega
  have b6 : ((j : Int) + 32).toNat = j + 32 := by omega
  have b7 : (0 : Int) ≤ (j : Int) + 32 := by omega
  have t1 : (s.take j).length ≤ 2304 := by simp; omega
  have t2 : (s.drop (j + 32)).length ≤ 2304 := by simp; omega
  have e3 : (k : Int) * 32 = (j : Int) := by omega
  have q8 : ¬ 9223372036854775807 < j + 32 := by omega
  have q9 : ¬ 9223372036854775807 < s.length := by omega
  clear hj hk
  generalize slotL x = p at *
  go_enter Tryz.func116, Tryz.ntmps116
  go_wp2_with fail
  have HBd := Lib.hid ((Below.refl w.heap.size w).alloc (Nat.le_refl _) (.cells #[str x.n, .int .u32 (x.i : Int)] 193)).drew
  go_region_held3 (fun W => W.cell? ⟨w.heap.size, 0, none⟩ = some (str x.n) ∧ W.cell? ⟨w.heap.size, 1, none⟩ = some (.int .u32 (x.i : Int)))
    (first | exact two_cells _ _ _ _ | exact pair_kept (by assumption) hb4)
    (first | (go_at_call 167; ((with_reducible refine (HP.out _).mono ?_); rintro e w4 ⟨rfl, hb4⟩; have HBd := Lib.hid (HBd.out.trans (hb4.mono HBd.out.size)))))
  go_wp2_with fail
  go_ret
  exact ⟨by rw [HE.out, List.append_assoc]; rfl, HBd.out⟩
theorem chg_end {s p : List UInt8} {k : Nat} (hk : 32 * k = s.length) : chg (s ++ List.replicate 64 0) k p = s ++ (p ++ freeL) := by
  unfold chg
  rw [hk, List.take_left', List.append_assoc]
  · congr 2
    rw [List.drop_append, List.drop_of_length_le (by omega), show s.length + 32 - s.length = 32 by omega]
    rfl
  · rfl
set_option maxRecDepth 100000 in
set_option maxHeartbeats 2000000 in
theorem change_end (s : List UInt8) (k : Nat) (x : En) (w : World) (hs : s.length ≤ 2240) (hk : 32 * k = s.length) (hi : x.i < 4294967296) (hn : x.n.length ≤ 27) :
    Calls Tryz.prog 116 #[str s, .int .i64 (k : Int), x.v] w fun e w' => e = .returned (str (s ++ (slotL x ++ freeL))) ∧ Below w.heap.size w w' := by
  have HP := Lib.hid fun W => dput_any x W hi hn
  have hpl := slotL_length hn
  obtain ⟨j, hj⟩ : ∃ j, j = 32 * k := ⟨_, rfl⟩
  have e1 : IntKind.i64.wrap ((k : Int) * 32) = (j : Int) := by rw [IntWalk.i64_in _ ⟨by omega, by omega⟩]; omega
  have e2 : IntKind.i64.wrap ((j : Int) + 32) = (j : Int) + 32 := IntWalk.i64_in _ ⟨by omega, by omega⟩
  have e4 : IntKind.i64.wrap ((j : Int) + 64) = (j : Int) + 64 := IntWalk.i64_in _ ⟨by omega, by omega⟩
  have hpd : ∀ W, Calls Tryz.prog 94 #[str s, .int .i64 ((j : Int) + 64)] W fun e w' => e = .returned (.tuple #[str (s ++ List.replicate 64 0), .int .i64 0]) ∧ Below W.heap.size W w' := fun W => pad_ok s 64 ((j : Int) + 64) W (by omega) (by omega)
  have HPd := Lib.hid hpd
  have hce := chg_end (p := slotL x) hk
  have HE := Lib.hid (show s ++ (slotL x ++ freeL) = (s ++ List.replicate 64 0).take j ++ slotL x ++ (s ++ List.replicate 64 0).drop (j + 32) by rw [← hce]; unfold chg; rw [hj])
  have b5 : ((j : Int) == (s.length : Int)) = true := by simp; omega
  have hs2 : (s ++ List.replicate 64 0).length = j + 64 := by simp; omega
  have e3 : (k : Int) * 32 = (j : Int) := by omega
  have hj2 : j ≤ 2240 := by omega
  clear hj hk hpd hce
  generalize slotL x = p at *
  go_enter Tryz.func116, Tryz.ntmps116
  go_wp2_with fail
  have HB0 := Lib.hid ((Below.refl w.heap.size w).alloc (Nat.le_refl _) (.cells #[str x.n, .int .u32 (x.i : Int)] 193))
  have HV := Lib.hid (two_cells w (str x.n) (.int .u32 (x.i : Int)) 193)
  refine (HPd.out _).mono ?_
  rintro e w1 ⟨rfl, hb1⟩
  have HB1 := Lib.hid (HB0.out.trans (hb1.mono HB0.out.size))
  have HV1 := Lib.hid (pair_kept HV.out hb1)
  clear hb1 HV HB0 HPd
  generalize s ++ List.replicate 64 0 = u at *
  have b1 : j ≤ u.length := by omega
  have b2 : j + 32 ≤ u.length := by omega
  have b3 : (j : Int) ≤ (u.length : Int) := by omega
  have b4 : (j : Int) + 32 ≤ (u.length : Int) := by omega
  have b6 : ((j : Int) + 32).toNat = j + 32 := by omega
  have b7 : (0 : Int) ≤ (j : Int) + 32 := by omega
  have q8 : ¬ 9223372036854775807 < j + 32 := by omega
  have q9 : ¬ 9223372036854775807 < u.length := by omega
  have t1 : u.length ≤ 2304 := by omega
  clear hs2
  go_wp2_with fail
  have HBd := Lib.hid HB1.out.drew
  go_region_held3 (fun W => W.cell? ⟨w.heap.size, 0, none⟩ = some (str x.n) ∧ W.cell? ⟨w.heap.size, 1, none⟩ = some (.int .u32 (x.i : Int)))
    (first | exact HV1.out | exact pair_kept (by assumption) hb4)
    (first | (go_at_call 167; ((with_reducible refine (HP.out _).mono ?_); rintro e w4 ⟨rfl, hb4⟩; have HBd := Lib.hid (HBd.out.trans (hb4.mono HBd.out.size)))))
  go_wp2_with fail
  go_ret
  exact ⟨by rw [HE.out, List.append_assoc]; rfl, HBd.out⟩
end Go.Proofs.YtnfiapjdkjbdhaaGreat.Dirs
/- Layer 10 (dirs): Set, Del, Slot, Trim. -/
namespace Go.Proofs.YtnfiapjdkjbdhaaGreat.Dirs
open Go.RowKit Go.Lib
set_option linter.unusedVariables false
set_option linter.unusedSimpArgs false
set_option maxRecDepth 10000
end Go.Proofs.YtnfiapjdkjbdhaaGreat.Dirs
/- Layer 10 (dirs): Add. -/
namespace Go.Proofs.YtnfiapjdkjbdhaaGreat.Dirs
open Go.RowKit Go.Lib
set_option linter.unusedVariables false
set_option linter.unusedSimpArgs false
set_option maxRecDepth 10000
set_option maxRecDepth 100000 in
set_option maxHeartbeats 4000000 in
theorem add_any (s n : List UInt8) (i : Nat) (w : World) (hs : s.length ≤ maxLen) (hn : n.length ≤ maxLen) (hi : i < 4294967296) :
    Calls Tryz.prog 53 #[str s, str n, .int .u32 (i : Int)] w fun e w' => e = .returned (.tuple #[str (addT s ⟨n, i⟩), .int .i64 (addE s ⟨n, i⟩ : Nat)]) ∧ Below w.heap.size w w' := by
  have hR := fun W => read_any s W hs
  have hL := pad72_length (ents_le s)
  obtain ⟨hzr, hsz⟩ := zero_of_info entsInfo
  have Hsz := Lib.hid hsz
  clear hsz
  have hZ72 : (List.replicate 72 En.free).length = 72 := by simp
  generalize List.replicate 72 En.free = Z at *
  have hM := fun W => may_any ⟨n, i⟩ W hn
  by_cases h0 : chk s = 0
  · rw [h0] at hR
    have HR := Lib.hid hR
    clear hR
    cases hm : mayB ⟨n, i⟩ with
    | false =>
      obtain ⟨h1, h2⟩ := add_arg (x := ⟨n, i⟩) h0 hm
      have H1 := Lib.hid h1
      have H2 := Lib.hid h2
      rw [hm] at hM
      have HM := Lib.hid hM
      clear h0 h1 h2 hm hM
      generalize pad72 (ents s) = L at *
      go_enter Tryz.func53, Tryz.ntmps53
      go_wp2_with fail
      refine (HR.out _).mono ?_
      rintro e w1 ⟨rfl, hb1⟩
      have HB1 := Lib.hid hb1
      clear hb1 HR
      obtain ⟨w2, hst, ha, hb2, hsz2⟩ := arr_laid w1 Z L hZ72 hL
      have HB2 := Lib.hid (HB1.out.trans (hb2.mono HB1.out.size))
      have HB3 := Lib.hid (HB2.out.alloc HB2.out.size (.cells #[str n, .int .u32 (i : Int)] 193))
      clear ha hb2 hsz2
      go_wp2_with fail
      refine (HM.out _).mono ?_
      rintro e w4 ⟨rfl, hb4⟩
      have HB4 := Lib.hid (HB3.out.trans (hb4.mono HB3.out.size))
      clear hb4 HM
      go_wp2_with fail
      go_ret2
      exact ⟨by rw [H1.out, H2.out]; rfl, HB4.out⟩
    | true =>
      rw [hm] at hM
      have HM := Lib.hid hM
      have hn27 := (mayB_len hm).2.2
      cases hl : look (ents s) n with
      | some k =>
        obtain ⟨h1, h2⟩ := add_have (x := ⟨n, i⟩) h0 hm hl
        have H1 := Lib.hid h1
        have H2 := Lib.hid h2
        have HPl := Lib.hid fun g W (hW : EntAt W g (pad72 (ents s))) => by
          have := place_any g _ n W hW
          rw [look_pad72, hl] at this
          exact this
        clear h0 h1 h2 hm hM hl hn27
        generalize pad72 (ents s) = L at *
        go_enter Tryz.func53, Tryz.ntmps53
        go_wp2_with fail
        refine (HR.out _).mono ?_
        rintro e w1 ⟨rfl, hb1⟩
        have HB1 := Lib.hid hb1
        clear hb1 HR
        obtain ⟨w2, hst, ha, hb2, hsz2⟩ := arr_laid w1 Z L hZ72 hL
        have HB2 := Lib.hid (HB1.out.trans (hb2.mono HB1.out.size))
        have HB3 := Lib.hid (HB2.out.alloc HB2.out.size (.cells #[str n, .int .u32 (i : Int)] 193))
        have HA := Lib.hid (ha.after ((Below.refl _ w2).alloc (Nat.le_refl _) (.cells #[str n, .int .u32 (i : Int)] 193)))
        clear ha hb2 hsz2
        go_wp2_with fail
        refine (HM.out _).mono ?_
        rintro e w4 ⟨rfl, hb4⟩
        have HB4 := Lib.hid (HB3.out.trans (hb4.mono HB3.out.size))
        have HPl4 := Lib.hid (HPl.out _ _ (HA.out.after hb4))
        clear hb4 HM HPl
        go_wp2_with fail
        refine HPl4.out.mono ?_
        rintro e w5 ⟨rfl, hb5⟩
        have HB5 := Lib.hid (HB4.out.trans (hb5.mono HB4.out.size))
        clear hb5 HPl4
        dsimp only [optI]
        go_wp2_with fail
        go_ret2
        exact ⟨by rw [H1.out, H2.out]; rfl, HB5.out⟩
      | none =>
        have HPl := Lib.hid fun g W (hW : EntAt W g (pad72 (ents s))) => by
          have := place_any g _ n W hW
          rw [look_pad72, hl] at this
          exact this
        have h72 := ents_le s
        obtain ⟨l1, l2, l3⟩ := ents_len h0
        have hgp := gap_pad h72
        cases hg : gap (ents s) with
        | some k =>
          obtain ⟨h1, h2⟩ := add_gap (x := ⟨n, i⟩) h0 hm hl hg
          have hkl := gap_lt hg
          rw [hg] at hgp
          have HGp := Lib.hid fun g W (hW : EntAt W g (pad72 (ents s))) => by
            have := gap_any g _ W hW
            rw [hgp] at this
            exact this
          have HC := Lib.hid fun W => change_in s k ⟨n, i⟩ W l2 (by omega) hi hn27
          have H1 := Lib.hid h1
          have H2 := Lib.hid h2
          clear h0 h1 h2 hm hM hl hn27 hg hgp l1 l2 l3
          generalize pad72 (ents s) = L at *
          go_enter Tryz.func53, Tryz.ntmps53
          go_wp2_with fail
          refine (HR.out _).mono ?_
          rintro e w1 ⟨rfl, hb1⟩
          have HB1 := Lib.hid hb1
          clear hb1 HR
          obtain ⟨w2, hst, ha, hb2, hsz2⟩ := arr_laid w1 Z L hZ72 hL
          have HB2 := Lib.hid (HB1.out.trans (hb2.mono HB1.out.size))
          have HB3 := Lib.hid (HB2.out.alloc HB2.out.size (.cells #[str n, .int .u32 (i : Int)] 193))
          have HA := Lib.hid (ha.after ((Below.refl _ w2).alloc (Nat.le_refl _) (.cells #[str n, .int .u32 (i : Int)] 193)))
          have HV := Lib.hid (two_cells w2 (str n) (.int .u32 (i : Int)) 193)
          clear ha hb2 hsz2
          go_wp2_with fail
          refine (HM.out _).mono ?_
          rintro e w4 ⟨rfl, hb4⟩
          have HB4 := Lib.hid (HB3.out.trans (hb4.mono HB3.out.size))
          have HA4 := Lib.hid (HA.out.after hb4)
          have HV4 := Lib.hid (pair_kept HV.out hb4)
          have HPl4 := Lib.hid (HPl.out _ _ HA4.out)
          clear hb4 HM HPl HA HV
          go_wp2_with fail
          refine HPl4.out.mono ?_
          rintro e w5 ⟨rfl, hb5⟩
          have HB5 := Lib.hid (HB4.out.trans (hb5.mono HB4.out.size))
          have HV5 := Lib.hid (pair_kept HV4.out hb5)
          have HGp5 := Lib.hid (HGp.out _ _ (HA4.out.after hb5))
          clear hb5 HPl4 HA4 HV4 HGp
          dsimp only [optI]
          go_wp2_with fail
          refine HGp5.out.mono ?_
          rintro e w6 ⟨rfl, hb6⟩
          have HB6 := Lib.hid (HB5.out.trans (hb6.mono HB5.out.size))
          obtain ⟨x0, x1⟩ := pair_kept HV5.out hb6
          clear hb6 HGp5
          dsimp only [optI]
          go_wp2_with fail
          refine (HC.out _).mono ?_
          rintro e w7 ⟨rfl, hb7⟩
          have HB7 := Lib.hid (HB6.out.trans (hb7.mono HB6.out.size))
          clear hb7 HC
          go_wp2_with fail
          go_ret2
          exact ⟨by rw [H1.out, H2.out]; rfl, HB7.out⟩
        | none =>
          rw [hg] at hgp
          simp only at hgp
          by_cases hlt : (ents s).length < 72
          · obtain ⟨h1, h2⟩ := add_more (x := ⟨n, i⟩) h0 hm hl hg hlt
            rw [if_pos hlt] at hgp
            have HGp := Lib.hid fun g W (hW : EntAt W g (pad72 (ents s))) => by
              have := gap_any g _ W hW
              rw [hgp] at this
              exact this
            have HC := Lib.hid fun W => change_end s (ents s).length ⟨n, i⟩ W (by omega) (by omega) hi hn27
            have hkl : (ents s).length < 72 := hlt
            generalize (ents s).length = k at *
            have H1 := Lib.hid h1
            have H2 := Lib.hid h2
            clear h0 h1 h2 hm hM hl hn27 hg hgp l1 l2 l3 hlt
            generalize pad72 (ents s) = L at *
            go_enter Tryz.func53, Tryz.ntmps53
            go_wp2_with fail
            refine (HR.out _).mono ?_
            rintro e w1 ⟨rfl, hb1⟩
            have HB1 := Lib.hid hb1
            clear hb1 HR
            obtain ⟨w2, hst, ha, hb2, hsz2⟩ := arr_laid w1 Z L hZ72 hL
            have HB2 := Lib.hid (HB1.out.trans (hb2.mono HB1.out.size))
            have HB3 := Lib.hid (HB2.out.alloc HB2.out.size (.cells #[str n, .int .u32 (i : Int)] 193))
            have HA := Lib.hid (ha.after ((Below.refl _ w2).alloc (Nat.le_refl _) (.cells #[str n, .int .u32 (i : Int)] 193)))
            have HV := Lib.hid (two_cells w2 (str n) (.int .u32 (i : Int)) 193)
            clear ha hb2 hsz2
            go_wp2_with fail
            refine (HM.out _).mono ?_
            rintro e w4 ⟨rfl, hb4⟩
            have HB4 := Lib.hid (HB3.out.trans (hb4.mono HB3.out.size))
            have HA4 := Lib.hid (HA.out.after hb4)
            have HV4 := Lib.hid (pair_kept HV.out hb4)
            have HPl4 := Lib.hid (HPl.out _ _ HA4.out)
            clear hb4 HM HPl HA HV
            go_wp2_with fail
            refine HPl4.out.mono ?_
            rintro e w5 ⟨rfl, hb5⟩
            have HB5 := Lib.hid (HB4.out.trans (hb5.mono HB4.out.size))
            have HV5 := Lib.hid (pair_kept HV4.out hb5)
            have HGp5 := Lib.hid (HGp.out _ _ (HA4.out.after hb5))
            clear hb5 HPl4 HA4 HV4 HGp
            dsimp only [optI]
            go_wp2_with fail
            refine HGp5.out.mono ?_
            rintro e w6 ⟨rfl, hb6⟩
            have HB6 := Lib.hid (HB5.out.trans (hb6.mono HB5.out.size))
            obtain ⟨x0, x1⟩ := pair_kept HV5.out hb6
            clear hb6 HGp5
            dsimp only [optI]
            go_wp2_with fail
            refine (HC.out _).mono ?_
            rintro e w7 ⟨rfl, hb7⟩
            have HB7 := Lib.hid (HB6.out.trans (hb7.mono HB6.out.size))
            clear hb7 HC
            go_wp2_with fail
            go_ret2
            exact ⟨by rw [H1.out, H2.out]; rfl, HB7.out⟩
          · obtain ⟨h1, h2⟩ := add_full (x := ⟨n, i⟩) h0 hm hl hg (by omega)
            rw [if_neg hlt] at hgp
            have HGp := Lib.hid fun g W (hW : EntAt W g (pad72 (ents s))) => by
              have := gap_any g _ W hW
              rw [hgp] at this
              exact this
            have H1 := Lib.hid h1
            have H2 := Lib.hid h2
            clear h0 h1 h2 hm hM hl hn27 hg hgp l1 l2 l3 hlt
            generalize pad72 (ents s) = L at *
            go_enter Tryz.func53, Tryz.ntmps53
            go_wp2_with fail
            refine (HR.out _).mono ?_
            rintro e w1 ⟨rfl, hb1⟩
            have HB1 := Lib.hid hb1
            clear hb1 HR
            obtain ⟨w2, hst, ha, hb2, hsz2⟩ := arr_laid w1 Z L hZ72 hL
            have HB2 := Lib.hid (HB1.out.trans (hb2.mono HB1.out.size))
            have HB3 := Lib.hid (HB2.out.alloc HB2.out.size (.cells #[str n, .int .u32 (i : Int)] 193))
            have HA := Lib.hid (ha.after ((Below.refl _ w2).alloc (Nat.le_refl _) (.cells #[str n, .int .u32 (i : Int)] 193)))
            have HV := Lib.hid (two_cells w2 (str n) (.int .u32 (i : Int)) 193)
            clear ha hb2 hsz2
            go_wp2_with fail
            refine (HM.out _).mono ?_
            rintro e w4 ⟨rfl, hb4⟩
            have HB4 := Lib.hid (HB3.out.trans (hb4.mono HB3.out.size))
            have HA4 := Lib.hid (HA.out.after hb4)
            have HV4 := Lib.hid (pair_kept HV.out hb4)
            have HPl4 := Lib.hid (HPl.out _ _ HA4.out)
            clear hb4 HM HPl HA HV
            go_wp2_with fail
            refine HPl4.out.mono ?_
            rintro e w5 ⟨rfl, hb5⟩
            have HB5 := Lib.hid (HB4.out.trans (hb5.mono HB4.out.size))
            have HV5 := Lib.hid (pair_kept HV4.out hb5)
            have HGp5 := Lib.hid (HGp.out _ _ (HA4.out.after hb5))
            clear hb5 HPl4 HA4 HV4 HGp
            dsimp only [optI]
            go_wp2_with fail
            refine HGp5.out.mono ?_
            rintro e w6 ⟨rfl, hb6⟩
            have HB6 := Lib.hid (HB5.out.trans (hb6.mono HB5.out.size))
            obtain ⟨x0, x1⟩ := pair_kept HV5.out hb6
            clear hb6 HGp5
            dsimp only [optI]
            go_wp2_with fail
            go_ret2
            exact ⟨by rw [H1.out, H2.out]; rfl, HB6.out⟩
  · obtain ⟨h1, h2⟩ := add_bad (x := ⟨n, i⟩) h0
    have q := chk_ne h0
    have H1 := Lib.hid h1
    have H2 := Lib.hid h2
    have HR := Lib.hid hR
    clear h0 h1 h2 hR hM
    generalize pad72 (ents s) = L at *
    generalize chk s = z at *
    go_enter Tryz.func53, Tryz.ntmps53
    go_wp2_with fail
    refine (HR.out _).mono ?_
    rintro e w1 ⟨rfl, hb1⟩
    have HB1 := Lib.hid hb1
    clear hb1 HR
    obtain ⟨w2, hst, ha, hb2, hsz2⟩ := arr_laid w1 Z L hZ72 hL
    have HB2 := Lib.hid (HB1.out.trans (hb2.mono HB1.out.size))
    clear ha hb2 hsz2
    go_wp2_with fail
    go_ret2
    exact ⟨by rw [H1.out, H2.out]; rfl, HB2.out⟩
end Go.Proofs.YtnfiapjdkjbdhaaGreat.Dirs
/- Layer 10 (dirs), the document's own answers: Trim, Same. -/
namespace Go.Proofs.YtnfiapjdkjbdhaaGreat.Dirs
open Go.RowKit Go.Lib
set_option linter.unusedVariables false
set_option linter.unusedSimpArgs false
set_option maxRecDepth 10000
end Go.Proofs.YtnfiapjdkjbdhaaGreat.Dirs
/- Layer 10 (dirs): Del, Trim. -/
namespace Go.Proofs.YtnfiapjdkjbdhaaGreat.Dirs
open Go.RowKit Go.Lib
set_option linter.unusedVariables false
set_option linter.unusedSimpArgs false
set_option maxRecDepth 10000
theorem cell_aft {W W' : World} {g o : Nat} {a : Value} (h : W.cell? ⟨g, o, none⟩ = some a) (hb : Below W.heap.size W W') : W'.cell? ⟨g, o, none⟩ = some a :=
  (hb.cell (p := ⟨g, o, none⟩) (World.block_lt_of_cell? W _ h)).trans h
set_option maxRecDepth 100000 in
set_option maxHeartbeats 4000000 in
theorem del_any (s n : List UInt8) (w : World) (hs : s.length ≤ maxLen) :
    Calls Tryz.prog 55 #[str s, str n] w fun e w' => e = .returned (.tuple #[str (delT s n), .int .u32 (delI s n : Nat), .int .i64 (delE s n : Nat)]) ∧ Below w.heap.size w w' := by
  have hR := fun W => read_any s W hs
  have hL := pad72_length (ents_le s)
  obtain ⟨hzr, hsz⟩ := zero_of_info entsInfo
  have Hsz := Lib.hid hsz
  clear hsz
  have hZ72 : (List.replicate 72 En.free).length = 72 := by simp
  generalize List.replicate 72 En.free = Z at *
  by_cases h0 : chk s = 0
  · rw [h0] at hR
    have HR := Lib.hid hR
    clear hR
    cases hl : look (ents s) n with
    | none =>
      obtain ⟨h1, h2, h3⟩ := del_none h0 hl
      have H1 := Lib.hid h1
      have H2 := Lib.hid h2
      have H3 := Lib.hid h3
      have HPl := Lib.hid fun g W (hW : EntAt W g (pad72 (ents s))) => by
        have := place_any g _ n W hW
        rw [look_pad72, hl] at this
        exact this
      clear h0 h1 h2 h3 hl
      generalize pad72 (ents s) = L at *
      go_enter Tryz.func55, Tryz.ntmps55
      go_wp2_with fail
      refine (HR.out _).mono ?_
      rintro e w1 ⟨rfl, hb1⟩
      have HB1 := Lib.hid hb1
      clear hb1 HR
      obtain ⟨w2, hst, ha, hb2, hsz2⟩ := arr_laid w1 Z L hZ72 hL
      have HB2 := Lib.hid (HB1.out.trans (hb2.mono HB1.out.size))
      have HPl2 := Lib.hid (HPl.out _ _ ha)
      clear ha hb2 hsz2 HPl
      go_wp2_with fail
      refine HPl2.out.mono ?_
      rintro e w3 ⟨rfl, hb3⟩
      have HB3 := Lib.hid (HB2.out.trans (hb3.mono HB2.out.size))
      clear hb3 HPl2
      dsimp only [optI]
      go_wp2_with fail
      go_ret3
      exact ⟨by rw [H1.out, H2.out, H3.out]; rfl, HB3.out⟩
    | some k =>
      obtain ⟨hne, x, hx, hxn, -⟩ := look_some hl
      obtain ⟨h1, h2, h3⟩ := del_some h0 hl hx
      have hkl := look_lt hl
      have h72 := ents_le s
      have hk72 : (k : Int) < 72 := by omega
      obtain ⟨l1, l2, l3⟩ := ents_len h0
      have H1 := Lib.hid h1
      have H2 := Lib.hid h2
      have H3 := Lib.hid h3
      have HPl := Lib.hid fun g W (hW : EntAt W g (pad72 (ents s))) => by
        have := place_any g _ n W hW
        rw [look_pad72, hl] at this
        exact this
      have Hx := Lib.hid (pad72_get hx)
      have hc : ∀ W, Calls Tryz.prog 116 #[str s, .int .i64 (k : Int), .agg #[.string ⟨#[]⟩, .int .u32 0]] W fun e w' => e = .returned (str (chg s k freeL)) ∧ Below W.heap.size W w' := fun W => by
        have := change_in s k En.free W l2 (by omega) (by decide) (by decide)
        rw [slotL_free] at this
        exact this
      have HC := Lib.hid hc
      clear h0 h1 h2 h3 hl hx hxn hne l1 l2 l3 hc
      generalize pad72 (ents s) = L at *
      generalize freeL = F at *
      go_enter Tryz.func55, Tryz.ntmps55
      go_wp2_with fail
      refine (HR.out _).mono ?_
      rintro e w1 ⟨rfl, hb1⟩
      have HB1 := Lib.hid hb1
      clear hb1 HR
      obtain ⟨w2, hst, ha, hb2, hsz2⟩ := arr_laid w1 Z L hZ72 hL
      have HB2 := Lib.hid (HB1.out.trans (hb2.mono HB1.out.size))
      have HPl2 := Lib.hid (HPl.out _ _ ha)
      have HA := Lib.hid ha
      clear ha hb2 hsz2 HPl
      go_wp2_with fail
      refine HPl2.out.mono ?_
      rintro e w3 ⟨rfl, hb3⟩
      have HB3 := Lib.hid (HB2.out.trans (hb3.mono HB2.out.size))
      obtain ⟨c0, c1⟩ := (HA.out.after hb3).cells Hx.out
      clear hb3 HPl2 c0
      dsimp only [optI]
      go_wp2_with fail
      have HBd := Lib.hid HB3.out.drew
      go_region_held3 (fun W => W.cell? ⟨w1.heap.size, k * 2 + 1, none⟩ = some (.int .u32 (x.i : Int)))
        (first | exact c1 | exact cell_aft (by assumption) hb4)
        (first | (go_at_call 116; ((with_reducible refine (HC.out _).mono ?_); rintro e w4 ⟨rfl, hb4⟩; have HBd := Lib.hid (HBd.out.trans (hb4.mono HBd.out.size)))))
      go_wp2_with fail
      go_ret3
      exact ⟨by rw [H1.out, H2.out, H3.out]; rfl, HBd.out⟩
  · obtain ⟨h1, h2, h3⟩ := del_bad (n := n) h0
    have q := chk_ne h0
    have H1 := Lib.hid h1
    have H2 := Lib.hid h2
    have H3 := Lib.hid h3
    have HR := Lib.hid hR
    clear h0 h1 h2 h3 hR
    generalize pad72 (ents s) = L at *
    generalize chk s = z at *
    go_enter Tryz.func55, Tryz.ntmps55
    go_wp2_with fail
    refine (HR.out _).mono ?_
    rintro e w1 ⟨rfl, hb1⟩
    have HB1 := Lib.hid hb1
    clear hb1 HR
    obtain ⟨w2, hst, ha, hb2, hsz2⟩ := arr_laid w1 Z L hZ72 hL
    have HB2 := Lib.hid (HB1.out.trans (hb2.mono HB1.out.size))
    clear ha hb2 hsz2
    go_wp2_with fail
    go_ret3
    exact ⟨by rw [H1.out, H2.out, H3.out]; rfl, HB2.out⟩
end Go.Proofs.YtnfiapjdkjbdhaaGreat.Dirs
