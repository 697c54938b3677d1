/- Layer 10 (dirs): read. -/
import Derived.Test.YtmidoghjacmdcaaDirs16
import Derived.Laws.EntriesVeiled
namespace Go.Proofs.Ytmidoghjacmdcaa
open Go.RowKit Go.Shelf
set_option linter.unusedVariables false
set_option linter.unusedSimpArgs false
set_option maxRecDepth 10000
attribute [local go_sem] Oper.semAt_some
theorem results_row_tmpD {fn : Func} {p q : Tmp} {ty : TypeId} {P : Program} (h : fn.results = #[.cell p ty, .tmp q]) (tmps : Array Value) (w : World) (g : Nat) (v : Value)
    (hp : tmps.getD p undef = .pointer (some ⟨g, 0, none⟩)) (hl : (loadVar ty ⟨g, 0, none⟩).run P w = .ok v w) :
    (results fn tmps).run P w = .ok (.tuple #[v, tmps.getD q undef]) w := by
  have hp' : tmps[p]?.getD undef = .pointer (some ⟨g, 0, none⟩) := by simpa using hp
  simp [results, h, hp', asAddr, hl]
theorem EntAt.kept {W W' : World} {g : Nat} {l : List En} {row : Option Nat} (h : EntAt W g l) (hg : W.grownBy W' row) (hr : ∀ r, row = some r → ∃ o : Obj, W.heap[r]? = some o ∧ o.isCells = false) : EntAt W' g l :=
  ⟨(grownBy_keeps_cells hg hr h.1 rfl).trans h.1, h.2⟩
/-- What has been told of the slots so far. -/
def RdJ (s : List UInt8) (pre : List (SlIx s)) (l : List En) (e : Int) : Prop :=
  SlRow s pre.length pre → (∀ p ∈ (slots s).take pre.length, okS p = true) ∧
    ((e = 0 ∧ uniq (((slots s).take pre.length).map getE) ∧ l = pad72 (((slots s).take pre.length).map getE)) ∨ (e = 9 ∧ ¬ uniq (((slots s).take pre.length).map getE)))
/-- What lies in memory. -/
structure RdW (Z : List En) (r : Nat) (l : List En) (e : Int) (W : World) : Prop where
  res : EntAt W r Z
  arr : EntAt W (r + 1) l
  fn : W.cell? ⟨r + 1 + 1, 0, none⟩ = some (.func (.func 43) #[] #[.pointer (some ⟨r + 1, 0, none⟩)])
  err : W.cell? ⟨r + 1 + 1 + 1, 0, none⟩ = some (.int .i64 e)
  soft : W.frozen? ⟨r + 1 + 1 + 1, 0, none⟩ = false
theorem RdW.kept {Z : List En} {r : Nat} {l : List En} {e : Int} {W W' : World} {row : Option Nat} (h : RdW Z r l e W) (hg : W.grownBy W' row) (hr : ∀ r, row = some r → ∃ o : Obj, W.heap[r]? = some o ∧ o.isCells = false) : RdW Z r l e W' :=
  ⟨h.res.kept hg hr, h.arr.kept hg hr, cell_kept h.fn hg hr, cell_kept h.err hg hr, (frozen_kept h.err hg hr).trans h.soft⟩
theorem RdW.after {Z : List En} {r : Nat} {l : List En} {e : Int} {W W' : World} (h : RdW Z r l e W) (hb : Below W.heap.size W W') : RdW Z r l e W' :=
  h.kept (grown_of_below hb none) (fun r e => by cases e)
theorem RdW.start (w : World) (Z : List En) (hZ : Z.length = 72) (s : List UInt8) (f : Value) (hf : f = .func (.func 43) #[] #[.pointer (some ⟨w.heap.size + 1, 0, none⟩)]) :
    RdW Z w.heap.size Z 0 (((((w.alloc (.cells (enC Z).toArray 50)).alloc (.cells (enC Z).toArray 50)).alloc (.cells #[f] 67)).alloc (.cells #[.int .i64 0] 24)).alloc (.cells #[str s] 9)) := by
  subst hf
  have h1 := ents_alloc w Z hZ
  have h2 := ents_alloc (w.alloc (.cells (enC Z).toArray 50)) Z hZ
  rw [World.size_alloc] at h2
  have h3 := cell_new_l ((w.alloc (.cells (enC Z).toArray 50)).alloc (.cells (enC Z).toArray 50)) (.func (.func 43) #[] #[.pointer (some ⟨w.heap.size + 1, 0, none⟩)]) 67
  have h4 := cell_new_l (((w.alloc (.cells (enC Z).toArray 50)).alloc (.cells (enC Z).toArray 50)).alloc (.cells #[.func (.func 43) #[] #[.pointer (some ⟨w.heap.size + 1, 0, none⟩)]] 67)) (.int .i64 0) 24
  have h5 := frozen_new_l (((w.alloc (.cells (enC Z).toArray 50)).alloc (.cells (enC Z).toArray 50)).alloc (.cells #[.func (.func 43) #[] #[.pointer (some ⟨w.heap.size + 1, 0, none⟩)]] 67)) (.int .i64 0) 24
  simp only [World.size_alloc] at h3 h4 h5
  have b : ∀ (V : World) (o : Obj), Below V.heap.size V (V.alloc o) := fun V o => (Below.refl _ _).alloc (Nat.le_refl _) o
  refine ⟨(((h1.after (b _ _)).after (b _ _)).after (b _ _)).after (b _ _), ((h2.after (b _ _)).after (b _ _)).after (b _ _), Lib.cell?_alloc_some _ (Lib.cell?_alloc_some _ h3), Lib.cell?_alloc_some _ h4, ?_⟩
  have := (b ((((w.alloc (.cells (enC Z).toArray 50)).alloc (.cells (enC Z).toArray 50)).alloc (.cells #[.func (.func 43) #[] #[.pointer (some ⟨w.heap.size + 1, 0, none⟩)]] 67)).alloc (.cells #[.int .i64 0] 24)) (.cells #[str s] 9)).frozen (p := ⟨w.heap.size + 1 + 1 + 1, 0, none⟩) (by simp)
  exact this.trans h5
theorem RdW.setErr {Z : List En} {r : Nat} {l : List En} {e : Int} {W : World} (h : RdW Z r l e W) (e' : Int) : RdW Z r l e' (W.setCell ⟨r + 1 + 1 + 1, 0, none⟩ (.int .i64 e')) := by
  refine ⟨⟨?_, h.res.2⟩, ⟨?_, h.arr.2⟩, ?_, World.cell?_setCell_same' _ _ _ (by rw [h.err]; rfl), by rw [World.frozen?_setCell]; exact h.soft⟩
  · rw [heap_setCell_other _ _ _ _ (by simp only; omega)]; exact h.res.1
  · rw [heap_setCell_other _ _ _ _ (by simp only; omega)]; exact h.arr.1
  · rw [World.cell?_setCell_other _ _ _ _ (by intro e; injection e; omega)]; exact h.fn
theorem enC_set (l : List En) (j : Nat) (x : En) (h : j < l.length) : ((enC l).toArray.setIfInBounds (j * 2) (str x.n)).setIfInBounds (j * 2 + 1) (.int .u32 (x.i : Int)) = (enC (l.set j x)).toArray := by
  apply Array.ext'
  simp only [Array.toList_setIfInBounds]
  induction l generalizing j with
  | nil => simp at h
  | cons y r ih =>
    rw [enC_cons]
    cases j with
    | zero => simp [enC]
    | succ j =>
      rw [List.set_cons_succ, enC_cons, show (j + 1) * 2 = j * 2 + 1 + 1 by omega, List.set_cons_succ, List.set_cons_succ, List.set_cons_succ, List.set_cons_succ, ih j (by simpa using h)]
theorem RdW.put {Z : List En} {r : Nat} {l : List En} {e : Int} {W : World} (h : RdW Z r l e W) {j : Nat} (hj : j < 72) (x : En) :
    RdW Z r (l.set j x) e ((W.setCell ⟨r + 1, j * 2, none⟩ (str x.n)).setCell ⟨r + 1, j * 2 + 1, none⟩ (.int .u32 (x.i : Int))) := by
  refine ⟨⟨?_, h.res.2⟩, ⟨?_, by rw [List.length_set]; exact h.arr.2⟩, ?_, ?_, by rw [World.frozen?_setCell, World.frozen?_setCell]; exact h.soft⟩
  · rw [heap_setCell_other _ _ _ _ (by simp only; omega), heap_setCell_other _ _ _ _ (by simp only; omega)]; exact h.res.1
  · have e1 := heap_setCell_same W (r + 1) (j * 2) _ _ (str x.n) h.arr.1
    rw [heap_setCell_same _ (r + 1) (j * 2 + 1) _ _ _ e1, enC_set l j x (by rw [h.arr.2]; exact hj)]
  · rw [World.cell?_setCell_other _ _ _ _ (by intro e; injection e; omega), World.cell?_setCell_other _ _ _ _ (by intro e; injection e; omega)]; exact h.fn
  · rw [World.cell?_setCell_other _ _ _ _ (by intro e; injection e; omega), World.cell?_setCell_other _ _ _ _ (by intro e; injection e; omega)]; exact h.err
theorem pad72_set {a : List En} (h : a.length < 72) (x : En) : (pad72 a).set a.length x = pad72 (a ++ [x]) := by
  unfold pad72
  rw [List.set_append_right _ _ (Nat.le_refl _), Nat.sub_self]
  obtain ⟨m, hm⟩ : ∃ m, 72 - a.length = m + 1 := ⟨72 - a.length - 1, by omega⟩
  have : 72 - (a ++ [x]).length = m := by simp; omega
  rw [hm, this, List.replicate_succ, List.set_cons_zero]
  simp
theorem uniq_snoc {a : List En} {x : En} : uniq (a ++ [x]) ↔ uniq a ∧ ∀ y ∈ a, y.n = x.n → x.n = [] := by
  unfold uniq
  rw [List.pairwise_append]
  constructor
  · rintro ⟨h1, _, h3⟩
    exact ⟨h1, fun y hy => h3 y hy x (by simp)⟩
  · rintro ⟨h1, h2⟩
    refine ⟨h1, by simp, fun y hy z hz => ?_⟩
    rw [List.mem_singleton.1 hz]
    exact h2 y hy
section
variable {s : List UInt8} {pre : List (SlIx s)} {l : List En} {e : Int} {x : SlIx s} {p : List UInt8}
theorem rdj_row (h : SlRow s (pre ++ [x]).length (pre ++ [x])) : SlRow s pre.length pre ∧ x.val = pre.length := by
  obtain ⟨j, hj, hr, hx⟩ := h.unsnoc
  have : j = pre.length := by simp at hj; omega
  subst this
  exact ⟨hr, hx⟩
theorem rdj_take (h : SlRow s (pre ++ [x]).length (pre ++ [x])) (hp : (slots s)[x.val]? = some p) : (slots s).take (pre ++ [x]).length = (slots s).take pre.length ++ [p] := by
  have hx := (rdj_row h).2
  rw [hx] at hp
  obtain ⟨h1, h2⟩ := List.getElem?_eq_some_iff.1 hp
  rw [List.length_append, List.length_singleton, List.take_succ_eq_append_getElem h1, h2]
theorem RdJ.have_ (h : RdJ s pre l e) (hp : (slots s)[x.val]? = some p) (ho : okS p = true) {k : Nat} (hk : look l (getE p).n = some k) : RdJ s (pre ++ [x]) l 9 := by
  intro hr
  obtain ⟨h1, h2⟩ := h (rdj_row hr).1
  rw [rdj_take hr hp, List.map_append, List.map_singleton]
  refine ⟨?_, .inr ⟨rfl, ?_⟩⟩
  · intro q hq
    rcases List.mem_append.1 hq with h3 | h3
    · exact h1 q h3
    · rw [List.mem_singleton.1 h3]; exact ho
  · rw [uniq_snoc]
    rintro ⟨h3, h4⟩
    rcases h2 with ⟨_, _, h5⟩ | ⟨_, h5⟩
    · rw [h5] at hk
      unfold pad72 at hk
      rw [look_pad] at hk
      obtain ⟨hn, y, hy, hyn, _⟩ := look_some hk
      exact hn (h4 y (List.mem_of_getElem? hy) hyn)
    · exact h5 h3
theorem RdJ.put (h : RdJ s pre l e) (h72 : (slots s).length ≤ 72) (hp : (slots s)[x.val]? = some p) (ho : okS p = true) (hk : look l (getE p).n = none) : RdJ s (pre ++ [x]) (l.set x.val (getE p)) e := by
  intro hr
  obtain ⟨h1, h2⟩ := h (rdj_row hr).1
  have hx := (rdj_row hr).2
  have hpl := (List.getElem?_eq_some_iff.1 hp).1
  rw [rdj_take hr hp, List.map_append, List.map_singleton]
  refine ⟨?_, ?_⟩
  · intro q hq
    rcases List.mem_append.1 hq with h3 | h3
    · exact h1 q h3
    · rw [List.mem_singleton.1 h3]; exact ho
  · rcases h2 with ⟨h3, h4, h5⟩ | ⟨h3, h4⟩
    · have hl : (((slots s).take pre.length).map getE).length = pre.length := by simp; omega
      refine .inl ⟨h3, ?_, ?_⟩
      · rw [uniq_snoc]
        refine ⟨h4, fun y hy hyn => ?_⟩
        rw [h5] at hk
        unfold pad72 at hk
        rw [look_pad] at hk
        rcases look_none hk with h6 | h6
        · exact h6
        · exact absurd hyn (h6 y hy)
      · have h7 := pad72_set (a := ((slots s).take pre.length).map getE) (by omega) (getE p)
        rw [hl] at h7
        rw [h5, hx]; exact h7
    · refine .inr ⟨h3, ?_⟩
      rw [uniq_snoc]
      rintro ⟨h5, _⟩
      exact h4 h5
end
set_option maxRecDepth 100000 in
set_option maxHeartbeats 4000000 in
theorem read_ok (s : List UInt8) (w : World) (hz : sizeB s = true) :
    Calls Try.prog 27 #[str s] w fun e w' => e = .returned (.tuple #[entsV (pad72 (ents s)), .int .i64 (chk s : Nat)]) ∧ Below w.heap.size w w' := by
  obtain ⟨hm, hle⟩ := sizeB_facts hz
  have q1 : ((s.length : Int) % 64 != 0) = false := by
    have : (s.length : Int) % 64 = 0 := by omega
    rw [this]; rfl
  have q2 : ¬ (2304 : Int) < (s.length : Int) := by omega
  have Hz := Lib.hid hz
  clear hz hm
  obtain ⟨hzr, hsz⟩ := zero_of_info entsInfo
  have Hsz := Lib.hid hsz
  clear hsz
  have hZ72 : (List.replicate 72 En.free).length = 72 := by simp
  have HZ := Lib.hid (show List.replicate 72 En.free = pad72 [] from rfl)
  generalize List.replicate 72 En.free = Z at *
  refine (callsIn_wide (n := 3)).1 ?_
  refine callsIn_of_wp_marks Try.func27 rfl trivial ?_ rfl
  simp only [Try.ntmps27, List.size_toArray, List.length_cons, List.length_nil, Nat.reduceAdd, Nat.reduceSub, Array.replicate_succ, Array.replicate_zero, List.push_toArray, List.append_toArray, List.nil_append, List.cons_append]
  gi_wp2_with fail
  refine scope_in ?_
  gi_wp2_with fail
  refine wpIn_label ?_
  gi_wp2_with fail
  refine ⟨trivial, (callsIn_wide.2 (slots_any s _)).mono ?_⟩
  rintro e w2 ⟨rfl, rfl⟩
  gi_wp2_with fail
  obtain ⟨W0, hW0⟩ : ∃ W0, (((((w.alloc (.cells (enC Z).toArray 50)).alloc (.cells (enC Z).toArray 50)).alloc (.cells #[.func (.func 43) #[] #[.pointer (some ⟨w.heap.size + 1, 0, none⟩)]] 67)).alloc (.cells #[.int .i64 0] 24)).alloc (.cells #[str s] 9)) = W0 := ⟨_, rfl⟩
  have hst := RdW.start w Z hZ72 s _ rfl
  have hcb := cell_new_l ((((w.alloc (.cells (enC Z).toArray 50)).alloc (.cells (enC Z).toArray 50)).alloc (.cells #[.func (.func 43) #[] #[.pointer (some ⟨w.heap.size + 1, 0, none⟩)]] 67)).alloc (.cells #[.int .i64 0] 24)) (str s) 9
  simp only [World.size_alloc] at hcb
  have hsz0 : W0.heap.size = w.heap.size + 1 + 1 + 1 + 1 + 1 := by rw [← hW0]; simp
  have hB0 : Below w.heap.size w W0 := by
    rw [← hW0]
    exact (((((Below.refl _ _).alloc (Nat.le_refl _) _).alloc (by simp) _).alloc (by simp; omega) _).alloc (by simp; omega) _).alloc (by simp; omega) _
  rw [hW0] at hst hcb
  rw [hW0]
  have HZR := Lib.hid hzr
  clear hW0 hzr
  have Hsz0 := Lib.hid hsz0
  have Hst := Lib.hid hst
  have Hcb := Lib.hid hcb
  have HB0 := Lib.hid hB0
  clear hsz0 hst hcb hB0
  refine wpIn_rangeFunc_ownF rfl (by decide) (gf := 54) (lb := #[.pointer (some ⟨w.heap.size + 1 + 1 + 1 + 1, 0, none⟩)]) rfl trivial (enters_of Try.func54 (by kernel_rfl) rfl)
    (encs := fun (x : SlIx s) => #[.int .i64 (x.val : Int), str (slots s)[x.val]]) (S := fun ys => SlRow s (slots s).length ys) (Sp := fun pre => ∃ k, k ≤ (slots s).length ∧ SlRow s k pre) (N := (slots s).length) (w0 := W0) (Kp := KeepHi W0.heap.size)
    (fun y J Jx W hW hJ hJx hY h0 => slots_in s (by omega) y (w.heap.size + 1 + 1 + 1 + 1) W0.heap.size J Jx W hJ hW.size hY ((hW.cell (p := ⟨w.heap.size + 1 + 1 + 1 + 1, 0, none⟩) (by rw [Hsz0.out]; simp)).trans Hcb.out) h0)
    (fun h k => h.trans k) (fun W q o o' _ hq ho _ => KeepHi.putObj o' hq ho) (Below.refl _ _) (fun _ => rfl)
    (fun pre W => (∃ l e, RdW Z w.heap.size l e W ∧ RdJ s pre l e) ∧ Below w.heap.size w W)
    (fun c pre W => (c = .exit 0 ∧ (∃ l, RdW Z w.heap.size l 7 W) ∧ ∃ ys x, pre = ys ++ [x] ∧ okS (slots s)[x.val] = false) ∧ Below w.heap.size w W)
    (OwnFrom.and (Own.from (fun q A B row hs hg hr => by
      obtain ⟨l, e, h1, h2⟩ := hs
      exact ⟨l, e, h1.kept hg hr, h2⟩) _) (ownFrom_below (Nat.le_refl _) (by rw [Hsz0.out]; omega)))
    (fun c => OwnFrom.and (Own.from (fun q A B row hs hg hr => by
      obtain ⟨h1, ⟨l, h2⟩, h3⟩ := hs
      exact ⟨h1, ⟨l, h2.kept hg hr⟩, h3⟩) _) (ownFrom_below (Nat.le_refl _) (by rw [Hsz0.out]; omega)))
    ⟨⟨Z, 0, Hst.out, fun _ => ⟨by simp, .inl ⟨rfl, by simp [uniq], HZ.out⟩⟩⟩, HB0.out⟩
    (fun x => { tmps := #[str s, undef, Value.pointer (some { block := w.heap.size, off := 0 }), Value.int IntKind.i64 0, Value.pointer (some { block := w.heap.size + 1, off := 0 }), Value.pointer (some { block := w.heap.size + 1 + 1, off := 0 }), Value.pointer (some { block := w.heap.size + 1 + 1 + 1, off := 0 }), .int .i64 (x.val : Int), str (slots s)[x.val], undef, str s, Value.int IntKind.i64 (s.length : Int), Value.int IntKind.i64 ((s.length : Int) % 64), Value.bool false, Value.bool false, str s, Value.int IntKind.i64 (s.length : Int), Value.bool (decide ((2304 : Int) < (s.length : Int))), Value.bool (decide ((2304 : Int) < (s.length : Int))), undef, Value.func (Fn.func 43) #[] #[Value.pointer (some { block := w.heap.size + 1, off := 0 })], str s, Value.func (Fn.func 54) #[] #[Value.pointer (some { block := w.heap.size + 1 + 1 + 1 + 1, off := 0 })], .int .i64 (x.val : Int), str (slots s)[x.val], undef, undef, undef, undef, undef, undef, undef, undef, undef, undef, undef, undef, undef, undef, undef, undef, undef, undef], defers := [] }) ?assign ?body ?done ?stop
  case assign =>
    intro l x W K hK
    gi_wp2
    exact hK
  case body =>
    rintro y pre x W ⟨⟨l, e, hW, hJ⟩, hB⟩ hlen
    have hxl := x.isLt
    have h72 : (slots s).length ≤ 72 := (slots_le Hz.out).1
    have hj72 : x.val < 72 := by omega
    have hp32 : ((slots s)[x.val]).length = 32 := slots_each Hz.out (List.getElem_mem _)
    have HG := Lib.hid fun V => dget_any ((slots s)[x.val]) V hp32
    have hWr := fun V (hV : EntAt V (w.heap.size + 1) l) => wrong_any ((slots s)[x.val]) hp32 (w.heap.size + 1) l V hV
    have HJ := Lib.hid hJ
    have HB := Lib.hid hB
    have HW := Lib.hid hW
    have Hsl := Lib.hid (show (slots s)[x.val]? = some (slots s)[x.val] from List.getElem?_eq_getElem hxl)
    have h72 := Lib.hid h72
    clear hJ hB hW hlen hp32
    generalize (slots s)[x.val] = p at *
    cases hok : okS p with
    | false =>
      rw [wrong_form hok] at hWr
      have HWr := Lib.hid hWr
      have Hok := Lib.hid hok
      clear hok hWr
      gi_wp2_with fail
      refine ⟨trivial, (callsIn_wide.2 (HG.out _)).mono ?_⟩
      rintro e1 w1 ⟨rfl, hb1⟩
      have HW1 := Lib.hid (HW.out.after hb1)
      have HB1 := Lib.hid (HB.out.trans (hb1.mono HB.out.size))
      have HK1 := Lib.hid (keeps_below hb1)
      have HH1 := Lib.hid (KeepHi.below (n := W0.heap.size) hb1)
      clear hb1 HG
      have hb2 : Below w1.heap.size w1 (w1.alloc (.cells #[str (getE p).n, .int .u32 ((getE p).i : Int)] 34)) := (Below.refl _ w1).alloc (Nat.le_refl _) _
      have HW2 := Lib.hid (HW1.out.after hb2)
      have HB2 := Lib.hid (HB1.out.trans (hb2.mono HB1.out.size))
      have HK2 := Lib.hid (HK1.out.trans (keeps_below hb2))
      have HH2 := Lib.hid (HH1.out.trans (KeepHi.below (n := W0.heap.size) hb2))
      have hfn := HW2.out.fn
      have HV := Lib.hid (two_cells w1 (str (getE p).n) (.int .u32 ((getE p).i : Int)) 34)
      clear hb2 HW1 HB1 HK1 HH1
      gi_wp2_with fail
      refine ⟨trivial, (callsIn_wide.2 (HWr.out _ HW2.out.arr)).mono ?_⟩
      rintro e2 w2 ⟨rfl, hb3⟩
      have HW3 := Lib.hid (HW2.out.after hb3)
      have HB3 := Lib.hid (HB2.out.trans (hb3.mono HB2.out.size))
      have HK3 := Lib.hid (HK2.out.trans (keeps_below hb3))
      have HH3 := Lib.hid (HH2.out.trans (KeepHi.below (n := W0.heap.size) hb3))
      have HV3 := Lib.hid (pair_kept HV.out hb3)
      clear hb3 hfn HW2 HB2 HK2 HH2 HV HWr
      have herr := HW3.out.err
      have hsoft := HW3.out.soft
      gi_wp2_with fail
      refine ⟨HK3.out.trans (KeepsOthers.setCell _ _ _), ⟨rfl, ⟨l, HW3.out.setErr 7⟩, pre, x, rfl, ?_⟩, HB3.out.setCell (p := ⟨w.heap.size + 1 + 1 + 1, 0, none⟩) (by simp only; omega) _⟩
      have h1 := Hsl.out
      rw [List.getElem?_eq_getElem hxl] at h1
      rw [Option.some.inj h1]
      exact Hok.out
    | true =>
      cases hlk : look l (getE p).n with
      | some k =>
        rw [wrong_have hok hlk] at hWr
        have HWr := Lib.hid hWr
        have HJ2 := Lib.hid (HJ.out.have_ Hsl.out hok hlk)
        clear hok hWr hlk
        gi_wp2_with fail
        refine ⟨trivial, (callsIn_wide.2 (HG.out _)).mono ?_⟩
        rintro e1 w1 ⟨rfl, hb1⟩
        have HW1 := Lib.hid (HW.out.after hb1)
        have HB1 := Lib.hid (HB.out.trans (hb1.mono HB.out.size))
        have HK1 := Lib.hid (keeps_below hb1)
        have HH1 := Lib.hid (KeepHi.below (n := W0.heap.size) hb1)
        clear hb1 HG
        have hb2 : Below w1.heap.size w1 (w1.alloc (.cells #[str (getE p).n, .int .u32 ((getE p).i : Int)] 34)) := (Below.refl _ w1).alloc (Nat.le_refl _) _
        have HW2 := Lib.hid (HW1.out.after hb2)
        have HB2 := Lib.hid (HB1.out.trans (hb2.mono HB1.out.size))
        have HK2 := Lib.hid (HK1.out.trans (keeps_below hb2))
        have HH2 := Lib.hid (HH1.out.trans (KeepHi.below (n := W0.heap.size) hb2))
        have hfn := HW2.out.fn
        have HV := Lib.hid (two_cells w1 (str (getE p).n) (.int .u32 ((getE p).i : Int)) 34)
        clear hb2 HW1 HB1 HK1 HH1
        gi_wp2_with fail
        refine ⟨trivial, (callsIn_wide.2 (HWr.out _ HW2.out.arr)).mono ?_⟩
        rintro e2 w2 ⟨rfl, hb3⟩
        have HW3 := Lib.hid (HW2.out.after hb3)
        have HB3 := Lib.hid (HB2.out.trans (hb3.mono HB2.out.size))
        have HK3 := Lib.hid (HK2.out.trans (keeps_below hb3))
        have HH3 := Lib.hid (HH2.out.trans (KeepHi.below (n := W0.heap.size) hb3))
        have HV3 := Lib.hid (pair_kept HV.out hb3)
        clear hb3 hfn HW2 HB2 HK2 HH2 HV HWr
        have herr := HW3.out.err
        have hsoft := HW3.out.soft
        gi_wp2_with fail
        exact ⟨HK3.out.trans (KeepsOthers.setCell _ _ _), HH3.out.trans (KeepHi.setCell _ _ _ (by rw [Hsz0.out]; simp only; omega)), ⟨l, 9, HW3.out.setErr 9, HJ2.out⟩, HB3.out.setCell (p := ⟨w.heap.size + 1 + 1 + 1, 0, none⟩) (by simp only; omega) _⟩
      | none =>
        rw [wrong_ok hok hlk] at hWr
        have HWr := Lib.hid hWr
        have HJ2 := Lib.hid (HJ.out.put h72.out Hsl.out hok hlk)
        clear hok hWr hlk
        gi_wp2_with fail
        refine ⟨trivial, (callsIn_wide.2 (HG.out _)).mono ?_⟩
        rintro e1 w1 ⟨rfl, hb1⟩
        have HW1 := Lib.hid (HW.out.after hb1)
        have HB1 := Lib.hid (HB.out.trans (hb1.mono HB.out.size))
        have HK1 := Lib.hid (keeps_below hb1)
        have HH1 := Lib.hid (KeepHi.below (n := W0.heap.size) hb1)
        clear hb1 HG
        have hb2 : Below w1.heap.size w1 (w1.alloc (.cells #[str (getE p).n, .int .u32 ((getE p).i : Int)] 34)) := (Below.refl _ w1).alloc (Nat.le_refl _) _
        have HW2 := Lib.hid (HW1.out.after hb2)
        have HB2 := Lib.hid (HB1.out.trans (hb2.mono HB1.out.size))
        have HK2 := Lib.hid (HK1.out.trans (keeps_below hb2))
        have HH2 := Lib.hid (HH1.out.trans (KeepHi.below (n := W0.heap.size) hb2))
        have hfn := HW2.out.fn
        have HV := Lib.hid (two_cells w1 (str (getE p).n) (.int .u32 ((getE p).i : Int)) 34)
        clear hb2 HW1 HB1 HK1 HH1
        gi_wp2_with fail
        refine ⟨trivial, (callsIn_wide.2 (HWr.out _ HW2.out.arr)).mono ?_⟩
        rintro e2 w2 ⟨rfl, hb3⟩
        have HW3 := Lib.hid (HW2.out.after hb3)
        have HB3 := Lib.hid (HB2.out.trans (hb3.mono HB2.out.size))
        have HK3 := Lib.hid (HK2.out.trans (keeps_below hb3))
        have HH3 := Lib.hid (HH2.out.trans (KeepHi.below (n := W0.heap.size) hb3))
        have HV3 := Lib.hid (pair_kept HV.out hb3)
        clear hb3 hfn HW2 HB2 HK2 HH2 HV HWr
        obtain ⟨v0, v1⟩ := HV3.out
        obtain ⟨z, hz⟩ : ∃ z, l[x.val]? = some z := ⟨l[x.val]'(by rw [HW3.out.arr.2]; exact hj72), List.getElem?_eq_getElem _⟩
        obtain ⟨c0, c1⟩ := HW3.out.arr.cells hz
        have f0 := HW3.out.arr.soft (x.val * 2)
        have f1 := HW3.out.arr.soft (x.val * 2 + 1)
        have hjz : (x.val : Int) < 72 := by omega
        clear hz
        gi_wp2_with fail
        exact ⟨HK3.out.trans ((KeepsOthers.setCell _ _ _).trans (KeepsOthers.setCell _ _ _)), HH3.out.trans ((KeepHi.setCell _ _ _ (by rw [Hsz0.out]; simp only; omega)).trans (KeepHi.setCell _ _ _ (by rw [Hsz0.out]; simp only; omega))), ⟨_, e, HW3.out.put hj72 (getE p), HJ2.out⟩, (HB3.out.setCell (p := ⟨w.heap.size + 1, x.val * 2, none⟩) (by simp only; omega) _).setCell (p := ⟨w.heap.size + 1, x.val * 2 + 1, none⟩) (by simp only; omega) _⟩
  case done =>
    rintro D ys W hD hS ⟨⟨l, e, hW, hJ⟩, hB⟩ hK
    have hyl := hS.length
    obtain ⟨j1, j2⟩ := hJ (by rw [hyl]; exact hS)
    rw [hyl, List.take_length] at j1 j2
    have hF : formB s = true := by
      simp only [formB, Bool.and_eq_true, List.all_eq_true]
      exact ⟨Hz.out, j1⟩
    rcases j2 with ⟨rfl, hu, rfl⟩ | ⟨rfl, hu⟩
    · have hc : chk s = 0 := by unfold chk; rw [if_pos hF, if_pos hu]
      have HE := Lib.hid (show ents s = (slots s).map getE by unfold ents; rw [if_pos hc])
      have HC := Lib.hid hc
      have HW := Lib.hid hW
      have HB := Lib.hid hB
      have hl := ents_load hW.arr
      obtain ⟨W2, hst, hr2, ho2, hb2, hsz2⟩ := ents_store hW.res hW.arr.2
      have herr := hW.err
      have HK := Lib.hid hK
      have HR2 := Lib.hid hr2
      have HO2 := Lib.hid ho2
      have HB2 := Lib.hid (hB.trans (hb2 w.heap.size (Nat.le_refl _)))
      clear hc hW hB hr2 ho2 hb2 hK hJ hS hyl j1 hF hu
      obtain ⟨L, hL⟩ : ∃ L, pad72 ((slots s).map getE) = L := ⟨_, rfl⟩
      rw [hL] at HW hl hst HR2
      have HL := Lib.hid hL
      clear hL
      gi_wp2_with fail
      rw [Exit.noGoto_ret]
      have hK2 : W2.heap[D]? = some (.deferred (some [])) := (HO2.out D (by have := Hsz0.out; omega)).trans HK.out
      refine ⟨by simp, .inl ⟨_, _, rfl, run_takeDeferred hK2, ?_⟩⟩
      refine ⟨.tuple #[entsV L, .int .i64 0], ?_, ⟨?_, HB2.out.trans (belowK_b (w := w) (Nat.le_refl _) W2 D _ _ (by have := Hsz0.out; omega) hK2 rfl rfl)⟩⟩
      · exact results_row_tmpD (p := 2) (q := 3) rfl _ _ w.heap.size _ rfl (ents_var (HR2.out.kept (grownBy_putObj' _ D (.deferred none)) (fun r e => by cases e; exact ⟨_, hK2, rfl⟩)))
      · rw [HE.out, HC.out, HL.out]; rfl
    · have hc : chk s = 9 := by unfold chk; rw [if_pos hF, if_neg hu]
      have HE := Lib.hid (show ents s = [] from ents_bad (by rw [hc]; decide))
      have HC := Lib.hid hc
      have hWd : RdW Z w.heap.size l 9 W.drew := ⟨hW.res, hW.arr, hW.fn, hW.err, hW.soft⟩
      obtain ⟨W2, hst, hr2, ho2, hb2, hsz2⟩ := ents_store hWd.res hZ72
      have herr := hWd.err
      have HK := Lib.hid hK
      have HR2 := Lib.hid hr2
      have HO2 := Lib.hid ho2
      have HB2 := Lib.hid (hB.drew.trans (hb2 w.heap.size (Nat.le_refl _)))
      have herr0 := hW.err
      have herr2 : W2.cell? ⟨w.heap.size + 1 + 1 + 1, 0, none⟩ = some (.int .i64 9) := (World.cell?_of_block (a := ⟨w.heap.size + 1 + 1 + 1, 0, none⟩) (ho2 _ (by simp only; omega))).trans herr
      have hzr := HZR.out
      clear hc hW hWd hB hr2 ho2 hb2 hK hJ hS hyl j1 hF hu
      gi_wp2_with fail
      refine wpIn_wide.2 ?_
      refine wp_region_noPanic ?_
      refine wp_region_held_drew (S := (fun V => V.cell? ⟨w.heap.size + 1 + 1 + 1, 0, none⟩ = some (.int .i64 9))) (by kernel_rfl) (herr) (fun hHeld => ?_)
      refine wpAnyH_take (i := 0) (oi := _) (v := ?_) rfl (by kernel_rfl) (by kernel_rfl) (by kernel_rfl) (fun _ _ _ h => h) (Or.inl ⟨by rfl, ?_⟩) (by assumption) ?_
      rotate_left
      · intro w hSw
        try dsimp only at hSw
        go_simp
        try with_reducible rfl
      (try simp only [Act.put, List.setIfInBounds_toArray, List.set_cons_zero, List.set_cons_succ, List.getElem_toArray, List.getElem_cons_zero, List.getElem_cons_succ])
      refine wpAnyH_take (i := 1) (oi := _) (v := ?_) rfl (by kernel_rfl) (by kernel_rfl) (by kernel_rfl) (fun _ _ _ h => h) (Or.inl ⟨by rfl, ?_⟩) (by assumption) ?_
      rotate_left
      · intro w hSw
        try dsimp only at hSw
        go_simp
        try with_reducible rfl
      (try simp only [Act.put, List.setIfInBounds_toArray, List.set_cons_zero, List.set_cons_succ, List.getElem_toArray, List.getElem_cons_zero, List.getElem_cons_succ])
      refine wpAnyH_ready (rs := [2]) (by kernel_rfl) (by simp) ?_
      refine AllReadyH.cons (o := _) rfl (fun K hK => ?_) AllReadyH.nil
      go_simp
      refine hK.out _ _ (herr2) (fun hHeld => ?_)
      clear hK K
      (try simp only [Act.put, List.setIfInBounds_toArray, List.set_cons_zero, List.set_cons_succ, List.getElem_toArray, List.getElem_cons_zero, List.getElem_cons_succ])
      refine wpAnyH_take (i := 3) (oi := _) (v := ?_) rfl (by kernel_rfl) (by kernel_rfl) (by kernel_rfl) (fun _ _ _ h => h) (Or.inl ⟨by rfl, ?_⟩) (by assumption) ?_
      rotate_left
      · intro w hSw
        try dsimp only at hSw
        go_simp
        try with_reducible rfl
      (try simp only [Act.put, List.setIfInBounds_toArray, List.set_cons_zero, List.set_cons_succ, List.getElem_toArray, List.getElem_cons_zero, List.getElem_cons_succ])
      refine wpAnyH_done (by kernel_rfl) ?_ _
      refine NoPanic.normal ?_
      go_wp2_with fail
      gi_wp2_with fail
      rw [Exit.noGoto_ret]
      have hK2 : W2.heap[D]? = some (.deferred (some [])) := (HO2.out D (by have := Hsz0.out; omega)).trans HK.out
      refine ⟨by simp, .inl ⟨_, _, rfl, run_takeDeferred hK2, ?_⟩⟩
      refine ⟨.tuple #[entsV Z, .int .i64 9], ?_, ⟨?_, HB2.out.trans (belowK_b (w := w) (Nat.le_refl _) W2 D _ _ (by have := Hsz0.out; omega) hK2 rfl rfl)⟩⟩
      · exact results_row_tmpD (p := 2) (q := 3) rfl _ _ w.heap.size _ rfl (ents_var (HR2.out.kept (grownBy_putObj' _ D (.deferred none)) (fun r e => by cases e; exact ⟨_, hK2, rfl⟩)))
      · rw [HE.out, HC.out, HZ.out]; rfl
  case stop =>
    rintro D c pre W hD ⟨k, hk, hrow⟩ ⟨⟨rfl, ⟨l, hW⟩, ys, x, rfl, hx⟩, hB⟩ hK
    have hF : formB s = false := by
      rw [Bool.eq_false_iff]
      intro h
      simp only [formB, Bool.and_eq_true, List.all_eq_true] at h
      have := h.2 _ (List.getElem_mem x.isLt)
      rw [hx] at this; cases this
    have hc : chk s = 7 := by unfold chk; rw [hF]; rfl
    clear hF hx hrow hk
    have HE := Lib.hid (show ents s = [] from ents_bad (by rw [hc]; decide))
    have HC := Lib.hid hc
    have hWd : RdW Z w.heap.size l 7 W.drew := ⟨hW.res, hW.arr, hW.fn, hW.err, hW.soft⟩
    obtain ⟨W2, hst, hr2, ho2, hb2, hsz2⟩ := ents_store hWd.res hZ72
    have herr := hWd.err
    have HK := Lib.hid hK
    have HR2 := Lib.hid hr2
    have HO2 := Lib.hid ho2
    have HB2 := Lib.hid (hB.drew.trans (hb2 w.heap.size (Nat.le_refl _)))
    have herr0 := hW.err
    have herr2 : W2.cell? ⟨w.heap.size + 1 + 1 + 1, 0, none⟩ = some (.int .i64 7) := (World.cell?_of_block (a := ⟨w.heap.size + 1 + 1 + 1, 0, none⟩) (ho2 _ (by simp only; omega))).trans herr
    have hzr := HZR.out
    clear hc hW hWd hB hr2 ho2 hb2 hK
    gi_wp2_with fail
    refine wpIn_wide.2 ?_
    refine wp_region_noPanic ?_
    refine wp_region_held_drew (S := (fun V => V.cell? ⟨w.heap.size + 1 + 1 + 1, 0, none⟩ = some (.int .i64 7))) (by kernel_rfl) (herr) (fun hHeld => ?_)
    refine wpAnyH_take (i := 0) (oi := _) (v := ?_) rfl (by kernel_rfl) (by kernel_rfl) (by kernel_rfl) (fun _ _ _ h => h) (Or.inl ⟨by rfl, ?_⟩) (by assumption) ?_
    rotate_left
    · intro w hSw
      try dsimp only at hSw
      go_simp
      try with_reducible rfl
    (try simp only [Act.put, List.setIfInBounds_toArray, List.set_cons_zero, List.set_cons_succ, List.getElem_toArray, List.getElem_cons_zero, List.getElem_cons_succ])
    refine wpAnyH_take (i := 1) (oi := _) (v := ?_) rfl (by kernel_rfl) (by kernel_rfl) (by kernel_rfl) (fun _ _ _ h => h) (Or.inl ⟨by rfl, ?_⟩) (by assumption) ?_
    rotate_left
    · intro w hSw
      try dsimp only at hSw
      go_simp
      try with_reducible rfl
    (try simp only [Act.put, List.setIfInBounds_toArray, List.set_cons_zero, List.set_cons_succ, List.getElem_toArray, List.getElem_cons_zero, List.getElem_cons_succ])
    refine wpAnyH_ready (rs := [2]) (by kernel_rfl) (by simp) ?_
    refine AllReadyH.cons (o := _) rfl (fun K hK => ?_) AllReadyH.nil
    go_simp
    refine hK.out _ _ (herr2) (fun hHeld => ?_)
    clear hK K
    (try simp only [Act.put, List.setIfInBounds_toArray, List.set_cons_zero, List.set_cons_succ, List.getElem_toArray, List.getElem_cons_zero, List.getElem_cons_succ])
    refine wpAnyH_take (i := 3) (oi := _) (v := ?_) rfl (by kernel_rfl) (by kernel_rfl) (by kernel_rfl) (fun _ _ _ h => h) (Or.inl ⟨by rfl, ?_⟩) (by assumption) ?_
    rotate_left
    · intro w hSw
      try dsimp only at hSw
      go_simp
      try with_reducible rfl
    (try simp only [Act.put, List.setIfInBounds_toArray, List.set_cons_zero, List.set_cons_succ, List.getElem_toArray, List.getElem_cons_zero, List.getElem_cons_succ])
    refine wpAnyH_done (by kernel_rfl) ?_ _
    refine NoPanic.normal ?_
    go_wp2_with fail
    gi_wp2_with fail
    rw [Exit.noGoto_ret]
    have hK2 : W2.heap[D]? = some (.deferred (some [])) := (HO2.out D (by have := Hsz0.out; omega)).trans HK.out
    refine ⟨by simp, .inl ⟨_, _, rfl, run_takeDeferred hK2, ?_⟩⟩
    refine ⟨.tuple #[entsV Z, .int .i64 7], ?_, ⟨?_, HB2.out.trans (belowK_b (w := w) (Nat.le_refl _) W2 D _ _ (by have := Hsz0.out; omega) hK2 rfl rfl)⟩⟩
    · exact results_row_tmpD (p := 2) (q := 3) rfl _ _ w.heap.size _ rfl (ents_var (HR2.out.kept (grownBy_putObj' _ D (.deferred none)) (fun r e => by cases e; exact ⟨_, hK2, rfl⟩)))
    · rw [HE.out, HC.out, HZ.out]; rfl
end Go.Proofs.Ytmidoghjacmdcaa
