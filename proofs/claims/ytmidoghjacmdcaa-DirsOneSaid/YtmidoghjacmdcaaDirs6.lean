/- Layer 10 (dirs): rows of entries in memory; the document's Slots. -/
import Derived.Test.YtmidoghjacmdcaaDirs5
import Derived.Test.YtmidoghjacmdcaaBaseRows
import Derived.Maps.AppendAt
import Derived.Great.BuildSlice
import Derived.Laws.OwnMore
namespace Go.Proofs.Ytmidoghjacmdcaa
open Go.RowKit Go.Lib
set_option linter.unusedVariables false
set_option linter.unusedSimpArgs false
set_option maxRecDepth 10000
theorem enC_length (l : List En) : (enC l).length = l.length * 2 := by
  induction l with
  | nil => rfl
  | cons p r ih =>
    unfold enC at ih ⊢
    rw [List.flatMap_cons, List.length_append, ih, List.length_cons]
    simp only [List.length_cons, List.length_nil]
    omega
theorem enC_append (l m : List En) : enC (l ++ m) = enC l ++ enC m := by simp [enC]
theorem enC_one (x : En) : enC [x] = [str x.n, .int .u32 (x.i : Int)] := by simp [enC]
theorem enC_cons (x : En) (l : List En) : enC (x :: l) = str x.n :: .int .u32 (x.i : Int) :: enC l := by simp [enC]
theorem enC_at {l : List En} {k : Nat} {x : En} (h : l[k]? = some x) : (enC l)[k * 2]? = some (str x.n) ∧ (enC l)[k * 2 + 1]? = some (.int .u32 (x.i : Int)) := by
  induction l generalizing k with
  | nil => simp at h
  | cons p r ih =>
    rw [enC_cons]
    cases k with
    | zero => simp at h; subst h; exact ⟨rfl, rfl⟩
    | succ k =>
      have := ih (k := k) (by simpa using h)
      rw [show (k + 1) * 2 = k * 2 + 1 + 1 by omega]
      simpa using this
theorem enC_all (l : List En) : ∀ v ∈ enC l, v.oneCell' = true := by
  intro v hv
  obtain ⟨x, _, hx⟩ := List.mem_flatMap.1 hv
  simp at hx
  rcases hx with rfl | rfl <;> rfl
/-- The slice v reads as these entries, from the head of a block on. -/
def EntRow (W : World) (v : Value) (l : List En) : Prop :=
  ∃ A c, v = .slice A l.length c ∧ ∀ j x, l[j]? = some x → ∃ g, A = some ⟨g, 0, none⟩ ∧ W.cell? ⟨g, j * 2, none⟩ = some (str x.n) ∧ W.cell? ⟨g, j * 2 + 1, none⟩ = some (.int .u32 (x.i : Int))
theorem EntRow.below {W W' : World} {v : Value} {l : List En} (h : EntRow W v l) (hb : Below W.heap.size W W') : EntRow W' v l := by
  obtain ⟨A, c, hv, hc⟩ := h
  refine ⟨A, c, hv, fun j x hj => ?_⟩
  obtain ⟨g, hA, h1, h2⟩ := hc j x hj
  have hg : g < W.heap.size := World.block_lt_of_cell? W _ h1
  exact ⟨g, hA, (hb.cell (p := ⟨g, j * 2, none⟩) hg).trans h1, (hb.cell (p := ⟨g, j * 2 + 1, none⟩) hg).trans h2⟩
theorem EntRow.nil (W : World) : EntRow W (.slice none 0 0) [] := ⟨none, 0, rfl, fun j x hj => by simp at hj⟩
/-- A row of the call's own. -/
abbrev OwnE (W : World) (base : Nat) (v : Value) (l : List En) : Prop := W.ownsRow base 34 2 v l.length (enC l)
theorem OwnE.row {W : World} {base : Nat} {v : Value} {l : List En} (h : OwnE W base v l) : EntRow W v l := by
  rcases h.2 with ⟨rfl, h0⟩ | ⟨g, cap, cur, hv, hrest⟩
  · exact ⟨none, 0, by rw [h0], fun j p hj => by rw [List.length_eq_zero_iff.1 h0] at hj; simp at hj⟩
  · refine ⟨some ⟨g, 0, none⟩, cap, hv, fun j p hj => ⟨_, rfl, ?_⟩⟩
    obtain ⟨h1, h2⟩ := enC_at hj
    have hg : v.ownBlock = some g := by rw [hv]; rfl
    have c1 := h.cells hg _ _ h1
    have c2 := h.cells hg _ _ h2
    rw [addr_add0] at c1 c2
    exact ⟨c1, c2⟩
/-- The builtin at entries, closed. -/
def entAppend (args : Array Value) : Sem Value := Builtin.append_ #[39, 39] 39 args
@[go_sem ↓] theorem ent_append_fold (args : Array Value) : Builtin.append_ #[39, 39] 39 args = entAppend args := rfl
/-- append(l, x). -/
theorem append_ent (W : World) (base : Nat) (v : Value) (l : List En) (x : En) (h : OwnE W base v l) (a c : Nat) (hc0 : W.cell? ⟨a, 0, none⟩ = some (str x.n)) (hc1 : W.cell? ⟨a, 1, none⟩ = some (.int .u32 (x.i : Int))) (hl : l.length ≤ 1048576) (hb : base ≤ W.heap.size) :
    ∃ v' W', (entAppend #[v, .slice (some ⟨a, 0, none⟩) 1 c]).run Try.prog W = .ok v' W' ∧ OwnE W' base v' (l ++ [x]) ∧ Below base W W' := by
  obtain ⟨i, hi, hz, hsz, hby⟩ := info_parts entInfo
  obtain ⟨v', W', hap, hown, hg, _, hor⟩ := run_append_own_at (P := Try.prog) (w := W) base 39 39 34 i _ 2 24 Try.underlying39 hi hz hsz hby rfl (by decide) v l.length (enC l) h
    ⟨a, 0, none⟩ 1 c [str x.n, .int .u32 (x.i : Int)] rfl (fun j u hj => by
      rw [Addr.add_lit]
      match j, hj with
      | 0, hj => simp at hj; subst hj; exact hc0
      | 1, hj => simp at hj; subst hj; exact hc1) (fun u hu => by simp at hu; rcases hu with rfl | rfl <;> rfl) (by unfold maxLen; omega) (by omega) hb
  refine ⟨v', W', hap, ?_, (Below.refl base W).grown hg hb (fun k hk => (h.lt k hk).1)⟩
  rw [← enC_one, ← enC_append] at hown
  show W'.ownsRow base 34 2 v' (l ++ [x]).length (enC (l ++ [x]))
  rw [List.length_append]
  exact hown
/-- The entries of a formed text, as the document's Slots has them. -/
def formL (s : List UInt8) : List En := if formB s = true then (slots s).map getE else []
theorem formB_size {s : List UInt8} (h : sizeB s = false) : formB s = false := by simp [formB, h]
set_option maxRecDepth 100000 in
set_option maxHeartbeats 2000000 in
theorem refSlots_any (s : List UInt8) (w : World) (hs : s.length ≤ maxLen) :
    Calls Try.prog 32 #[str s] w fun e w' => (∃ v, e = .returned (.tuple #[v, .bool (formB s)]) ∧ OwnE w' w.heap.size v (formL s)) ∧ Below w.heap.size w w' := by
  unfold maxLen at hs
  cases hz : sizeB s with
  | false =>
    have hF := formB_size hz
    have HL := Lib.hid (show formL s = [] by unfold formL; rw [hF]; rfl)
    have HF := Lib.hid hF
    have hOwn : OwnE w w.heap.size (.slice none 0 0) [] := ⟨rfl, .inl ⟨rfl, rfl⟩⟩
    by_cases hm : s.length % 64 = 0
    · have hq : 2304 < s.length := by
        rcases Nat.lt_or_ge 2304 s.length with h | h
        · exact h
        · simp [sizeB, hm, h] at hz
      have q1 : ((s.length : Int) % 64 != 0) = false := by
        have : (s.length : Int) % 64 = 0 := by omega
        rw [this]; rfl
      have q2 : (2304 : Int) < (s.length : Int) := by omega
      clear hm hz hF
      go_enter Try.func32, Try.ntmps32
      go_wp2_with fail
      go_ret2
      exact ⟨⟨_, by rw [HF.out]; rfl, by rw [HL.out]; exact hOwn⟩, Below.refl _ _⟩
    · have q1 : ((s.length : Int) % 64 != 0) = true := by
        have : ¬ (s.length : Int) % 64 = 0 := by omega
        rw [bne_iff_ne]; exact this
      clear hm hz hF
      go_enter Try.func32, Try.ntmps32
      go_wp2_with fail
      go_ret2
      exact ⟨⟨_, by rw [HF.out]; rfl, by rw [HL.out]; exact hOwn⟩, Below.refl _ _⟩
  | true =>
    obtain ⟨hm, hle⟩ := sizeB_facts hz
    have q1 : ((s.length : Int) % 64 != 0) = false := by
      have : (s.length : Int) % 64 = 0 := by omega
      rw [this]; rfl
    have q2 : ¬ (2304 : Int) < (s.length : Int) := by omega
    have hdiv : 32 * (s.length / 32) = s.length := by omega
    have Hget := Lib.hid (slots_get hz)
    have Hlen := Lib.hid (slots_length hz)
    have Hdiv := Lib.hid hdiv
    have Hz := Lib.hid hz
    obtain ⟨n, hn⟩ : ∃ n, n = s.length / 32 := ⟨_, rfl⟩
    have Hn := Lib.hid hn
    clear hm hz hdiv hn
    go_enter Try.func32, Try.ntmps32
    go_wp2_with fail
    go_loopw [4, 5] (fun v i wr => ∃ k j : Nat, k ≤ n ∧ j = 32 * k ∧ i = .int .i64 j ∧ (∀ p ∈ (slots s).take k, okS p = true) ∧ OwnE wr w.heap.size v (((slots s).take k).map getE) ∧ Below w.heap.size w wr) (fun _ i _ => s.length - (Go.RowKit.intOf i).toNat)
    case atStart => exact ⟨0, 0, Nat.zero_le _, rfl, rfl, by simp, ⟨rfl, .inl ⟨rfl, rfl⟩⟩, Below.refl _ _⟩
    case round =>
      obtain ⟨k, j, hk, hj, rfl, hok, hown, hb⟩ := hrel
      have Hok := Lib.hid hok
      have HB := Lib.hid hb
      clear hok
      by_cases hlt : k < n
      · have hj2 : j + 32 ≤ s.length := by have := Hdiv.out; have := Hn.out; omega
        have hslot : (slots s)[k]? = some ((s.take (j + 32)).drop j) := by
          rw [Hget.out k, if_pos (by rw [← Hn.out]; exact hlt), ← hj, List.take_drop]
        have hpl : ((s.take (j + 32)).drop j).length = 32 := by simp; omega
        have hkl : k < (slots s).length := (List.getElem?_eq_some_iff.1 hslot).1
        have htk : (slots s).take (k + 1) = (slots s).take k ++ [(s.take (j + 32)).drop j] := by
          rw [List.take_succ_eq_append_getElem hkl]
          rw [List.getElem?_eq_getElem hkl] at hslot
          rw [Option.some.inj hslot]
        have HR := Lib.hid fun W => refRead_any ((s.take (j + 32)).drop j) W hpl
        have Htk := Lib.hid htk
        have Hslot := Lib.hid hslot
        have Hj := Lib.hid hj
        have b1 : (0 : Int) ≤ (j : Int) := by omega
        have b2 : (j : Int) + 32 ≤ (s.length : Int) := by omega
        have b3 : (j : Int) < (s.length : Int) := by omega
        have Hlk : ((slots s).take k).length ≤ 72 := by rw [List.length_take]; have := Hlen.out; omega
        clear htk hslot hj hpl hkl
        go_wp2_with fail
        refine (HR.out _).mono ?_
        rintro e w1 ⟨⟨y, rfl, hy⟩, hb1⟩
        have HB1 := Lib.hid (HB.out.trans (hb1.mono HB.out.size))
        have hown1 := own_below hown hb1
        clear hown hb hb1 HB HR
        generalize (s.take (j + 32)).drop j = p at *
        cases hp : okS p with
        | true =>
          have hye := hy hp
          have HP := Lib.hid hp
          have HY := Lib.hid hye
          clear hy hp hye
          have c0 := cell_of_row ((w1.alloc (.cells #[str y.n, .int .u32 (y.i : Int)] 34)).alloc (.cells #[str y.n, .int .u32 (y.i : Int)] 34)) (w1.heap.size + 1) 0 _ _ _ (by have := heap_alloc_new (w1.alloc (.cells #[str y.n, .int .u32 (y.i : Int)] 34)) (.cells #[str y.n, .int .u32 (y.i : Int)] 34); rwa [World.size_alloc] at this)
          have c1 := cell_of_row ((w1.alloc (.cells #[str y.n, .int .u32 (y.i : Int)] 34)).alloc (.cells #[str y.n, .int .u32 (y.i : Int)] 34)) (w1.heap.size + 1) 1 _ _ _ (by have := heap_alloc_new (w1.alloc (.cells #[str y.n, .int .u32 (y.i : Int)] 34)) (.cells #[str y.n, .int .u32 (y.i : Int)] 34); rwa [World.size_alloc] at this)
          have hBW : Below w.heap.size w ((w1.alloc (.cells #[str y.n, .int .u32 (y.i : Int)] 34)).alloc (.cells #[str y.n, .int .u32 (y.i : Int)] 34)) := (HB1.out.alloc HB1.out.size _).alloc (by have := HB1.out.size; simp; omega) _
          obtain ⟨v', W', hap, hown', hb'⟩ := append_ent _ w.heap.size u4 _ y ((hown1.alloc (.cells #[str y.n, .int .u32 (y.i : Int)] 34)).alloc (.cells #[str y.n, .int .u32 (y.i : Int)] 34)) (w1.heap.size + 1) 1 c0 c1 (by simp at Hlk ⊢; omega) hBW.size
          have HO := Lib.hid hown'
          have HB2 := Lib.hid (hBW.trans hb')
          clear c0 c1 hBW hown' hb' hown1
          go_wp2_with fail
          go_roundw
          case rel =>
            refine ⟨k + 1, j + 32, by omega, by have := Hj.out; omega, by go_num, ?_, ?_, HB2.out⟩
            · rw [Htk.out]
              intro q hq
              rcases List.mem_append.1 hq with h | h
              · exact Hok.out q h
              · rw [List.mem_singleton.1 h]; exact HP.out
            · have := HO.out
              rw [HY.out] at this
              rw [Htk.out, List.map_append]
              exact this
          case measure => simp [Go.RowKit.intOf]; omega
        | false =>
          have hF : formB s = false := by
            rw [Bool.eq_false_iff]
            intro h
            simp only [formB, Bool.and_eq_true, List.all_eq_true] at h
            have := h.2 p (List.mem_of_getElem? Hslot.out)
            rw [hp] at this; cases this
          have HL := Lib.hid (show formL s = [] by unfold formL; rw [hF]; rfl)
          have HF := Lib.hid hF
          clear hy hp hF
          go_wp2_with fail
          go_ret2
          exact ⟨⟨_, by rw [HF.out]; rfl, by rw [HL.out]; exact ⟨rfl, .inl ⟨rfl, rfl⟩⟩⟩, HB1.out.alloc HB1.out.size _⟩
      · have hkn : k = n := by omega
        have hj3 : j = s.length := by have := Hdiv.out; have := Hn.out; rw [hj, hkn]; omega
        have hall : (slots s).take k = slots s := List.take_of_length_le (by have := Hlen.out; have := Hn.out; omega)
        have hF : formB s = true := by
          simp only [formB, Bool.and_eq_true, List.all_eq_true]
          refine ⟨Hz.out, ?_⟩
          intro q hq
          exact Hok.out q (by rw [hall]; exact hq)
        have HL := Lib.hid (show formL s = ((slots s).take k).map getE by unfold formL; rw [hF, hall]; rfl)
        have HF := Lib.hid hF
        have HO := Lib.hid hown
        have d1 : ¬ (j : Int) < (s.length : Int) := by omega
        clear hj hj3 hall hF hkn hown hb
        go_wp2_with fail
        go_ret2
        exact ⟨⟨_, by rw [HF.out]; rfl, by rw [HL.out]; exact HO.out⟩, HB.out⟩
end Go.Proofs.Ytmidoghjacmdcaa
