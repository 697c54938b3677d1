/- Layer 9 (bmap): arguments that are steps. -/
import Derived.Test.YtdddennhdbmolaaGreatBmapL1
import Derived.Lib.SmallJoins
import Derived.Deep.Slices
import Derived.Deep.Fields
import Derived.SizedLaws
import Derived.ChangeShapes
import Derived.Carry
import Derived.ProofKit
import Derived.OpenShut
namespace Go.Proofs.YtdddennhdbmolaaGreat
open Go.RowKit Go.ChangeShapes Go.WideShapes Go.Deep
set_option linter.unusedVariables false
set_option linter.unusedSimpArgs false
set_option maxRecDepth 10000
theorem weights_all_mem9 {H : Type} {P : Program} {e : TypeId} : ∀ {l : List (DataW H)} {d : DataW H}, d ∈ l → ∀ n ∈ d.weights P e, n ∈ DataW.weightsAll P e l
  | d0 :: l, d, hd, n, hn => by
    simp only [DataW.weightsAll, List.mem_append]
    rcases List.mem_cons.1 hd with rfl | hd
    · exact .inl hn
    · exact .inr (weights_all_mem9 hd n hn)
theorem sized_row_agg9 {H : Type} {P : Program} {ts : List TypeId} {ds : List (DataW H)} (h : (DataW.weightsEach P ts ds).all (· ≤ reachBytes) = true) {j : Nat} {t e : TypeId} {elems spare : List (DataW H)} {x : DataW H} {m : Nat}
    (ht : ts[j]? = some t) (hd : ds[j]? = some (.slice elems spare)) (hu : P.underlying t = some (.slice e)) (hx : x ∈ elems) (hm : m ∈ x.weights P e) : m ≤ reachBytes := by
  refine of_decide_eq_true (List.all_eq_true.1 h _ (DataW.weights_mem_each ht hd _ ?_))
  simp only [DataW.weights, hu, List.mem_cons, List.mem_append]
  exact .inr (.inl (weights_all_mem9 hx _ hm))
/-- A step of a script. -/
structure BSt where
  do_ : Int
  page : Int
  b : Nat
  l : List Nat
instance : Inhabited BSt := ⟨⟨0, 0, 0, []⟩⟩
theorem u16_of9 {n : Int} (h : (Lit.int .u16 n).wf = true) : ∃ k : Nat, n = (k : Int) ∧ k < 65536 := by
  have : 0 ≤ n ∧ n < 65536 := by
    simp [Lit.wf, IntKind.min, IntKind.max, IntKind.signed, IntKind.bits] at h
    omega
  exact ⟨n.toNat, by omega, by omega⟩
theorem nums_of9 {H : Type} {enc : TypeId × Value → H} {W : World} {base fuel : Nat} {sp : Nat → Bool} {held : Bool} {c : Value} {y : DataW H × List MemPlace}
    (hf : DataW.trod enc Tryz.prog W base sp held fuel 37 [c] = some y) : ∃ l : List Nat, U16s W c l ∧ (∀ x ∈ l, x < 65536) ∧ ((∀ m ∈ y.1.weights Tryz.prog 37, m ≤ reachBytes) → l.length ≤ 140737488351232) := by
  rcases open_slice1 Tryz.underlying37 (by kernel_rfl) hf with ⟨hcs, hx⟩ | ⟨a, len, cap, m, n, V, D, Pl, hcs, _, hl, hm, hmm, hx, hi⟩
  · obtain rfl := (List.cons.inj hcs).1
    exact ⟨[], ⟨none, 0, rfl, fun j s hj => by simp at hj⟩, fun x hx => by simp at hx, fun _ => Nat.zero_le _⟩
  · obtain rfl := (List.cons.inj hcs).1
    have hle : len ≤ m := by rw [hmm]; split <;> omega
    have key : ∀ i, i < m → ∃ k : Nat, W.cell? (a.add i) = some (.int .u16 (k : Int)) ∧ k < 65536 := by
      intro i him
      obtain ⟨hc, ht'⟩ := hi i him
      obtain ⟨i0, e0, x0, w0⟩ := DataW.trod_int Tryz.underlying24 ht'
      obtain ⟨k, rfl, hk⟩ := u16_of9 w0
      refine ⟨k, ?_, hk⟩
      rw [hc, (List.cons.inj e0).1]
    let f : Nat → Nat := fun i => if h : i < m then (key i h).choose else 0
    have hfs : ∀ i, i < m → W.cell? (a.add i) = some (.int .u16 (f i : Int)) ∧ f i < 65536 := by
      intro i h
      have hc := (key i h).choose_spec
      have he : f i = (key i h).choose := dif_pos h
      rw [he]
      exact hc
    refine ⟨(List.range len).map f, ⟨some a, cap, by simp, ?_⟩, ?_, fun hw => ?_⟩
    · intro i x hi2
      rw [List.getElem?_map, Option.map_eq_some_iff] at hi2
      obtain ⟨i2, h2, rfl⟩ := hi2
      obtain ⟨h3, h4⟩ := List.getElem?_eq_some_iff.1 h2
      simp only [List.getElem_range] at h4
      subst h4
      simp only [List.length_range] at h3
      exact ⟨a, rfl, (hfs i (by omega)).1⟩
    · intro x hx2
      obtain ⟨i, hi2, rfl⟩ := List.mem_map.1 hx2
      have hil : i < len := List.mem_range.1 hi2
      exact (hfs i (by omega)).2
    · subst hx
      have hbb : Tryz.prog.bytesOf 24 = 2 := by kernel_rfl
      have := hw ((len + (m - len)) * Tryz.prog.bytesOf 24) (by simp [DataW.weights, Tryz.underlying37])
      have hrb := reachBytes_lt
      rw [hbb] at this
      have hrv : reachBytes ≤ 140737488351232 := by decide
      simp
      omega
def fineB (x : BSt) : Prop := x.b < 65536 ∧ (∀ y ∈ x.l, y < 65536) ∧ x.l.length ≤ 140737488351232
/-- A step's four cells. -/
def b4 (W : World) (A : Option Addr) (i : Nat) (x : BSt) : Prop := ∃ (a : Addr) (v : Value), A = some a ∧ W.cell? (a.add (i * 4)) = some (.int .i64 x.do_) ∧ W.cell? (behind a (i * 4) 1) = some (.int .i64 x.page) ∧ W.cell? (behind a (i * 4) 2) = some (w16 x.b) ∧ W.cell? (behind a (i * 4) 3) = some v ∧ U16s W v x.l
theorem bstep_of {H : Type} {enc : TypeId × Value → H} {W : World} {base n : Nat} {sp : Nat → Bool} {held : Bool} {cs : List Value} {d : DataW H} {p : List MemPlace}
    (h : DataW.trod enc Tryz.prog W base sp held n 55 cs = some (d, p)) :
    ∃ (x : BSt) (v : Value), cs = [.int .i64 x.do_, .int .i64 x.page, w16 x.b, v] ∧ U16s W v x.l ∧ ((∀ m ∈ d.weights Tryz.prog 55, m ≤ reachBytes) → fineB x) := by
  obtain ⟨xs, n', _, hx, hl, hlen, hf⟩ := DataW.trod_struct Tryz.underlying55 h
  have k3 : Tryz.prog.cellsOf 3 = 1 := by kernel_rfl
  have k16 : Tryz.prog.cellsOf 24 = 1 := by kernel_rfl
  have ks : Tryz.prog.cellsOf 37 = 1 := by kernel_rfl
  have hC : Tryz.prog.cellsOf 55 = 4 := by kernel_rfl
  rw [hC] at hl
  match cs, hl with
  | [c0, c1, c2, c3], _ =>
    match xs, hlen with
    | [y0, y1, y2, y3], _ =>
      have g0 := hf 0 _ rfl
      have g1 := hf 1 _ rfl
      have g2 := hf 2 _ rfl
      have g3 := hf 3 _ rfl
      have g0 : DataW.trod enc Tryz.prog W base sp held n' 3 ([c0, c1, c2, c3].take (Tryz.prog.cellsOf 3)) = some y0 := g0
      have g1 : DataW.trod enc Tryz.prog W base sp held n' 3 ([c1, c2, c3].take (Tryz.prog.cellsOf 3)) = some y1 := g1
      have g2 : DataW.trod enc Tryz.prog W base sp held n' 24 ([c2, c3].take (Tryz.prog.cellsOf 24)) = some y2 := g2
      have g3 : DataW.trod enc Tryz.prog W base sp held n' 37 ([c3].take (Tryz.prog.cellsOf 37)) = some y3 := g3
      rw [k3] at g0 g1
      rw [k16] at g2
      rw [ks] at g3
      obtain ⟨i0, e0, x0, -⟩ := DataW.trod_int Tryz.underlying3 g0
      obtain ⟨i1, e1, x1, -⟩ := DataW.trod_int Tryz.underlying3 g1
      obtain ⟨i2, e2, x2, w2⟩ := DataW.trod_int Tryz.underlying24 g2
      obtain ⟨k2, rfl, hk2⟩ := u16_of9 w2
      obtain ⟨l, hu, hl1, hl2⟩ := nums_of9 (c := c3) g3
      obtain rfl := (List.cons.inj e0).1
      obtain rfl := (List.cons.inj e1).1
      obtain rfl := (List.cons.inj e2).1
      refine ⟨⟨i0, i1, k2, l⟩, c3, rfl, hu, fun hw => ⟨hk2, hl1, hl2 fun m hm => hw m ?_⟩⟩
      rw [(Prod.mk.inj hx).1]
      simp only [DataW.weights, Tryz.underlying55]
      simp [DataW.weightsEach, DataW.weights]
      exact .inr (.inr (.inr hm))
/-- The slice v is the steps l. -/
def BSteps (w : World) (v : Value) (l : List BSt) : Prop := ∃ A c, v = .slice A l.length c ∧ ∀ i x, l[i]? = some x → b4 w A i x
theorem arg_bsteps {H : Type} {enc : TypeId × Value → H} {W : World} {r : Reach} {b0 base : Nat} {sp : Nat → Bool} {held : Bool} {v : Value} {d : DataW H} {ps : List MemPlace} {ts : List TypeId} {ds : List (DataW H)} {j : Nat}
    (hv : Value.okWide Tryz.prog W r b0 29 v) (h : DataW.Trod enc Tryz.prog W base sp held 29 v d ps)
    (hsz : (DataW.weightsEach Tryz.prog ts ds).all (· ≤ reachBytes) = true) (ht : ts[j]? = some 29) (hd : ds[j]? = some d) :
    ∃ l, BSteps W v l ∧ (∀ x ∈ l, fineB x) ∧ l.length ≤ maxLen := by
  obtain ⟨a0, len0, cap0, rfl⟩ := okWide_slice Tryz.underlying29 hv
  obtain ⟨fuel, hf⟩ := h
  have hC : Tryz.prog.cellsOf 55 = 4 := by kernel_rfl
  rcases open_slice Tryz.underlying29 hf with ⟨hcs, hx⟩ | ⟨a, len, cap, m, n, D, Pl, hcs, _, hl, hm, hmm, hx, hi⟩
  · simp [Value.cells] at hcs
    obtain ⟨rfl, rfl, rfl⟩ := hcs
    exact ⟨[], ⟨none, 0, rfl, fun j s hj => by simp at hj⟩, fun x hx => by simp at hx, Nat.zero_le _⟩
  · simp [Value.cells] at hcs
    obtain ⟨rfl, rfl, rfl⟩ := hcs
    have hle : len0 ≤ m := by rw [hmm]; split <;> omega
    have key : ∀ i, i < m → ∃ x : BSt, (b4 W (some a) i x) ∧ ((∀ m ∈ (D i).weights Tryz.prog 55, m ≤ reachBytes) → fineB x) := by
      intro i him
      obtain ⟨cs', hc, ht'⟩ := hi i him
      rw [hC] at hc
      obtain ⟨_, _, hat⟩ := World.cells?_some hc
      obtain ⟨x, v, rfl, hu, hfn⟩ := bstep_of ht'
      refine ⟨x, ⟨a, v, rfl, ?_, ?_, ?_, ?_, hu⟩, hfn⟩
      · simpa [add_add] using hat 0 (by decide)
      · rw [← behind_add _ _ _ (by decide), ← add_add]; exact hat 1 (by decide)
      · rw [← behind_add _ _ _ (by decide), ← add_add]; exact hat 2 (by decide)
      · rw [← behind_add _ _ _ (by decide), ← add_add]; exact hat 3 (by decide)
    let f : Nat → BSt := fun i => if h : i < m then (key i h).choose else default
    have hfs : ∀ i, i < m → b4 W (some a) i (f i) ∧ ((∀ m ∈ (D i).weights Tryz.prog 55, m ≤ reachBytes) → fineB (f i)) := by
      intro i h
      have hc := (key i h).choose_spec
      have he : f i = (key i h).choose := dif_pos h
      rw [he]
      exact hc
    have hxd := hd.trans (congrArg some (Prod.mk.inj hx).1)
    refine ⟨(List.range len0).map f, ⟨some a, cap0, by simp, ?_⟩, ?_, by simp; omega⟩
    · intro i x hi2
      rw [List.getElem?_map, Option.map_eq_some_iff] at hi2
      obtain ⟨i2, h2, rfl⟩ := hi2
      obtain ⟨h3, h4⟩ := List.getElem?_eq_some_iff.1 h2
      simp only [List.getElem_range] at h4
      subst h4
      simp only [List.length_range] at h3
      exact (hfs i (by omega)).1
    · intro x hx2
      obtain ⟨i, hi2, rfl⟩ := List.mem_map.1 hx2
      have hil : i < len0 := List.mem_range.1 hi2
      refine (hfs i (by omega)).2 fun m hm => ?_
      exact sized_row_agg9 hsz ht hxd Tryz.underlying29 (List.mem_map.2 ⟨i, hi2, rfl⟩) hm
set_option maxHeartbeats 1000000 in
theorem long9_any (v : Value) (l : List BSt) (w : World) (h : BSteps w v l) (hs : ∀ x ∈ l, fineB x) (hn : l.length ≤ maxLen) :
    Calls Tryz.prog 7 #[v] w fun e w' => (∃ r, e = .returned (.bool r) ∧ (r = false → l.length ≤ 80)) ∧ w = w' := by
  unfold maxLen at hn
  obtain ⟨A, c, rfl, hc⟩ := h
  have HC := Lib.hid hc
  have HS := Lib.hid hs
  clear hc hs
  go_enter Tryz.func7, Tryz.ntmps7
  go_wp2_with fail
  go_loopw [3, 4] (fun s i wr => ∃ k m : Nat, k ≤ l.length ∧ k ≤ 200 ∧ m ≤ 140737488351232 * k ∧ s = .int .i64 m ∧ i = .int .i64 k ∧ w = wr) (fun _ i _ => l.length - (Go.RowKit.intOf i).toNat)
  case atStart => exact ⟨0, 0, Nat.zero_le _, by omega, by omega, rfl, rfl, rfl⟩
  case round =>
    obtain ⟨k, m, hk, hk3, hm, rfl, rfl, rfl⟩ := hrel
    by_cases hlt : k < l.length ∧ k < 200
    · obtain ⟨a, sv, rfl, x0, x1, x2, x3, x4⟩ := HC.out k _ (List.getElem?_eq_getElem hlt.1)
      have hfine := (HS.out l[k] (List.getElem_mem _)).2.2
      obtain ⟨A2, c2, rfl, -⟩ := x4
      unfold behind at x3
      generalize l[k] = x at *
      have hI : (k : Int) < (l.length : Int) := by omega
      clear x0 x1 x2
      go_wp2_with fail
      go_roundw
      case rel => exact ⟨k + 1, m + x.l.length, by omega, by omega, by omega, by simp, by simp, by trivial⟩
      case measure => simp [Go.RowKit.intOf]; omega
    · by_cases h120 : 80 < l.length
      · have d1 : decide ((80 : Int) < (l.length : Int)) = true := decide_eq_true (by omega)
        by_cases hkl : k = l.length
        · subst hkl
          go_wp2_with fail
          go_ret
          exact ⟨⟨_, rfl, fun h => by cases h⟩, rfl⟩
        · obtain rfl : k = 200 := by omega
          have hI : (200 : Int) < (l.length : Int) := by omega
          go_wp2_with fail
          go_ret
          exact ⟨⟨_, rfl, fun h => by cases h⟩, rfl⟩
      · obtain rfl : k = l.length := by omega
        have d1 : decide ((80 : Int) < (l.length : Int)) = false := decide_eq_false (by omega)
        have hle : l.length ≤ 80 := by omega
        go_wp2_with fail
        go_ret
        exact ⟨⟨_, rfl, fun _ => hle⟩, rfl⟩
end Go.Proofs.YtdddennhdbmolaaGreat
