/- Layer 11 (image): arguments that are steps, with all their cells. -/
import Derived.Test.YtnfiapjdkjbdhaaGreatQ16
import Derived.Lib.SmallJoins
import Derived.Deep.Slices
import Derived.Deep.Fields
import Derived.SizedLaws
import Derived.ChangeShapes
import Derived.Carry
import Derived.ProofKit
import Derived.OpenShut
namespace Go.Proofs.YtnfiapjdkjbdhaaGreat
open Go.RowKit Go.ChangeShapes Go.WideShapes Go.Deep
set_option linter.unusedVariables false
set_option linter.unusedSimpArgs false
set_option maxRecDepth 10000
theorem u32_rangeI {n : Int} (h : (Lit.int .u32 n).wf = true) : 0 ≤ n ∧ n < 4294967296 := by
  simp [Lit.wf, IntKind.min, IntKind.max, IntKind.signed, IntKind.bits] at h
  omega
theorem weights_all_memI {H : Type} {P : Program} {e : TypeId} : ∀ {l : List (DataW H)} {d : DataW H}, d ∈ l → ∀ n ∈ d.weights P e, n ∈ DataW.weightsAll P e l
  | d0 :: l, d, hd, n, hn => by
    simp only [DataW.weightsAll, List.mem_append]
    rcases List.mem_cons.1 hd with rfl | hd
    · exact .inl hn
    · exact .inr (weights_all_memI hd n hn)
theorem sized_row_aggI {H : Type} {P : Program} {ts : List TypeId} {ds : List (DataW H)} (h : (DataW.weightsEach P ts ds).all (· ≤ reachBytes) = true) {j : Nat} {t e : TypeId} {elems spare : List (DataW H)} {x : DataW H} {m : Nat}
    (ht : ts[j]? = some t) (hd : ds[j]? = some (.slice elems spare)) (hu : P.underlying t = some (.slice e)) (hx : x ∈ elems) (hm : m ∈ x.weights P e) : m ≤ reachBytes := by
  refine of_decide_eq_true (List.all_eq_true.1 h _ (DataW.weights_mem_each ht hd _ ?_))
  simp only [DataW.weights, hu, List.mem_cons, List.mem_append]
  exact .inr (.inl (weights_all_memI hx _ hm))
structure ISt where
  do_ : Int
  n : Int
  i : Nat
  to_ : Nat
  s : List UInt8
instance : Inhabited ISt := ⟨⟨0, 0, 0, 0, []⟩⟩
def fineI (x : ISt) : Prop := x.s.length ≤ 140737488351232 ∧ x.i < 4294967296 ∧ x.to_ < 4294967296 ∧ -9223372036854775808 ≤ x.n ∧ x.n < 9223372036854775808
def behindI (a : Addr) (k q : Nat) : Addr := ⟨(a.add k).block, (a.add k).off + q, none⟩
theorem behindI_add (a : Addr) (k q : Nat) (hq : q ≠ 0) : a.add (k + q) = behindI a k q := by
  unfold behindI Addr.add
  rw [if_neg (by omega)]
  by_cases h : k = 0
  · subst h; simp
  · simp [h]; omega
def i14 (W : World) (A : Option Addr) (i : Nat) (x : ISt) : Prop := ∃ a : Addr, A = some a ∧ W.cell? (a.add (i * 14)) = some (.int .i64 x.do_) ∧ W.cell? (behindI a (i * 14) 1) = some (.int .i64 x.n) ∧ W.cell? (behindI a (i * 14) 2) = some (.int .u32 (x.i : Int)) ∧ W.cell? (behindI a (i * 14) 3) = some (.int .u32 (x.to_ : Int)) ∧ W.cell? (behindI a (i * 14) 12) = some (str x.s)
def ISteps (w : World) (v : Value) (l : List ISt) : Prop := ∃ A c, v = .slice A l.length c ∧ ∀ i x, l[i]? = some x → i14 w A i x
theorem istep_of {H : Type} {enc : TypeId × Value → H} {W : World} {base n : Nat} {sp : Nat → Bool} {held : Bool} {cs : List Value} {d : DataW H} {p : List MemPlace}
    (h : DataW.trod enc Tryz.prog W base sp held n 44 cs = some (d, p)) :
    ∃ x : ISt, cs[0]? = some (.int .i64 x.do_) ∧ cs[1]? = some (.int .i64 x.n) ∧ cs[2]? = some (.int .u32 (x.i : Int)) ∧ cs[3]? = some (.int .u32 (x.to_ : Int)) ∧ cs[12]? = some (str x.s) ∧ (∃ a b c e f g : DataW H, d = .agg [a, b, c, e, f, .lit (.string x.s), g]) ∧ (x.i < 4294967296 ∧ x.to_ < 4294967296 ∧ -9223372036854775808 ≤ x.n ∧ x.n < 9223372036854775808) := by
  obtain ⟨xs, n', _, hx, hl, hlen, hf⟩ := DataW.trod_struct Tryz.underlying44 h
  have k3 : Tryz.prog.cellsOf 3 = 1 := by kernel_rfl
  have k9 : Tryz.prog.cellsOf 9 = 1 := by kernel_rfl
  have k4 : Tryz.prog.cellsOf 34 = 1 := by kernel_rfl
  have hC : Tryz.prog.cellsOf 44 = 14 := by kernel_rfl
  rw [hC] at hl
  match cs, hl with
  | [c0, c1, c2, c3, c4, c5, c6, c7, c8, c9, c10, c11, c12, c13], _ =>
    match xs, hlen with
    | [y0, y1, y2, y3, y4, y5, y6], _ =>
      have g0 := hf 0 _ rfl
      have g1 := hf 1 _ rfl
      have g2 := hf 2 _ rfl
      have g3 := hf 3 _ rfl
      have g5 := hf 5 _ rfl
      have g0 : DataW.trod enc Tryz.prog W base sp held n' 3 ([c0, c1, c2, c3, c4, c5, c6, c7, c8, c9, c10, c11, c12, c13].take (Tryz.prog.cellsOf 3)) = some y0 := g0
      have g1 : DataW.trod enc Tryz.prog W base sp held n' 3 ([c1, c2, c3, c4, c5, c6, c7, c8, c9, c10, c11, c12, c13].take (Tryz.prog.cellsOf 3)) = some y1 := g1
      have g2 : DataW.trod enc Tryz.prog W base sp held n' 34 ([c2, c3, c4, c5, c6, c7, c8, c9, c10, c11, c12, c13].take (Tryz.prog.cellsOf 34)) = some y2 := g2
      have g3 : DataW.trod enc Tryz.prog W base sp held n' 34 ([c3, c4, c5, c6, c7, c8, c9, c10, c11, c12, c13].take (Tryz.prog.cellsOf 34)) = some y3 := g3
      have g5 : DataW.trod enc Tryz.prog W base sp held n' 9 ([c12, c13].take (Tryz.prog.cellsOf 9)) = some y5 := g5
      rw [k3] at g0 g1
      rw [k4] at g2 g3
      rw [k9] at g5
      obtain ⟨i0, e0, x0, -⟩ := DataW.trod_int Tryz.underlying3 g0
      obtain ⟨i1, e1, x1, w1⟩ := DataW.trod_int Tryz.underlying3 g1
      obtain ⟨i2, e2, x2, w2⟩ := DataW.trod_int Tryz.underlying34 g2
      obtain ⟨i3, e3, x3, w3⟩ := DataW.trod_int Tryz.underlying34 g3
      obtain ⟨i5, e5, x5, -⟩ := DataW.trod_string Tryz.underlying9 g5
      have hr2 := u32_rangeI w2
      have hr3 := u32_rangeI w3
      have hr1 : -9223372036854775808 ≤ i1 ∧ i1 < 9223372036854775808 := by
        simp [Lit.wf, IntKind.min, IntKind.max, IntKind.signed, IntKind.bits] at w1
        omega
      obtain ⟨k2, rfl⟩ : ∃ k : Nat, i2 = k := ⟨i2.toNat, by omega⟩
      obtain ⟨k3', rfl⟩ : ∃ k : Nat, i3 = k := ⟨i3.toNat, by omega⟩
      obtain rfl := (List.cons.inj e0).1
      obtain rfl := (List.cons.inj e1).1
      obtain rfl := (List.cons.inj e2).1
      obtain rfl := (List.cons.inj e3).1
      obtain rfl := (List.cons.inj e5).1
      subst x5
      exact ⟨⟨i0, i1, k2, k3', i5.data.toList⟩, rfl, rfl, rfl, rfl, rfl, ⟨y0.1, y1.1, y2.1, y3.1, y4.1, y6.1, (Prod.mk.inj hx).1⟩, by simp only; omega, by simp only; omega, hr1⟩
theorem arg_isteps {H : Type} {enc : TypeId × Value → H} {W : World} {r : Reach} {b0 base : Nat} {sp : Nat → Bool} {held : Bool} {v : Value} {d : DataW H} {ps : List MemPlace} {ts : List TypeId} {ds : List (DataW H)} {j : Nat}
    (hv : Value.okWide Tryz.prog W r b0 24 v) (h : DataW.Trod enc Tryz.prog W base sp held 24 v d ps)
    (hsz : (DataW.weightsEach Tryz.prog ts ds).all (· ≤ reachBytes) = true) (ht : ts[j]? = some 24) (hd : ds[j]? = some d) :
    ∃ l, ISteps W v l ∧ (∀ x ∈ l, fineI x) ∧ (l.length ≤ maxLen ∧ l.length * 72 ≤ 140737488351232) := by
  obtain ⟨a0, len0, cap0, rfl⟩ := okWide_slice Tryz.underlying24 hv
  obtain ⟨fuel, hf⟩ := h
  have hC : Tryz.prog.cellsOf 44 = 14 := by kernel_rfl
  have hBy : Tryz.prog.bytesOf 44 = 72 := by kernel_rfl
  rcases open_slice Tryz.underlying24 hf with ⟨hcs, hx⟩ | ⟨a, len, cap, m, n, D, Pl, hcs, _, hl, hm, hmm, hx, hi⟩
  · simp [Value.cells] at hcs
    obtain ⟨rfl, rfl, rfl⟩ := hcs
    exact ⟨[], ⟨none, 0, rfl, fun j s hj => by simp at hj⟩, fun x hx => by simp at hx, Nat.zero_le _, Nat.zero_le _⟩
  · simp [Value.cells] at hcs
    obtain ⟨rfl, rfl, rfl⟩ := hcs
    have hle : len0 ≤ m := by rw [hmm]; split <;> omega
    have key : ∀ i, i < m → ∃ x : ISt, (i14 W (some a) i x) ∧ (∃ a b c e f g : DataW H, D i = .agg [a, b, c, e, f, .lit (.string x.s), g]) ∧ (x.i < 4294967296 ∧ x.to_ < 4294967296 ∧ -9223372036854775808 ≤ x.n ∧ x.n < 9223372036854775808) := by
      intro i him
      obtain ⟨cs', hc, ht'⟩ := hi i him
      rw [hC] at hc
      obtain ⟨_, _, hat⟩ := World.cells?_some hc
      obtain ⟨x, c0, c1, c2, c3, c12, hD, h1⟩ := istep_of ht'
      refine ⟨x, ⟨a, rfl, ?_, ?_, ?_, ?_, ?_⟩, hD, h1⟩
      · rw [← c0]; simpa [add_add] using hat 0 (by decide)
      · rw [← c1, ← behindI_add _ _ _ (by decide), ← add_add]; exact hat 1 (by decide)
      · rw [← c2, ← behindI_add _ _ _ (by decide), ← add_add]; exact hat 2 (by decide)
      · rw [← c3, ← behindI_add _ _ _ (by decide), ← add_add]; exact hat 3 (by decide)
      · rw [← c12, ← behindI_add _ _ _ (by decide), ← add_add]; exact hat 12 (by decide)
    let f : Nat → ISt := fun i => if h : i < m then (key i h).choose else default
    have hfs : ∀ i, i < m → i14 W (some a) i (f i) ∧ (∃ a b c e f2 g : DataW H, D i = .agg [a, b, c, e, f2, .lit (.string (f i).s), g]) ∧ ((f i).i < 4294967296 ∧ (f i).to_ < 4294967296 ∧ -9223372036854775808 ≤ (f i).n ∧ (f i).n < 9223372036854775808) := by
      intro i h
      have hc := (key i h).choose_spec
      have he : f i = (key i h).choose := dif_pos h
      rw [he]
      exact hc
    have hxd := hd.trans (congrArg some (Prod.mk.inj hx).1)
    have hrv : reachBytes ≤ 140737488351232 := by decide
    refine ⟨(List.range len0).map f, ⟨some a, cap0, by simp, ?_⟩, ?_, by simp; omega, ?_⟩
    · intro i x hi2
      rw [List.getElem?_map, Option.map_eq_some_iff] at hi2
      obtain ⟨i2, h2, rfl⟩ := hi2
      obtain ⟨h3, h4⟩ := List.getElem?_eq_some_iff.1 h2
      simp only [List.getElem_range] at h4
      subst h4
      simp only [List.length_range] at h3
      exact (hfs i (by omega)).1
    · intro x hx2
      obtain ⟨i, hi2, rfl⟩ := List.mem_map.1 hx2
      have hil : i < len0 := List.mem_range.1 hi2
      obtain ⟨_, ⟨a, b, c, e, f2, g, hD⟩, h1⟩ := hfs i (by omega)
      refine ⟨?_, h1⟩
      refine Nat.le_trans (sized_row_aggI hsz ht hxd Tryz.underlying24 (List.mem_map.2 ⟨i, hi2, rfl⟩) ?_) hrv
      rw [hD]
      simp only [DataW.weights, Tryz.underlying44]
      simp [DataW.weightsEach, DataW.weights]
    · have hw : (len0 + (m - len0)) * 72 ≤ reachBytes := by
        refine of_decide_eq_true (List.all_eq_true.1 hsz _ (DataW.weights_mem_each ht hxd _ ?_))
        simp only [DataW.weights, Tryz.underlying24, List.mem_cons, List.length_map, List.length_range, hBy]
        simp
      simp only [List.length_map, List.length_range]
      omega
set_option maxHeartbeats 1000000 in
theorem long11_any (v : Value) (l : List ISt) (w : World) (h : ISteps w v l) (hs : ∀ x ∈ l, fineI x) (hn : l.length ≤ maxLen) :
    Calls Tryz.prog 6 #[v] w fun e w' => (∃ r, e = .returned (.bool r) ∧ (r = false → l.length ≤ 80 ∧ (l.map fun x => x.s.length).sum ≤ 8192)) ∧ w = w' := by
  unfold maxLen at hn
  obtain ⟨A, c, rfl, hc⟩ := h
  have HC := Lib.hid hc
  have HS := Lib.hid hs
  clear hc hs
  go_enter Tryz.func6, Tryz.ntmps6
  go_wp2_with fail
  go_loopw [3, 4] (fun s i wr => ∃ k m : Nat, k ≤ l.length ∧ k ≤ 200 ∧ m = ((l.take k).map fun x => x.s.length).sum ∧ m ≤ 140737488351232 * k ∧ s = .int .i64 m ∧ i = .int .i64 k ∧ w = wr) (fun _ i _ => l.length - (Go.RowKit.intOf i).toNat)
  case atStart => exact ⟨0, 0, Nat.zero_le _, by omega, by simp, by omega, rfl, rfl, rfl⟩
  case round =>
    obtain ⟨k, m, hk, hk3, hms, hm, rfl, rfl, rfl⟩ := hrel
    have HM := Lib.hid hms
    clear hms
    by_cases hlt : k < l.length ∧ k < 200
    · obtain ⟨a, rfl, x0, x1, x2, x3, x4⟩ := HC.out k _ (List.getElem?_eq_getElem hlt.1)
      have hfine := (HS.out l[k] (List.getElem_mem _)).1
      have hsum : ((l.take (k + 1)).map fun x => x.s.length).sum = m + l[k].s.length := by
        rw [List.take_add_one, List.getElem?_eq_getElem hlt.1, List.map_append, List.sum_append, ← HM.out]; simp
      have HS2 := Lib.hid hsum
      clear hsum
      unfold behindI at x4
      generalize l[k] = x at *
      have hI : (k : Int) < (l.length : Int) := by omega
      clear x0 x1 x2 x3
      go_wp2_with fail
      go_roundw
      case rel => exact ⟨k + 1, m + x.s.length, by omega, by omega, HS2.out.symm, by omega, by simp, by simp, by trivial⟩
      case measure => simp [Go.RowKit.intOf]; omega
    · by_cases h120 : 80 < l.length
      · have d1 : decide ((80 : Int) < (l.length : Int)) = true := decide_eq_true (by omega)
        by_cases hkl : k = l.length
        · subst hkl
          go_wp2_with fail
          go_ret
          exact ⟨⟨_, rfl, fun h => by cases h⟩, rfl⟩
        · obtain rfl : k = 200 := by omega
          have hI : (200 : Int) < (l.length : Int) := by omega
          go_wp2_with fail
          go_ret
          exact ⟨⟨_, rfl, fun h => by cases h⟩, rfl⟩
      · obtain rfl : k = l.length := by omega
        have d1 : decide ((80 : Int) < (l.length : Int)) = false := decide_eq_false (by omega)
        have hle : l.length ≤ 80 := by omega
        have hall := HM.out
        rw [List.take_of_length_le (Nat.le_refl _)] at hall
        have HA := Lib.hid hall
        clear hall
        by_cases h13 : 8192 < m
        · have d2 : decide ((8192 : Int) < (m : Int)) = true := decide_eq_true (by omega)
          go_wp2_with fail
          go_ret
          exact ⟨⟨_, rfl, fun h => by cases h⟩, rfl⟩
        · have d2 : decide ((8192 : Int) < (m : Int)) = false := decide_eq_false (by omega)
          go_wp2_with fail
          go_ret
          exact ⟨⟨_, rfl, fun _ => ⟨hle, by rw [← HA.out]; omega⟩⟩, rfl⟩
end Go.Proofs.YtnfiapjdkjbdhaaGreat
namespace Go.Proofs.YtnfiapjdkjbdhaaGreat
open Go.RowKit Go.ChangeShapes Go.WideShapes Go.Deep
set_option linter.unusedVariables false
set_option linter.unusedSimpArgs false
set_option maxRecDepth 10000
def stepL (x : ISt) (k n z a b c d e : Int) (r : Bool) : List Value := [.int .i64 x.do_, .int .i64 x.n, .int .u32 (x.i : Int), .int .u32 (x.to_ : Int), .int .u8 k, .int .u16 n, .int .u32 z, .int .u16 a, .int .u16 b, .int .u16 c, .int .u16 d, .int .u16 e, str x.s, .bool r]
theorem trod_inoI {H : Type} {enc : TypeId × Value → H} {w : World} {base : Nat} {spare : Nat → Bool} {held : Bool} {fuel : Nat} {cs : List Value} {x : DataW H × List MemPlace} (h : DataW.trod enc Tryz.prog w base spare held fuel 41 cs = some x) :
    ∃ k n z a b c d e : Int, cs = [.int .u8 k, .int .u16 n, .int .u32 z, .int .u16 a, .int .u16 b, .int .u16 c, .int .u16 d, .int .u16 e] := by
  obtain ⟨xs, n, _, hx, hl, hlen, hg⟩ := DataW.trod_struct Tryz.underlying41 h
  have k8 : Tryz.prog.cellsOf 5 = 1 := by kernel_rfl
  have k16 : Tryz.prog.cellsOf 38 = 1 := by kernel_rfl
  have k32 : Tryz.prog.cellsOf 34 = 1 := by kernel_rfl
  have k4 : Tryz.prog.cellsOf 39 = 4 := by kernel_rfl
  have hC : Tryz.prog.cellsOf 41 = 8 := by kernel_rfl
  have hl8 : cs.length = 8 := by simpa [hC] using hl
  clear hl
  match cs, hl8 with
  | [c0, c1, c2, c3, c4, c5, c6, c7], _ =>
    match xs, hlen with
    | [y0, y1, y2, y3, y4], _ =>
      have g0 : DataW.trod enc Tryz.prog w base spare held n 5 ([c0, c1, c2, c3, c4, c5, c6, c7].take (Tryz.prog.cellsOf 5)) = some y0 := hg 0 _ rfl
      have g1 : DataW.trod enc Tryz.prog w base spare held n 38 ([c1, c2, c3, c4, c5, c6, c7].take (Tryz.prog.cellsOf 38)) = some y1 := hg 1 _ rfl
      have g2 : DataW.trod enc Tryz.prog w base spare held n 34 ([c2, c3, c4, c5, c6, c7].take (Tryz.prog.cellsOf 34)) = some y2 := hg 2 _ rfl
      have g3 : DataW.trod enc Tryz.prog w base spare held n 39 ([c3, c4, c5, c6, c7].take (Tryz.prog.cellsOf 39)) = some y3 := hg 3 _ rfl
      have g4 : DataW.trod enc Tryz.prog w base spare held n 38 ([c7].take (Tryz.prog.cellsOf 38)) = some y4 := hg 4 _ rfl
      clear hg h
      rw [k8] at g0
      rw [k16] at g1 g4
      rw [k32] at g2
      rw [k4] at g3
      obtain ⟨x0, e0, -, -⟩ := DataW.trod_int Tryz.underlying5 g0
      obtain ⟨x1, e1, -, -⟩ := DataW.trod_int Tryz.underlying38 g1
      obtain ⟨x2, e2, -, -⟩ := DataW.trod_int Tryz.underlying34 g2
      obtain ⟨x4, e4, -, -⟩ := DataW.trod_int Tryz.underlying38 g4
      have g3' : ∃ a b c d : Int, [c3, c4, c5, c6] = [.int .u16 a, .int .u16 b, .int .u16 c, .int .u16 d] := by
        cases n with
        | zero => simp [DataW.trod] at g3
        | succ n =>
          simp only [DataW.trod, Tryz.underlying39, k16, k4] at g3
          split at g3
          · simp only [show List.range 4 = [0, 1, 2, 3] from rfl, List.mapM_cons, List.mapM_nil, Nat.zero_mul, Nat.one_mul, List.drop_zero, List.take_succ_cons, List.take_zero, List.drop_succ_cons, Nat.mul_one, bind, Option.bind_eq_some_iff, Option.map_eq_some_iff, pure] at g3
            obtain ⟨xs, ⟨z0, h0, r0, ⟨z1, h1, r1, ⟨z2, h2, r2, ⟨z3, h3, r3, _, _⟩, _⟩, _⟩, _⟩, _⟩ := g3
            obtain ⟨a, ea, -, -⟩ := DataW.trod_int Tryz.underlying38 h0
            obtain ⟨b, eb, -, -⟩ := DataW.trod_int Tryz.underlying38 h1
            obtain ⟨c, ec, -, -⟩ := DataW.trod_int Tryz.underlying38 h2
            obtain ⟨d, ed, -, -⟩ := DataW.trod_int Tryz.underlying38 h3
            simp only [List.cons.injEq, and_true] at ea eb ec ed
            subst ea eb ec ed
            exact ⟨a, b, c, d, rfl⟩
          · cases g3
      obtain ⟨a, b, c, d, e3⟩ := g3'
      simp only [List.take_succ_cons, List.take_zero, List.cons.injEq, and_true] at e0 e1 e2 e3 e4
      obtain ⟨rfl, rfl, rfl, rfl⟩ := e3
      subst e0 e1 e2 e4
      exact ⟨x0, x1, x2, a, b, c, d, x4, rfl⟩
def i14w (W : World) (A : Option Addr) (i : Nat) (x : ISt) : Prop := ∃ (a : Addr) (k n z b c d e f : Int) (r : Bool), A = some a ∧ ∀ (j : Nat) v, (stepL x k n z b c d e f r)[j]? = some v → W.cell? ((a.add (i * 14)).add j) = some v
def IStepsW (w : World) (v : Value) (l : List ISt) : Prop := ∃ A c, v = .slice A l.length c ∧ ∀ i x, l[i]? = some x → i14w w A i x
theorem IStepsW.less {w : World} {v : Value} {l : List ISt} (h : IStepsW w v l) : ISteps w v l := by
  obtain ⟨A, c, rfl, hc⟩ := h
  refine ⟨A, c, rfl, fun i x hx => ?_⟩
  obtain ⟨a, k, n, z, b, c, d, e, f, r, rfl, hat⟩ := hc i x hx
  refine ⟨a, rfl, ?_, ?_, ?_, ?_, ?_⟩
  · have h0 := hat 0 _ rfl
    have e0 : (a.add (i * 14)).add 0 = a.add (i * 14) := by unfold Addr.add; simp
    rw [e0] at h0
    exact h0
  · rw [← behindI_add _ _ _ (by decide), ← add_add]; exact hat 1 _ rfl
  · rw [← behindI_add _ _ _ (by decide), ← add_add]; exact hat 2 _ rfl
  · rw [← behindI_add _ _ _ (by decide), ← add_add]; exact hat 3 _ rfl
  · rw [← behindI_add _ _ _ (by decide), ← add_add]; exact hat 12 _ rfl
theorem istepw_of {H : Type} {enc : TypeId × Value → H} {W : World} {base n : Nat} {sp : Nat → Bool} {held : Bool} {cs : List Value} {d : DataW H} {p : List MemPlace}
    (h : DataW.trod enc Tryz.prog W base sp held n 44 cs = some (d, p)) :
    ∃ (x : ISt) (q m z i b c e f : Int) (r : Bool), cs = stepL x q m z i b c e f r ∧ (∃ a b c e f g : DataW H, d = .agg [a, b, c, e, f, .lit (.string x.s), g]) ∧ (x.i < 4294967296 ∧ x.to_ < 4294967296 ∧ -9223372036854775808 ≤ x.n ∧ x.n < 9223372036854775808) := by
  obtain ⟨x, h0, h1, h2, h3, h12, hd, hb⟩ := istep_of h
  obtain ⟨xs, n', _, hx, hl, hlen, hf⟩ := DataW.trod_struct Tryz.underlying44 h
  have k8 : Tryz.prog.cellsOf 41 = 8 := by kernel_rfl
  have k1 : Tryz.prog.cellsOf 4 = 1 := by kernel_rfl
  have hC : Tryz.prog.cellsOf 44 = 14 := by kernel_rfl
  rw [hC] at hl
  clear h
  match cs, hl with
  | [c0, c1, c2, c3, c4, c5, c6, c7, c8, c9, c10, c11, c12, c13], _ =>
    match xs, hlen with
    | [y0, y1, y2, y3, y4, y5, y6], _ =>
      have g4 := hf 4 _ rfl
      have g6 := hf 6 _ rfl
      have g4 : DataW.trod enc Tryz.prog W base sp held n' 41 ([c4, c5, c6, c7, c8, c9, c10, c11, c12, c13].take (Tryz.prog.cellsOf 41)) = some y4 := g4
      have g6 : DataW.trod enc Tryz.prog W base sp held n' 4 ([c13].take (Tryz.prog.cellsOf 4)) = some y6 := g6
      rw [k8] at g4
      rw [k1] at g6
      obtain ⟨q, m, z, i, b, c, e, f, hi⟩ := trod_inoI g4
      obtain ⟨r, hr⟩ : ∃ r, [c13] = [Value.bool r] := by
        obtain ⟨r, er, -⟩ := DataW.trod_bool Tryz.underlying4 g6
        exact ⟨r, er⟩
      simp only [List.take_succ_cons, List.take_zero, List.cons.injEq, and_true] at hi hr
      simp only [List.getElem?_cons_zero, List.getElem?_cons_succ, Option.some.injEq] at h0 h1 h2 h3 h12
      obtain ⟨rfl, rfl, rfl, rfl, rfl, rfl, rfl, rfl⟩ := hi
      subst h0 h1 h2 h3 h12 hr
      exact ⟨x, q, m, z, i, b, c, e, f, r, rfl, hd, hb⟩
theorem arg_istepsw {H : Type} {enc : TypeId × Value → H} {W : World} {r : Reach} {b0 base : Nat} {sp : Nat → Bool} {held : Bool} {v : Value} {d : DataW H} {ps : List MemPlace} {ts : List TypeId} {ds : List (DataW H)} {j : Nat}
    (hv : Value.okWide Tryz.prog W r b0 24 v) (h : DataW.Trod enc Tryz.prog W base sp held 24 v d ps)
    (hsz : (DataW.weightsEach Tryz.prog ts ds).all (· ≤ reachBytes) = true) (ht : ts[j]? = some 24) (hd : ds[j]? = some d) :
    ∃ l, IStepsW W v l ∧ (∀ x ∈ l, fineI x) ∧ (l.length ≤ maxLen ∧ l.length * 72 ≤ 140737488351232) := by
  obtain ⟨a0, len0, cap0, rfl⟩ := okWide_slice Tryz.underlying24 hv
  obtain ⟨fuel, hf⟩ := h
  have hC : Tryz.prog.cellsOf 44 = 14 := by kernel_rfl
  have hBy : Tryz.prog.bytesOf 44 = 72 := by kernel_rfl
  rcases open_slice Tryz.underlying24 hf with ⟨hcs, hx⟩ | ⟨a, len, cap, m, n, D, Pl, hcs, _, hl, hm, hmm, hx, hi⟩
  · simp [Value.cells] at hcs
    obtain ⟨rfl, rfl, rfl⟩ := hcs
    exact ⟨[], ⟨none, 0, rfl, fun j s hj => by simp at hj⟩, fun x hx => by simp at hx, Nat.zero_le _, Nat.zero_le _⟩
  · simp [Value.cells] at hcs
    obtain ⟨rfl, rfl, rfl⟩ := hcs
    have hle : len0 ≤ m := by rw [hmm]; split <;> omega
    have key : ∀ i, i < m → ∃ x : ISt, (i14w W (some a) i x) ∧ (∃ a b c e f g : DataW H, D i = .agg [a, b, c, e, f, .lit (.string x.s), g]) ∧ (x.i < 4294967296 ∧ x.to_ < 4294967296 ∧ -9223372036854775808 ≤ x.n ∧ x.n < 9223372036854775808) := by
      intro i him
      obtain ⟨cs', hc, ht'⟩ := hi i him
      rw [hC] at hc
      obtain ⟨_, _, hat⟩ := World.cells?_some hc
      obtain ⟨x, q, m, z, i', b, c, e, f, r, rfl, hD, h1⟩ := istepw_of ht'
      refine ⟨x, ⟨a, q, m, z, i', b, c, e, f, r, rfl, fun j v hv => ?_⟩, hD, h1⟩
      have hj : j < 14 := by have := (List.getElem?_eq_some_iff.1 hv).1; simpa [stepL] using this
      rw [← hv]
      simpa using hat j hj
    let f : Nat → ISt := fun i => if h : i < m then (key i h).choose else default
    have hfs : ∀ i, i < m → i14w W (some a) i (f i) ∧ (∃ a b c e f2 g : DataW H, D i = .agg [a, b, c, e, f2, .lit (.string (f i).s), g]) ∧ ((f i).i < 4294967296 ∧ (f i).to_ < 4294967296 ∧ -9223372036854775808 ≤ (f i).n ∧ (f i).n < 9223372036854775808) := by
      intro i h
      have hc := (key i h).choose_spec
      have he : f i = (key i h).choose := dif_pos h
      rw [he]
      exact hc
    have hxd := hd.trans (congrArg some (Prod.mk.inj hx).1)
    have hrv : reachBytes ≤ 140737488351232 := by decide
    refine ⟨(List.range len0).map f, ⟨some a, cap0, by simp, ?_⟩, ?_, by simp; omega, ?_⟩
    · intro i x hi2
      rw [List.getElem?_map, Option.map_eq_some_iff] at hi2
      obtain ⟨i2, h2, rfl⟩ := hi2
      obtain ⟨h3, h4⟩ := List.getElem?_eq_some_iff.1 h2
      simp only [List.getElem_range] at h4
      subst h4
      simp only [List.length_range] at h3
      exact (hfs i (by omega)).1
    · intro x hx2
      obtain ⟨i, hi2, rfl⟩ := List.mem_map.1 hx2
      have hil : i < len0 := List.mem_range.1 hi2
      obtain ⟨_, ⟨a, b, c, e, f2, g, hD⟩, h1⟩ := hfs i (by omega)
      refine ⟨?_, h1⟩
      refine Nat.le_trans (sized_row_aggI hsz ht hxd Tryz.underlying24 (List.mem_map.2 ⟨i, hi2, rfl⟩) ?_) hrv
      rw [hD]
      simp only [DataW.weights, Tryz.underlying44]
      simp [DataW.weightsEach, DataW.weights]
    · have hw : (len0 + (m - len0)) * 72 ≤ reachBytes := by
        refine of_decide_eq_true (List.all_eq_true.1 hsz _ (DataW.weights_mem_each ht hxd _ ?_))
        simp only [DataW.weights, Tryz.underlying24, List.mem_cons, List.length_map, List.length_range, hBy]
        simp
      simp only [List.length_map, List.length_range]
      omega
end Go.Proofs.YtnfiapjdkjbdhaaGreat
