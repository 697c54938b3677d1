/- Layer 6 (bits): Fill. -/
import Derived.Test.YthdkbhoeonnkmaaBits5
import Derived.Test.YthdkbhoeonnkmaaBaseRound
import Derived.Laws.EntriesVeiled
namespace Go.Proofs.Ythdkbhoeonnkmaa
open Go.RowKit Go.Shelf
set_option linter.unusedVariables false
set_option linter.unusedSimpArgs false
set_option maxRecDepth 10000
attribute [local go_sem] Oper.semAt_some
/-- A text with these bits on, or off. -/
def fillOf (l : List UInt8) (on : Bool) (xs : List (BitIx l)) : List UInt8 := xs.foldl (fun s x => setL s x.val on) l
theorem fillOf_snoc (l : List UInt8) (on : Bool) (xs : List (BitIx l)) (x : BitIx l) : fillOf l on (xs ++ [x]) = setL (fillOf l on xs) x.val on := by
  unfold fillOf
  rw [List.foldl_append]; rfl
theorem fillOf_row (l : List UInt8) (on : Bool) (a k : Nat) (xs : List (BitIx l)) (h : BitRow l a k xs) : fillOf l on xs = fillL l a on k := by
  induction k generalizing xs with
  | zero =>
    have := h.length
    have : xs = [] := List.length_eq_zero_iff.1 this
    subst this; rfl
  | succ k ih =>
    have hl := h.length
    obtain ⟨ys, x, rfl⟩ : ∃ ys x, xs = ys ++ [x] := by
      rcases List.eq_nil_or_concat xs with e | ⟨ys, x, e⟩
      · subst e; simp at hl
      · exact ⟨ys, x, by simpa using e⟩
    obtain ⟨j, hj, hr, hx⟩ := h.unsnoc
    obtain rfl : k = j := by omega
    rw [fillOf_snoc, ih _ hr, fillL, hx]
theorem fillOf_length (l : List UInt8) (on : Bool) (xs : List (BitIx l)) : (fillOf l on xs).length = l.length := by
  unfold fillOf
  suffices h : ∀ s : List UInt8, (xs.foldl (fun s x => setL s x.val on) s).length = s.length from h l
  induction xs with
  | nil => intro s; rfl
  | cons x xs ih => intro s; rw [List.foldl_cons, ih]; simp
theorem Bytes.kept {W W' : World} {g : Nat} {l : List UInt8} {row : Option Nat} (h : Bytes W g l) (hg : W.grownBy W' row) (hr : ∀ r, row = some r → ∃ o : Obj, W.heap[r]? = some o ∧ o.isCells = false) : Bytes W' g l := fun j hj =>
  ⟨cell_kept (h j hj).1 hg hr, (frozen_kept (h j hj).1 hg hr).trans (h j hj).2⟩
set_option maxRecDepth 100000 in
set_option maxHeartbeats 4000000 in
theorem fill_ok (l : List UInt8) (a m : Nat) (on : Bool) (w : World) (hl : l.length ≤ 1048576) (h : a + m ≤ 8 * l.length) :
    Calls Try.prog 11 #[str l, .int .i64 a, .int .i64 ((a + m : Nat) : Int), .bool on] w fun e w' => e = .returned (.tuple #[str (fillL l a on m), .int .i64 0]) ∧ Below w.heap.size w w' := by
  have hs := Lib.hid fun W => size_any l W hl
  obtain ⟨b, hb⟩ : ∃ b, b = a + m := ⟨_, rfl⟩
  rw [← hb]
  have hab : a ≤ b := by omega
  have hbl : b ≤ 8 * l.length := by omega
  have Hb := Lib.hid hb
  clear hb h
  have d1 : decide (b < a) = false := by simp; omega
  have d2 : decide (8 * (l.length : Int) < (b : Int)) = false := by simp; omega
  refine (callsIn_wide (n := 3)).1 ?_
  refine callsIn_of_wp_marks Try.func11 rfl trivial ?_ rfl
  simp only [Try.ntmps11, List.size_toArray, List.length_cons, List.length_nil, Nat.reduceAdd, Nat.reduceSub, Array.replicate_succ, Array.replicate_zero, List.push_toArray, List.append_toArray, List.nil_append, List.cons_append]
  gi_wp2_with fail
  refine (wpIn_wide (n := 3)).2 ?_
  go_quiet (refine Calls.quiet_of_same (hs.out _))
  obtain ⟨cap, W1, hcv, hby, hb1, hs1⟩ := bytes_of_string (P := Try.prog) ((w.alloc (.cells #[.int .i64 b] 3)).drewN nq) 9 39 5 l Try.underlying9 Try.underlying39 Try.underlying5
  have hs1' : W1.heap.size = w.heap.size + 1 + 1 := by rw [hs1]; simp
  have hby' : Bytes W1 (w.heap.size + 1) l := by simpa using hby
  have hb1' : Below (w.heap.size + 1) (w.alloc (.cells #[.int .i64 b] 3)) W1 := (below_drewN (Below.refl _ (w.alloc (.cells #[.int .i64 b] 3))) nq).trans (hb1.mono (by simp))
  have Hby := Lib.hid hby'
  have Hb1 := Lib.hid hb1'
  have Hs1 := Lib.hid hs1'
  clear hby hby' hb1 hb1' hs1 hs1'
  gi_wp2_with fail
  refine ⟨trivial, (callsIn_wide.2 (turner_any on _)).mono ?_⟩
  rintro e w3 ⟨rfl, rfl⟩
  gi_wp2_with fail
  refine ⟨trivial, (callsIn_wide.2 (bitsFrom_any l a _)).mono ?_⟩
  rintro e w4 ⟨rfl, rfl⟩
  gi_wp2_with fail
  obtain ⟨W0, hW0⟩ : ∃ W0, (((((W1.alloc (.cells #[Value.slice (some ⟨w.heap.size + 1, 0, none⟩) l.length cap] 39)).alloc (.cells #[Value.bool on] 4)).alloc (.cells #[Value.func (.func 26) #[] #[.pointer (some ⟨W1.heap.size + 1, 0, none⟩)]] 40)).alloc (.cells #[str l] 9)).alloc (.cells #[Value.int .i64 (a : Int)] 3)) = W0 := ⟨_, rfl⟩
  have hsz0 : W0.heap.size = W1.heap.size + 1 + 1 + 1 + 1 + 1 := by rw [← hW0]; simp
  have hB1 : Below W1.heap.size W1 W0 := by
    rw [← hW0]
    exact (((((Below.refl _ _).alloc (Nat.le_refl _) _).alloc (by simp) _).alloc (by simp; omega) _).alloc (by simp; omega) _).alloc (by simp; omega) _
  have hB0 : Below w.heap.size w W0 := (((Below.refl _ _).alloc (Nat.le_refl _) _).trans (Hb1.out.mono (by omega))).trans (hB1.mono (by have := Hs1.out; omega))
  obtain ⟨k1, k2, k3, k4, _⟩ := boxes4 W1 (Value.slice (some ⟨w.heap.size + 1, 0, none⟩) l.length cap) (.bool on) (.func (.func 26) #[] #[.pointer (some ⟨W1.heap.size + 1, 0, none⟩)]) (str l) 39 4 40 9
  have k5 := cell_new_l ((((W1.alloc (.cells #[Value.slice (some ⟨w.heap.size + 1, 0, none⟩) l.length cap] 39)).alloc (.cells #[Value.bool on] 4)).alloc (.cells #[Value.func (.func 26) #[] #[.pointer (some ⟨W1.heap.size + 1, 0, none⟩)]] 40)).alloc (.cells #[str l] 9)) (Value.int .i64 (a : Int)) 3
  simp only [World.size_alloc] at k5
  have k1 := cell_alloc_l (.cells #[Value.int .i64 (a : Int)] 3) k1
  have k2 := cell_alloc_l (.cells #[Value.int .i64 (a : Int)] 3) k2
  have k3 := cell_alloc_l (.cells #[Value.int .i64 (a : Int)] 3) k3
  have k4 := cell_alloc_l (.cells #[Value.int .i64 (a : Int)] 3) k4
  rw [hW0] at k1 k2 k3 k4 k5
  have k0 : W0.cell? ⟨w.heap.size, 0, none⟩ = some (.int .i64 (b : Int)) :=
    (hB1.cell (p := ⟨w.heap.size, 0, none⟩) (by have := Hs1.out; simp; omega)).trans ((Hb1.out.cell (p := ⟨w.heap.size, 0, none⟩) (by simp)).trans (cell_new_l w _ _))
  have hby0 : Bytes W0 (w.heap.size + 1) l := Hby.out.below hB1 (by have := Hs1.out; omega)
  rw [hW0]
  clear hW0 hcv
  have Hsz0 := Lib.hid hsz0
  have HB1 := Lib.hid hB1
  clear hsz0 hB1
  refine wpIn_rangeFunc_ownF rfl (by decide) (gf := 27) (lb := #[.pointer (some ⟨W1.heap.size + 1 + 1 + 1 + 1, 0, none⟩), .pointer (some ⟨W1.heap.size + 1 + 1 + 1, 0, none⟩)]) rfl trivial (enters_of Try.func27 (by kernel_rfl) rfl)
    (encs := fun (x : BitIx l) => #[.int .i64 (x.val : Int), .bool (bitL l x.val)]) (S := fun ys => BitRow l a (8 * l.length - a) ys) (Sp := fun pre => ∃ k, a + k ≤ 8 * l.length ∧ BitRow l a k pre) (N := 8 * l.length) (w0 := W0) (Kp := KeepC (W1.heap.size + 1 + 1 + 1))
    (fun y J Jx W hW hJ hJx hY h0 => bits_in l hl a (by omega) y (W1.heap.size + 1 + 1 + 1 + 1) (W1.heap.size + 1 + 1 + 1) J Jx hY W ((hW.cell (p := ⟨W1.heap.size + 1 + 1 + 1 + 1, 0, none⟩) (by rw [Hsz0.out]; simp)).trans k5) ((hW.cell (p := ⟨W1.heap.size + 1 + 1 + 1, 0, none⟩) (by rw [Hsz0.out]; simp)).trans k4) h0)
    (fun h k => h.trans k) (fun W q o o' _ hq ho _ => KeepC.putObj o' hq ho) (Below.refl _ _) (fun _ => rfl)
    (fun pre W => ((W.cell? ⟨w.heap.size, 0, none⟩ = some (.int .i64 (b : Int)) ∧ W.cell? ⟨W1.heap.size, 0, none⟩ = some (.slice (some ⟨w.heap.size + 1, 0, none⟩) l.length cap) ∧ W.cell? ⟨W1.heap.size + 1, 0, none⟩ = some (.bool on) ∧ W.cell? ⟨W1.heap.size + 1 + 1, 0, none⟩ = some (.func (.func 26) #[] #[.pointer (some ⟨W1.heap.size + 1, 0, none⟩)])) ∧ Bytes W (w.heap.size + 1) (fillOf l on pre) ∧ ∀ x ∈ pre, x.val ≠ b) ∧ Below w.heap.size w W)
    (fun c pre W => (c = .exit 0 ∧ ∃ ys x, pre = ys ++ [x] ∧ x.val = b ∧ W.cell? ⟨W1.heap.size, 0, none⟩ = some (.slice (some ⟨w.heap.size + 1, 0, none⟩) l.length cap) ∧ Bytes W (w.heap.size + 1) (fillOf l on ys)) ∧ Below w.heap.size w W)
    (OwnFrom.and (Own.from (fun s A B row hs hg hr => by
      obtain ⟨⟨a1, a2, a3, a4⟩, b1, c1⟩ := hs
      exact ⟨⟨cell_kept a1 hg hr, cell_kept a2 hg hr, cell_kept a3 hg hr, cell_kept a4 hg hr⟩, b1.kept hg hr, c1⟩) _) (ownFrom_below (Nat.le_refl _) (by rw [Hsz0.out, Hs1.out]; omega)))
    (fun c => OwnFrom.and (Own.from (fun s A B row hs hg hr => by
      obtain ⟨h1, ys, x, h2, h3, h4, h5⟩ := hs
      exact ⟨h1, ys, x, h2, h3, cell_kept h4 hg hr, h5.kept hg hr⟩) _) (ownFrom_below (Nat.le_refl _) (by rw [Hsz0.out, Hs1.out]; omega)))
    ⟨⟨⟨k0, k1, k2, k3⟩, hby0, by simp⟩, hB0⟩
    (fun x => { tmps := #[str l, .int .i64 (a : Int), .int .i64 (b : Int), .bool on, undef, undef, .pointer (some ⟨w.heap.size, 0, none⟩), undef, .string { data := #[] }, .int .i64 0, .pointer (some ⟨W1.heap.size, 0, none⟩), .pointer (some ⟨W1.heap.size + 1 + 1, 0, none⟩), .int .i64 (x.val : Int), .int .i64 (a : Int), .bool (decide ((a : Int) < 0)), .bool (decide ((a : Int) < 0)), .int .i64 (a : Int), .int .i64 (b : Int), .bool false, .bool (decide ((a : Int) < 0)), .bool (decide ((a : Int) < 0)), .int .i64 (b : Int), str l, .int .i64 (8 * (l.length : Int)), .bool false, .bool (decide ((a : Int) < 0)), str l, .slice (some ⟨w.heap.size + 1, 0, none⟩) l.length cap, .bool on, .func (.func 26) #[] #[.pointer (some ⟨W1.heap.size + 1, 0, none⟩)], str l, .int .i64 (a : Int), .func (.func 27) #[] #[.pointer (some ⟨W1.heap.size + 1 + 1 + 1 + 1, 0, none⟩), .pointer (some ⟨W1.heap.size + 1 + 1 + 1, 0, none⟩)], .int .i64 (x.val : Int), .bool (bitL l x.val), undef, undef, undef, undef, undef, undef, undef, undef, undef, undef, undef, undef, undef, undef, undef, undef, undef, undef], defers := [] }) ?assign ?body ?done ?stop
  case assign =>
    intro l x W K hK
    gi_wp2
    exact hK
  case body =>
    rintro y pre x W ⟨⟨⟨c0, c1, c2, c3⟩, hb, ht⟩, hB⟩ hlen
    clear k0 k1 k2 k3 k4 k5 hby0 hB0
    have hxl := x.isLt
    have hlen2 := fillOf_length l on pre
    by_cases hx : x.val = b
    · have Hb2 := Lib.hid hb
      have Ht := Lib.hid ht
      have Hx := Lib.hid hx
      have hxx : ((x.val : Int) == (b : Int)) = true := by simp [hx]
      clear hb ht hx hlen2
      gi_wp2_with fail
      exact ⟨KeepsOthers.refl _, ⟨rfl, pre, x, rfl, Hx.out, c1, Hb2.out⟩, hB⟩
    · have hxx : ((x.val : Int) == (b : Int)) = false := by simp; omega
      have hx8 : x.val / 8 < (fillOf l on pre).length := by rw [hlen2]; omega
      have hsn := fillOf_snoc l on pre x
      obtain ⟨cb, fb⟩ := hb _ hx8
      have hset : Bytes (W.setCell ⟨w.heap.size + 1, x.val / 8, none⟩ (.int .u8 ((turnB on ((fillOf l on pre)[x.val / 8]) (x.val % 8)).toNat : Int))) (w.heap.size + 1) (fillOf l on (pre ++ [x])) := by
        rw [hsn]
        have := hb.set (x.val / 8) _ (turnB on ((fillOf l on pre)[x.val / 8]) (x.val % 8)) rfl hx8
        unfold setL
        rw [List.getD_eq_getElem?_getD, List.getElem?_eq_getElem hx8]
        exact this
      have Hset := Lib.hid hset
      have Ht := Lib.hid ht
      have Hx := Lib.hid hx
      clear hb ht hx hsn hset hlen
      generalize hqq : (fillOf l on pre)[x.val / 8] = q at cb fb Hset
      have hqlt := q.toNat_lt
      have hx9 : x.val / 8 < l.length := by omega
      have ht1 := turner1_any on q (x.val % 8) (W1.heap.size + 1) W.drew (Nat.mod_lt _ (by omega)) c2
      rw [Int.natCast_emod, show ((8 : Nat) : Int) = 8 from rfl] at ht1
      have Ht1 := Lib.hid ht1
      have e1 : IntKind.i64.wrap ((x.val : Int) / 8) = (x.val : Int) / 8 := IntWalk.i64_in _ (by omega)
      have e2 : (0 : Int) ≤ (x.val : Int) / 8 := by omega
      have e3 : (x.val : Int) / 8 < (l.length : Int) := by omega
      have e4 : ((x.val : Int) / 8).toNat = x.val / 8 := by omega
      clear hqq ht1 hx8 hlen2
      generalize (turnB on q (x.val % 8)).toNat = z at Hset Ht1
      gi_wp2_with fail
      refine wpIn_mono (Q := fun e _ V' => e = .normal ∧ V' = (W.setCell ⟨w.heap.size + 1, x.val / 8, none⟩ (.int .u8 (z : Int))).drew) ?reg ?post
      case reg =>
        clear Hset Ht Hx Hsz0 HB1 Hby Hb1 hs d1 d2 Hs1
        refine still_round 13 (by kernel_rfl) (noDefer_of _ (by kernel_rfl)) (by rintro ⟨_, _, h, _⟩; cases h) (by kernel_rfl) ?_
        simp only [List.take_succ_cons, List.take_zero, List.drop_succ_cons, List.drop_zero]
        repeat still_step
        still_call Ht1.out
        repeat still_step
        refine wpStill_nil ?_
        go_wp2
      case post =>
        rintro e a' V' ⟨rfl, rfl⟩
        gi_wp2_with fail
        refine ⟨(KeepsOthers.setCell _ _ _).trans (KeepsOthers.drew _), (KeepC.setCell _ _ _ (by have := Hs1.out; simp; omega)).trans (KeepC.drew _ _), ⟨⟨?_, ?_, ?_, ?_⟩, (Hset.out).drew, ?_⟩, (hB.setCell (p := ⟨w.heap.size + 1, x.val / 8, none⟩) (by simp) _).drew⟩
        · show (W.setCell _ _).cell? _ = _
          rw [World.cell?_setCell_other _ _ _ _ (by simp)]; exact c0
        · show (W.setCell _ _).cell? _ = _
          rw [World.cell?_setCell_other _ _ _ _ (by have := Hs1.out; intro e; injection e; omega)]; exact c1
        · show (W.setCell _ _).cell? _ = _
          rw [World.cell?_setCell_other _ _ _ _ (by have := Hs1.out; intro e; injection e; omega)]; exact c2
        · show (W.setCell _ _).cell? _ = _
          rw [World.cell?_setCell_other _ _ _ _ (by have := Hs1.out; intro e; injection e; omega)]; exact c3
        · intro u hu
          rcases List.mem_append.1 hu with e | e
          · exact Ht.out u e
          · rw [List.mem_singleton.1 e]; exact Hx.out
  case done =>
    rintro D ys W hD hS ⟨⟨⟨c0, c1, c2, c3⟩, hb, ht⟩, hB⟩ hK
    clear k0 k1 k2 k3 k4 k5 hby0 hB0
    have hlen := fillOf_length l on ys
    have hcv := string_of_bytes (P := Try.prog) 39 9 5 Try.underlying39 Try.underlying5 Try.underlying9 W (w.heap.size + 1) cap _ hb
    rw [hlen] at hcv
    have Ht := Lib.hid ht
    clear ht hb hlen
    gi_wp2_with fail
    refine ⟨by simp, .inl ⟨_, _, rfl, run_takeDeferred hK, ?_⟩⟩
    refine ⟨_, results_tmp2 rfl _ _ _, ?_, hB.trans (belowK_b (w := w) (Nat.le_refl _) W D _ _ (by rw [Hsz0.out, Hs1.out] at hD; omega) hK rfl rfl)⟩
    have hm : m = 8 * l.length - a := by
      have := Hb.out
      rcases Nat.lt_or_ge b (8 * l.length) with h0 | h0
      · exact absurd rfl (Ht.out ⟨b, h0⟩ (hS.mem _ (by simp; omega) (by simp; omega)))
      · omega
    rw [hm, ← fillOf_row l on a _ ys hS]; rfl
  case stop =>
    rintro D c pre W hD ⟨k, hk, hrow⟩ ⟨⟨rfl, ys, x, rfl, hx, c1, hb⟩, hB⟩ hK
    clear k0 k1 k2 k3 k4 k5 hby0 hB0
    have hlen := fillOf_length l on ys
    have hcv := string_of_bytes (P := Try.prog) 39 9 5 Try.underlying39 Try.underlying5 Try.underlying9 W (w.heap.size + 1) cap _ hb
    rw [hlen] at hcv
    have Hx := Lib.hid hx
    clear hb hlen hx
    gi_wp2_with fail
    refine ⟨by simp, .inl ⟨_, _, rfl, run_takeDeferred hK, ?_⟩⟩
    refine ⟨_, results_tmp2 rfl _ _ _, ?_, hB.trans (belowK_b (w := w) (Nat.le_refl _) W D _ _ (by rw [Hsz0.out, Hs1.out] at hD; omega) hK rfl rfl)⟩
    obtain ⟨j, rfl, hr, hxj⟩ := hrow.unsnoc
    have hm : m = j := by
      have := Hb.out
      have := Hx.out
      omega
    rw [hm, ← fillOf_row l on a _ ys hr]; rfl
end Go.Proofs.Ythdkbhoeonnkmaa
