/- Layer 9 (bmap): the iterator over all blocks. -/
import Derived.Test.YtdddennhdbmolaaGreatBmap7
namespace Go.Proofs.YtdddennhdbmolaaGreat
open Go.RowKit Go.Maps Go.Sort Go.Shelf Go.Lib
set_option linter.unusedVariables false
set_option linter.unusedSimpArgs false
set_option maxRecDepth 10000
attribute [local go_sem] Oper.semAt_some
theorem prL_get {x : Im} {l : List Nat} {k : Nat} (hk : k < (x.dir ++ l).length) (hb : (x.dir ++ l)[k] ≠ 0) : (nzL 0 ((x.dir ++ l).take k)).length < (prL x l).length ∧ (prL x l)[(nzL 0 ((x.dir ++ l).take k)).length]? = some (k, (x.dir ++ l)[k]) := by
  have h1 := nzL_take hk
  rw [if_neg hb] at h1
  have h2 : nzL 0 (x.dir ++ l) = nzL 0 ((x.dir ++ l).take (k + 1)) ++ nzL (0 + ((x.dir ++ l).take (k + 1)).length) ((x.dir ++ l).drop (k + 1)) := by
    rw [← nzL_append, List.take_append_drop]
  have h3 : (prL x l)[(nzL 0 ((x.dir ++ l).take k)).length]? = some (k, (x.dir ++ l)[k]) := by
    unfold prL
    rw [h2, h1, List.append_assoc, List.append_assoc, List.getElem?_append_right (Nat.le_refl _), Nat.sub_self]
    rfl
  exact ⟨(List.getElem?_eq_some_iff.1 h3).1, h3⟩
set_option maxRecDepth 100000 in
set_option maxHeartbeats 2000000 in
theorem blocks_in (lp B C : Nat) (x : Im) (l : List Nat) (hlt : ∀ b ∈ l, b < 65536) (hxf : x.fits) (W : World) (hx : InoAt W B x) (hl : LisAt W C l)
    (J : Nat → Nat → World → Prop) (hJd : ∀ p j V, J p j V → InoAt V B x)
    (hstart : ∀ p W', Below W.heap.size W W' → W.heap.size ≤ p → p < W'.heap.size → J p 0 W')
    (hround : ∀ p j (hj : j < (prL x l).length) W1, J p j W1 → YieldAt Fence.wide 6 Tryz.prog lp #[.int .i64 (((prL x l)[j]).1 : Int), w16 ((prL x l)[j]).2] W1 fun e W' => e = .returned (.bool true) ∧ J p (j + 1) W' ∧ W'.heap[p]? = W1.heap[p]?) :
    CallsIn Fence.wide 7 Tryz.prog 74 #[.func (.yield lp) #[] #[], .pointer (some ⟨B, 0, none⟩), .pointer (some ⟨C, 0, none⟩)] W fun e W' => (∃ v, e = .returned v) ∧ ∃ p, J p (prL x l).length W' := by
  have HC := Lib.hid (blocks_cat W x l B C hx hl)
  have h36 : (x.dir ++ l).length = 36 := by rw [List.length_append, hl.2]; rfl
  have HR := Lib.hid hround
  have HJ := Lib.hid hJd
  have HST := Lib.hid hstart
  clear hround hJd hstart hl
  refine callsIn_of_wp Tryz.func74 rfl trivial ?_ rfl
  simp only [Tryz.ntmps74, List.size_toArray, List.length_cons, List.length_nil, Nat.reduceAdd, Nat.reduceSub, Array.replicate_succ, Array.replicate_zero, List.push_toArray, List.append_toArray, List.nil_append, List.cons_append]
  gi_wp2_with fail
  refine wpIn_wide.2 ?_
  go_region_held3 (fun W' => True) (trivial) (first | (go_at_call 45; ((with_reducible refine (HC.out).mono ?_); rintro e w1 ⟨c, rfl, hu, hb⟩; have HU := Lib.hid hu; have HB := Lib.hid hb; clear hu hb)))
  have hsz := HB.out.size
  obtain ⟨A0, c0, hv0, hcell0⟩ := HU.out
  obtain ⟨rfl, -⟩ : A0 = some ⟨W.heap.size + 1, 0, none⟩ ∧ c0 = c := by injection hv0 with e1 e2 e3; exact ⟨e1.symm, e3.symm⟩
  have hcell : ∀ k b, (x.dir ++ l)[k]? = some b → w1.cell? ⟨W.heap.size + 1, k, none⟩ = some (w16 b) := fun k b hb => by
    obtain ⟨a, e, h⟩ := hcell0 k b hb
    cases e
    rwa [addr_add0] at h
  have hp1 : W.heap.size + 1 < w1.heap.size := World.block_lt_of_cell? w1 _ (hcell 0 _ (List.getElem?_eq_getElem (by omega)))
  have hJ0 := HST.out (W.heap.size + 1) w1 HB.out (by omega) hp1
  have Hcell := Lib.hid hcell
  generalize hp : W.heap.size + 1 = p at *
  have hlt2 : ∀ b ∈ x.dir ++ l, b < 65536 := by
    intro b hb
    rcases List.mem_append.1 hb with h | h
    · obtain ⟨-, -, -, h0, h1, h2, h3, h4⟩ := hxf
      simp only [Im.dir, List.mem_cons, List.not_mem_nil, or_false] at h
      rcases h with rfl | rfl | rfl | rfl <;> assumption
    · exact hlt b h
  have HL := Lib.hid hlt2
  have hP : ∀ k b, (x.dir ++ l)[k]? = some b → b ≠ 0 → (prL x l)[(nzL 0 ((x.dir ++ l).take k)).length]? = some (k, b) := fun k b hb hne => by
    obtain ⟨hk, rfl⟩ := List.getElem?_eq_some_iff.1 hb
    exact (prL_get hk hne).2
  have hN : ∀ k b, (x.dir ++ l)[k]? = some b → nzL 0 ((x.dir ++ l).take (k + 1)) = nzL 0 ((x.dir ++ l).take k) ++ if b = 0 then [] else [(k, b)] := fun k b hb => by
    obtain ⟨hk, rfl⟩ := List.getElem?_eq_some_iff.1 hb
    exact nzL_take hk
  have HP := Lib.hid hP
  have HN := Lib.hid hN
  clear hP hN
  clear hcell hcell0 hv0 HC HU HB HST hlt hlt2 hx
  have hend : (nzL 0 ((x.dir ++ l).take 36)).length + (if x.i = 0 then 0 else 1) = (prL x l).length := by
    rw [List.take_of_length_le (by omega)]
    unfold prL
    rw [List.length_append]
    split <;> rfl
  have hlast : x.i ≠ 0 → (prL x l)[(nzL 0 ((x.dir ++ l).take 36)).length]? = some (4, x.i) := fun h => by
    rw [List.take_of_length_le (by omega)]
    unfold prL
    rw [if_neg h, List.getElem?_append_right (Nat.le_refl _), Nat.sub_self]
    rfl
  have HE := Lib.hid hend
  have HLa := Lib.hid hlast
  clear hend hlast
  generalize x.dir ++ l = all at *
  gi_wp2_with fail
  gi_loopw [4, 5, 12] (fun _ _ i wr => ∃ k : Nat, k ≤ 36 ∧ i = .int .i64 k ∧ J p (nzL 0 (all.take k)).length wr ∧ wr.heap[p]? = w1.heap[p]?) (fun _ _ i _ => 36 - (Go.RowKit.intOf i).toNat)
  case atStart => exact ⟨0, Nat.zero_le _, rfl, hJ0, rfl⟩
  case round =>
    obtain ⟨k, hk, rfl, hJk, hpk⟩ := hrel
    by_cases hlt : k < 36
    · obtain ⟨b, hbk⟩ : ∃ b, all[k]? = some b := ⟨_, List.getElem?_eq_getElem (by omega)⟩
      have hcx : wr.cell? ⟨p, k, none⟩ = some (w16 b) := (World.cell?_of_block (a := ⟨p, k, none⟩) hpk).trans (Hcell.out k b hbk)
      have hsucc := HN.out k b hbk
      have hget := HP.out k b hbk
      have hb16 := HL.out b (List.mem_of_getElem? hbk)
      have HPk := Lib.hid hpk
      have HJk := Lib.hid hJk
      clear hpk hJk hbk
      have hI : (k : Int) < 36 := by omega
      by_cases hb : b = 0
      · rw [if_pos hb, List.append_nil] at hsucc
        have HSu := Lib.hid hsucc
        have hne : ((b : Int) != 0) = false := by rw [hb]; rfl
        clear hsucc hget hb
        gi_wp2_with fail
        refine ⟨(fun f h => (by cases h)), ?_⟩
        gi_wp2_with fail
        go_roundw
        case rel => exact ⟨k + 1, by omega, by simp, by rw [HSu.out]; exact HJk.out, HPk.out⟩
        case measure => simp [Go.RowKit.intOf]; omega
      · rw [if_neg hb] at hsucc
        obtain ⟨h1, h3⟩ := List.getElem?_eq_some_iff.1 (hget hb)
        obtain ⟨fn, tmps, assign, body, hy, hR⟩ := HR.out p _ h1 wr HJk.out
        rw [h3] at hy
        have hl2 := congrArg List.length hsucc
        rw [List.length_append] at hl2
        have HSu := Lib.hid hl2
        have hne : ((b : Int) != 0) = true := by simp; omega
        clear hsucc hget h1 h3 hl2
        dsimp only at hy
        gi_wp2_with fail
        refine hR.mono ?_
        rintro e W3 ⟨rfl, hJ3, hk3⟩
        have HJ3 := Lib.hid hJ3
        have HK3 := Lib.hid hk3
        clear hJ3 hk3
        gi_wp2_with fail
        go_roundw
        case rel => exact ⟨k + 1, by omega, by simp, by rw [HSu.out]; exact HJ3.out, HK3.out.trans HPk.out⟩
        case measure => simp [Go.RowKit.intOf]; omega
    · obtain rfl : k = 36 := by omega
      have HJk := Lib.hid hJk
      have hx7 : wr.cell? ⟨B, 7, none⟩ = some (w16 x.i) := cell_of_row wr B 7 _ _ (0, 0) (HJ.out _ _ _ hJk)
      clear hpk hJk
      by_cases hi : x.i = 0
      · have hl := HE.out
        rw [if_pos hi, Nat.add_zero] at hl
        rw [hi] at hx7
        have HEq := Lib.hid hl
        clear hl hi
        gi_wp2_with fail
        go_end0
        exact ⟨⟨_, rfl⟩, p, by rw [← HEq.out]; exact HJk.out⟩
      · have hl := HE.out
        rw [if_neg hi] at hl
        obtain ⟨h1, h3⟩ := List.getElem?_eq_some_iff.1 (HLa.out hi)
        obtain ⟨fn, tmps, assign, body, hy, hR⟩ := HR.out p _ h1 wr HJk.out
        rw [h3] at hy
        have hne : ((x.i : Int) != 0) = true := by simp; omega
        have HEq := Lib.hid hl
        clear hl hi h1 h3
        dsimp only at hy
        rw [show (((4 : Nat) : Nat) : Int) = 4 from rfl] at hy
        gi_wp2_with fail
        refine hR.mono ?_
        rintro e W3 ⟨rfl, hJ3, hk3⟩
        have HJ3 := Lib.hid hJ3
        clear hJ3 hk3
        gi_wp2_with fail
        go_end0
        exact ⟨⟨_, rfl⟩, p, by rw [← HEq.out]; exact HJ3.out⟩
end Go.Proofs.YtdddennhdbmolaaGreat
