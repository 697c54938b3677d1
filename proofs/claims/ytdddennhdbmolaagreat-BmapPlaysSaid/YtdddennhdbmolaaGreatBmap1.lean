/- Layer 9 (bmap): slices.Grow, slices.Concat, slices.ContainsFunc as bmap calls them; which blocks are strange. -/
import Derived.Test.YtdddennhdbmolaaGreatM18
import Derived.Lib.AppendZeros
import Derived.OwnWalk
namespace Go.Proofs.YtdddennhdbmolaaGreat
open Go.RowKit Go.Lib
set_option linter.unusedVariables false
set_option linter.unusedSimpArgs false
set_option maxRecDepth 10000
theorem num16Info : (Tryz.prog.info? 24).map (fun i => (i.zero, i.size, i.bytes)) = some (some (.int .u16 0), 1, 2) := by kernel_rfl
/-- Numbers as cells. -/
abbrev numV (l : List Nat) : List Value := l.map fun n => w16 n
theorem numV_length (l : List Nat) : (numV l).length = l.length := List.length_map _
theorem numV_append (a b : List Nat) : numV (a ++ b) = numV a ++ numV b := List.map_append
theorem numV_at {l : List Nat} {j n : Nat} (h : l[j]? = some n) : (numV l)[j]? = some (w16 n) := by simp [h]
theorem numV_one (l : List Nat) : ∀ u ∈ numV l, u.oneCell' = true := by
  intro u hu
  obtain ⟨n, -, rfl⟩ := List.mem_map.1 hu
  rfl
theorem u16s_own {w : World} {base : Nat} {v : Value} {n : Nat} {l : List Nat} (h : w.ownsRow base 24 1 v n (numV l)) : U16s w v l := by
  obtain ⟨A, c, hv, hc⟩ := row_of_own h
  rw [numV_length] at hv
  refine ⟨A, c, hv, fun j m hj => ?_⟩
  obtain ⟨g, rfl, hg⟩ := hc j _ (numV_at hj)
  exact ⟨_, rfl, by rw [addr_add0]; exact hg⟩
/-- 'append' by its run. -/
theorem wpList_append_run {P : Program} {ops : Array Oper} {rest : List Oper} {o : Oper} {a : Act} {w : World} {Q : Exit → Act → World → Prop} (hg : o.guard = none) (s x : Operand) (t tn : TypeId)
    (hop : o.op = Op.call { callee := Callee.builtin Builtin.append, args := #[s, x], argTypes := #[t, tn] }) (u v : Value) (hs : a.eval s = u) (hx : a.eval x = v) (v' : Value) (w' : World)
    (hrun : (Builtin.append_ #[t, tn] o.type #[u, v]).run P w = .ok v' w') (h : wpList P ops Q rest (a.put o.dst v') w') : wpList P ops Q (o :: rest) a w := by
  refine wpList_plain hg fun K hK' => ?_
  unfold Oper.wp
  simp [execOp, hop, resolve, invoke, builtin, hs, hx, hrun, Result.andThen]
  exact hK' _ _ h
theorem grow_pos (n : Nat) (w : World) (h0 : 0 < n) (hn : n ≤ 100000) :
    Calls Tryz.prog 66 #[.slice none 0 0, .int .i64 (n : Int)] w fun e w' => ∃ cap, e = .returned (.slice (some ⟨w.heap.size, 0, none⟩) 0 cap) ∧ n ≤ cap ∧ w'.ownsRow w.heap.size 24 1 (.slice (some ⟨w.heap.size, 0, none⟩) 0 cap) 0 [] ∧ Below w.heap.size w w' := by
  obtain ⟨i0, hi, hz0, hz1, hz2⟩ := info_parts num16Info
  have hap := run_append_nil_zeros (P := Tryz.prog) w 37 3 37 24 i0 (.int .u16 0) .i64 .i64 Tryz.underlying37 Tryz.underlying3 hi hz0 n h0 (by omega) (by omega) (by rw [hz2]; omega)
  have hge := grownCap_ge w n 0 24
  have hle := grownCap_le_maxLen w n 0 24 (by unfold maxLen; omega)
  generalize grownCap w n 0 24 = cap at *
  have hown : (w.drew.alloc (.cells (Builtin.zeroCells (Value.int .u16 0).cells n ++ Builtin.zeroCells (Value.int .u16 0).cells (cap - n)) 24)).ownsRow w.heap.size 24 1 (.slice (some ⟨w.heap.size, 0, none⟩) 0 cap) 0 [] :=
    World.ownsRow_made w.drew _ cap (Nat.le_refl _) hle (by simp [Builtin.zeroCells, Value.cells]; omega)
  have hbel : Below w.heap.size w (w.drew.alloc (.cells (Builtin.zeroCells (Value.int .u16 0).cells n ++ Builtin.zeroCells (Value.int .u16 0).cells (cap - n)) 24)) := ((Below.refl _ w).drew).alloc (Nat.le_refl _) _
  generalize Builtin.zeroCells (Value.int .u16 0).cells n ++ Builtin.zeroCells (Value.int .u16 0).cells (cap - n) = cs at *
  have HO := Lib.hid hown
  have HB := Lib.hid hbel
  unfold maxLen at hle
  clear hown hbel hi
  go_enter Tryz.func66, Tryz.ntmps66
  go_wp2_with (at_builtin; refine wpList_append_run rfl _ _ _ _ rfl _ _ rfl rfl _ _ hap ?_)
  go_ret
  exact ⟨cap, rfl, hge, HO.out, HB.out⟩
/-- How many numbers the first rows have. -/
def sumLen (vs : List (Value × List Nat)) (k : Nat) : Nat := ((vs.take k).flatMap (·.2)).length
theorem sumLen_succ (vs : List (Value × List Nat)) (k : Nat) (v : Value) (l : List Nat) (h : vs[k]? = some (v, l)) : (vs.take (k + 1)).flatMap (·.2) = (vs.take k).flatMap (·.2) ++ l := by
  obtain ⟨hk, he⟩ := List.getElem?_eq_some_iff.1 h
  rw [List.take_succ_eq_append_getElem hk, List.flatMap_append, he]
  simp
theorem sumLen_le (vs : List (Value × List Nat)) (h : ∀ p ∈ vs, p.2.length ≤ 100) : ∀ k, sumLen vs k ≤ 100 * k := by
  intro k
  induction k with
  | zero => simp [sumLen]
  | succ k ih =>
    by_cases hk : k < vs.length
    · have h1 := sumLen_succ vs k vs[k].1 vs[k].2 (List.getElem?_eq_getElem hk)
      have h2 := h vs[k] (List.getElem_mem _)
      unfold sumLen at ih ⊢
      rw [h1, List.length_append]
      omega
    · unfold sumLen at ih ⊢
      rw [List.take_of_length_le (by omega)]
      rw [List.take_of_length_le (by omega)] at ih
      omega
set_option maxHeartbeats 1000000 in
theorem concat_any (vs : List (Value × List Nat)) (B c : Nat) (w : World) (hB : ∀ j v l, vs[j]? = some (v, l) → w.cell? ⟨B, j, none⟩ = some v ∧ U16s w v l ∧ ∀ m c, v = .slice none m c → c = 0) (hn : vs.length ≤ 10) (hl : ∀ p ∈ vs, p.2.length ≤ 100) (h0 : 0 < (vs.flatMap (·.2)).length) :
    Calls Tryz.prog 45 #[.slice (some ⟨B, 0, none⟩) vs.length c] w fun e w' => ∃ c2, e = .returned (.slice (some ⟨w.heap.size, 0, none⟩) (vs.flatMap (·.2)).length c2) ∧ U16s w' (.slice (some ⟨w.heap.size, 0, none⟩) (vs.flatMap (·.2)).length c2) (vs.flatMap (·.2)) ∧ Below w.heap.size w w' := by
  have hle := sumLen_le vs hl
  have hall : vs.flatMap (·.2) = (vs.take vs.length).flatMap (·.2) := by rw [List.take_length]
  have HLE := Lib.hid hle
  have HB := Lib.hid hB
  clear hB hle hl
  go_enter Tryz.func45, Tryz.ntmps45
  go_wp2_with fail
  go_loopw [3, 11] (fun s i wr => ∃ k : Nat, k ≤ vs.length ∧ s = .int .i64 (sumLen vs k : Int) ∧ i = .int .i64 k ∧ w = wr) (fun _ i _ => vs.length - (Go.RowKit.intOf i).toNat)
  case atStart => exact ⟨0, Nat.zero_le _, by simp [sumLen], rfl, rfl⟩
  case round =>
    obtain ⟨k, hk, rfl, rfl, rfl⟩ := hrel
    by_cases hlt : k < vs.length
    · obtain ⟨p, hp⟩ : ∃ p, p = vs[k] := ⟨_, rfl⟩
      obtain ⟨v, l⟩ := p
      obtain ⟨x0, hu, -⟩ := HB.out k v l (by rw [hp]; exact List.getElem?_eq_getElem hlt)
      obtain ⟨A, c2, rfl, -⟩ := hu
      have h1 := HLE.out k
      have h2 := HLE.out (k + 1)
      have hsum : sumLen vs (k + 1) = sumLen vs k + l.length := by
        unfold sumLen
        rw [sumLen_succ vs k _ l (by rw [hp]; exact List.getElem?_eq_getElem hlt), List.length_append]
      have HS := Lib.hid hsum
      have hlen : sumLen vs k + l.length ≤ 1000 := by omega
      have hI : (k : Int) < (vs.length : Int) := by omega
      clear h1 h2 hsum hp
      generalize hm : sumLen vs k = m at *
      have HM := Lib.hid hm
      clear hm
      go_wp2_with fail
      go_roundw
      case rel => exact ⟨k + 1, by omega, by rw [HS.out]; simp, by simp, by trivial⟩
      case measure => simp [Go.RowKit.intOf]; omega
    · obtain rfl : k = vs.length := by omega
      have hpos : 0 < sumLen vs vs.length := by unfold sumLen; rw [← hall]; exact h0
      have hbig : sumLen vs vs.length ≤ 1000 := by have := HLE.out vs.length; omega
      have HG := Lib.hid (grow_pos (sumLen vs vs.length) w hpos (by omega))
      have HT := Lib.hid (show (vs.flatMap (·.2)).length = sumLen vs vs.length by unfold sumLen; rw [← hall])
      have hmono : ∀ k v l, vs[k]? = some (v, l) → sumLen vs k + l.length ≤ sumLen vs vs.length := fun k v l h => by
        have h1 := congrArg List.length (sumLen_succ vs k v l h)
        have h2 : (vs.take (k + 1)).flatMap (·.2) ++ (vs.drop (k + 1)).flatMap (·.2) = vs.flatMap (·.2) := by rw [← List.flatMap_append, List.take_append_drop]
        have h3 := congrArg List.length h2
        rw [List.length_append] at h1 h3
        unfold sumLen
        rw [List.take_length]
        omega
      have HMo := Lib.hid hmono
      clear hmono
      generalize hN : sumLen vs vs.length = N at *
      have HN := Lib.hid hN
      clear hN h0 hall
      go_wp2_with fail
      refine HG.out.mono ?_
      rintro e w1 ⟨cap, rfl, hcap, hown, hb1⟩
      have HO := Lib.hid hown
      have HB1 := Lib.hid hb1
      have hsz1 := hb1.size
      clear hown hb1
      generalize hg : w.heap.size = g at *
      go_wp2_with fail
      go_loopw [6, 27] (fun s i wr => ∃ k : Nat, k ≤ vs.length ∧ s = .slice (some ⟨g, 0, none⟩) (sumLen vs k) cap ∧ i = .int .i64 k ∧ wr.ownsRow g 24 1 (.slice (some ⟨g, 0, none⟩) (sumLen vs k) cap) (sumLen vs k) (numV ((vs.take k).flatMap (·.2))) ∧ Below g w wr) (fun _ i _ => vs.length - (Go.RowKit.intOf i).toNat)
      case atStart => exact ⟨0, Nat.zero_le _, rfl, rfl, HO.out, HB1.out⟩
      case round =>
        obtain ⟨k, hk, rfl, rfl, hown, hb⟩ := hrel
        by_cases hlt : k < vs.length
        · obtain ⟨p, hp⟩ : ∃ p, p = vs[k] := ⟨_, rfl⟩
          obtain ⟨v, l⟩ := p
          have hk2 : vs[k]? = some (v, l) := by rw [hp]; exact List.getElem?_eq_getElem hlt
          obtain ⟨x0, hu, hnil⟩ := HB.out k v l hk2
          have x1 := (hb.cell (p := ⟨B, k, none⟩) (by have := World.block_lt_of_cell? w _ x0; rw [← hg]; exact this)).trans x0
          have hu2 : U16s wr v l := by
            obtain ⟨A, c2, hv, hc⟩ := hu
            refine ⟨A, c2, hv, fun j n hj => ?_⟩
            obtain ⟨a, hA, hcell⟩ := hc j n hj
            exact ⟨a, hA, (hb.cell (by have := World.block_lt_of_cell? w _ hcell; rw [← hg]; exact this)).trans hcell⟩
          obtain ⟨A, c2, rfl, hcs⟩ := hu2
          have HCS := Lib.hid hcs
          have hsucc := sumLen_succ vs k _ l hk2
          have hs1 : sumLen vs (k + 1) = sumLen vs k + l.length := by unfold sumLen; rw [hsucc, List.length_append]
          have hroom : sumLen vs k + l.length ≤ cap := Nat.le_trans (HMo.out k _ l hk2) hcap
          have hI : (k : Int) < (vs.length : Int) := by omega
          have HSU := Lib.hid hsucc
          have HS1 := Lib.hid hs1
          have HOw := Lib.hid hown
          have HBw := Lib.hid hb
          clear hsucc hs1 hown hb hcs hu x0 hp hk2
          generalize hm : sumLen vs k = m at *
          clear hm
          obtain ⟨i0, hi, hz0, hz1, hz2⟩ := info_parts num16Info
          have hnone : A = none → l.length = 0 ∧ c2 = 0 := fun e => by
            subst e
            refine ⟨?_, hnil _ _ rfl⟩
            cases l with
            | nil => rfl
            | cons n r => obtain ⟨a, h1, -⟩ := HCS.out 0 n rfl; cases h1
          have hnews : ∀ ad, A = some ad → ∀ j u, (numV l)[j]? = some u → wr.cell? (ad.add j) = some u := fun ad e j u hj => by
            subst e
            rw [List.getElem?_map, Option.map_eq_some_iff] at hj
            obtain ⟨n, hn, rfl⟩ := hj
            obtain ⟨a, h1, h2⟩ := HCS.out j n hn
            cases h1
            exact h2
          have HNone := Lib.hid hnone
          have HNews := Lib.hid hnews
          have HI0 := Lib.hid hi
          clear hnone hnews hnil hi hz0 hz2
          go_wp2_with (at_builtin; refine wpList_append_fits_any _ rfl _ _ _ rfl g 24 i0 1 Tryz.underlying37 HI0.out hz1 g m cap _ rfl HOw.out A _ _ (numV l) rfl (by rw [numV_length, Nat.mul_one]) HNone.out HNews.out (numV_one l) hroom ?_; intro w2 hown2 hgr)
          have HOw2 := Lib.hid hown2
          have HBw2 := Lib.hid (HBw.out.grown hgr (by have := HBw.out.size; omega) (fun k hk => by cases hk; exact Nat.le_refl _))
          clear hown2 hgr
          go_wp2_with fail
          go_roundw
          case rel => exact ⟨k + 1, by omega, by rw [HS1.out], by simp, by rw [HS1.out, HSU.out, numV_append]; exact HOw2.out, HBw2.out⟩
          case measure => simp [Go.RowKit.intOf]; omega
        · obtain rfl : k = vs.length := by omega
          have HOw := Lib.hid hown
          have HBw := Lib.hid hb
          clear hown hb
          go_wp2_with fail
          go_ret
          rw [hg, HT.out, ← HN.out]
          refine ⟨_, rfl, ?_, HBw.out⟩
          have := u16s_own HOw.out
          rwa [List.take_length] at this
theorem isPage_any (n : Int) (w : World) : Calls Tryz.prog 26 #[.int .i64 n] w fun e w' => e = .returned (.bool (decide (0 ≤ n ∧ n < 36))) ∧ w = w' := by
  by_cases h0 : 0 ≤ n
  · by_cases h1 : n < 36
    · rw [decide_eq_true (show 0 ≤ n ∧ n < 36 from ⟨h0, h1⟩)]
      go_enter Tryz.func26, Tryz.ntmps26
      go_wp2_with fail
      go_ret
      exact ⟨rfl, rfl⟩
    · rw [decide_eq_false (show ¬ (0 ≤ n ∧ n < 36) by omega)]
      go_enter Tryz.func26, Tryz.ntmps26
      go_wp2_with fail
      go_ret
      exact ⟨rfl, rfl⟩
  · rw [decide_eq_false (show ¬ (0 ≤ n ∧ n < 36) by omega)]
    go_enter Tryz.func26, Tryz.ntmps26
    go_wp2_with fail
    go_ret
    exact ⟨rfl, rfl⟩
end Go.Proofs.YtdddennhdbmolaaGreat
