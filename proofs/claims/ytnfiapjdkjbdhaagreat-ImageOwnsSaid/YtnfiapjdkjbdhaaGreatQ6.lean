import Derived.Test.YtnfiapjdkjbdhaaGreatQ5
import Derived.Maps.AppendAt
import Derived.RangeFuncBox
namespace Go.Proofs.YtnfiapjdkjbdhaaGreat
open Go.RowKit Go.Maps Go.Shelf
set_option linter.unusedVariables false
set_option linter.unusedSimpArgs false
set_option maxRecDepth 10000
attribute [local go_sem] Oper.semAt_some
def intAppend (args : Array Value) : Sem Value := Builtin.append_ #[206, 206] 206 args
@[go_sem ↓] theorem int_append_fold (args : Array Value) : Builtin.append_ #[206, 206] 206 args = intAppend args := rfl
abbrev encI (i : Nat) : Value := .int .i64 (i : Int)
structure LooseI (S : Nat → Prop) (w : World) (b g c m Bl p : Nat) (xs : List Nat) (M : Dv) (V : World) : Prop where
  dev : ∃ vals, DevIn S V b g c m vals M
  only : Only (fun k => k = Bl) w V
  row : ∃ v, V.cell? ⟨Bl, 0, none⟩ = some v ∧ V.frozen? ⟨Bl, 0, none⟩ = false ∧ V.ownsRow (w.heap.size + 2) 3 1 v xs.length (xs.map encI) ∧ ∀ k, v.ownBlock = some k → k ≠ p
theorem LooseI.same {S : Nat → Prop} {w : World} {b g c m Bl p : Nat} {xs : List Nat} {M : Dv} {V V' : World} (h : LooseI S w b g c m Bl p xs M V) (hlt : ∀ k, S k → k < w.heap.size) (hB : Bl < w.heap.size)
    (ho : V'.os = V.os) (ht : V'.tape = V.tape) (hu : V'.output = V.output) (hs : V.heap.size ≤ V'.heap.size) (hk : ∀ k, k < V.heap.size → k ≠ w.heap.size → k ≠ w.heap.size + 1 → V'.heap[k]? = V.heap[k]?) : LooseI S w b g c m Bl p xs M V' := by
  obtain ⟨⟨vals, hd⟩, hO, v, hc, hf, hw, hp⟩ := h
  have hsz := hO.size
  refine ⟨⟨vals, hd.kept hs (fun k hS => hk k (hd.lt k hS) (by have := hlt k hS; omega) (by have := hlt k hS; omega))⟩, ⟨ho.trans hO.os, ht.trans hO.tape, hu.trans hO.output, Nat.le_trans hO.size hs, fun k hkl hn => (hk k (by omega) (by omega) (by omega)).trans (hO.block k hkl hn)⟩,
    v, (cell_same 0 (hk Bl (by omega) (by omega) (by omega))).trans hc, (World.frozen?_of_block (a := ⟨Bl, 0, none⟩) (hk Bl (by omega) (by omega) (by omega))).trans hf, ?_, hp⟩
  refine ⟨hw.1, ?_⟩
  rcases hw.2 with h0 | ⟨g', cap, cur, hv, hb, hg, hr⟩
  · exact .inl h0
  · exact .inr ⟨g', cap, cur, hv, hb, (hk g' (Array.getElem?_eq_some_iff.1 hg).1 (by omega) (by omega)).trans hg, hr⟩
theorem LooseI.put {S : Nat → Prop} {w : World} {b g c m Bl p : Nat} {xs : List Nat} {M : Dv} {V : World} (h : LooseI S w b g c m Bl p xs M V) (hlt : ∀ k, S k → k < w.heap.size) (hB : Bl < w.heap.size) (l : Nat) (o : Obj) (h1 : w.heap.size ≤ l) (h2 : l ≤ w.heap.size + 1) : LooseI S w b g c m Bl p xs M (V.putObj l o) :=
  h.same hlt hB rfl rfl rfl (by simp) (fun k _ h3 h4 => World.putObj_heap_other (by omega))
theorem LooseI.below {S : Nat → Prop} {w : World} {b g c m Bl p : Nat} {xs : List Nat} {M : Dv} {V V' : World} (h : LooseI S w b g c m Bl p xs M V) (hlt : ∀ k, S k → k < w.heap.size) (hB : Bl < w.heap.size) (hb : Below V.heap.size V V') : LooseI S w b g c m Bl p xs M V' :=
  h.same hlt hB hb.os hb.tape hb.output hb.size (fun k hk _ _ => hb.block k hk)
end Go.Proofs.YtnfiapjdkjbdhaaGreat
/- Layer 9 (bmap): all blocks that an inode has, one by one. -/
namespace Go.Proofs.YtnfiapjdkjbdhaaGreat
open Go.RowKit Go.Maps Go.Sort Go.Shelf Go.Lib
set_option linter.unusedVariables false
set_option linter.unusedSimpArgs false
set_option maxRecDepth 10000
attribute [local go_sem] Oper.semAt_some
def nzL : Nat → List Nat → List (Nat × Nat)
  | _, [] => []
  | a, b :: r => if b = 0 then nzL (a + 1) r else (a, b) :: nzL (a + 1) r
theorem nzL_cons (a b : Nat) (r : List Nat) : nzL a (b :: r) = if b = 0 then nzL (a + 1) r else (a, b) :: nzL (a + 1) r := rfl
theorem nzL_append (a : Nat) (l r : List Nat) : nzL a (l ++ r) = nzL a l ++ nzL (a + l.length) r := by
  induction l generalizing a with
  | nil => rfl
  | cons b l ih =>
    rw [List.cons_append, nzL_cons, nzL_cons, ih, List.length_cons, show a + 1 + l.length = a + (l.length + 1) by omega]
    split
    · rfl
    · rfl
theorem nzL_filter (a p : Nat) (l : List Nat) : ((nzL a l).filter fun q => decide (p ≤ q.1)).map (·.2) = (l.drop (p - a)).filter fun b => b != 0 := by
  induction l generalizing a with
  | nil => simp [nzL]
  | cons b l ih =>
    rw [nzL_cons]
    by_cases hb : b = 0
    · subst hb
      rw [if_pos rfl, ih]
      by_cases hp : p ≤ a
      · rw [show p - (a + 1) = 0 by omega, show p - a = 0 by omega]; simp
      · rw [show p - a = (p - (a + 1)) + 1 by omega, List.drop_succ_cons]
    · rw [if_neg hb]
      by_cases hp : p ≤ a
      · rw [List.filter_cons_of_pos (by simpa using hp), List.map_cons, ih, show p - (a + 1) = 0 by omega, show p - a = 0 by omega]
        simp [hb]
      · rw [List.filter_cons_of_neg (by simpa using hp), ih, show p - a = (p - (a + 1)) + 1 by omega, List.drop_succ_cons]
theorem nzL_length (a : Nat) (l : List Nat) : (nzL a l).length ≤ l.length := by
  induction l generalizing a with
  | nil => exact Nat.le_refl _
  | cons b l ih =>
    have := ih (a + 1)
    rw [nzL_cons]
    split
    · rw [List.length_cons]; omega
    · rw [List.length_cons, List.length_cons]; omega
theorem nzL_take {l : List Nat} {k : Nat} (hk : k < l.length) : nzL 0 (l.take (k + 1)) = nzL 0 (l.take k) ++ if l[k] = 0 then [] else [(k, l[k])] := by
  rw [List.take_succ_eq_append_getElem hk, nzL_append, List.length_take, Nat.min_eq_left (by omega), Nat.zero_add]
  congr 1
def Im.dir (x : Im) : List Nat := [x.d0, x.d1, x.d2, x.d3]
def prL (x : Im) (l : List Nat) : List (Nat × Nat) := nzL 0 (x.dir ++ l) ++ if x.i = 0 then [] else [(4, x.i)]
def spareL (x : Im) (l : List Nat) (p : Nat) : List Nat := ((x.dir ++ l).drop p).filter (fun b => b != 0) ++ if x.i = 0 ∨ 4 < p then [] else [x.i]
theorem prL_spare (x : Im) (l : List Nat) (p : Nat) : ((prL x l).filter fun q => decide (p ≤ q.1)).map (·.2) = spareL x l p := by
  unfold prL spareL
  rw [List.filter_append, List.map_append, nzL_filter, Nat.sub_zero]
  congr 1
  by_cases hi : x.i = 0
  · rw [if_pos hi, if_pos (.inl hi)]; rfl
  · rw [if_neg hi]
    by_cases hp : p ≤ 4
    · rw [if_neg (by omega), List.filter_cons_of_pos (by simpa using hp)]; rfl
    · rw [if_pos (.inr (by omega)), List.filter_cons_of_neg (by simpa using hp)]; rfl
def InoAt (W : World) (g : Nat) (x : Im) : Prop := W.heap[g]? = some (.cells #[.int .u8 x.k, w16 x.n, .int .u32 x.z, w16 x.d0, w16 x.d1, w16 x.d2, w16 x.d3, w16 x.i] 41 (0, 0))
theorem InoAt.lt {W : World} {g : Nat} {x : Im} (h : InoAt W g x) : g < W.heap.size := (Array.getElem?_eq_some_iff.1 h).1
theorem InoAt.below {W W' : World} {g n : Nat} {x : Im} (h : InoAt W g x) (hb : Below n W W') (hg : g < n) : InoAt W' g x := (hb.block g hg).trans h
theorem InoAt.dirs {W : World} {g : Nat} {x : Im} (h : InoAt W g x) : U16s W (.slice (some ⟨g, 3, none⟩) 4 4) x.dir := by
  refine ⟨_, _, rfl, fun j n hj => ⟨_, rfl, ?_⟩⟩
  match j, hj with
  | 0, hj => cases hj; exact cell_of_row W g 3 _ _ _ h
  | 1, hj => cases hj; exact cell_of_row W g 4 _ _ _ h
  | 2, hj => cases hj; exact cell_of_row W g 5 _ _ _ h
  | 3, hj => cases hj; exact cell_of_row W g 6 _ _ _ h
theorem blocks_cat (W : World) (x : Im) (l : List Nat) (B C : Nat) (hx : InoAt W B x) (hl : LisAt W C l) :
    Calls Tryz.prog 196 #[.slice (some ⟨W.heap.size, 0, none⟩) 2 2] (W.alloc (.cells #[.slice (some ⟨B, 3, none⟩) 4 4, .slice (some ⟨C, 0, none⟩) 32 32] 75)).drew
      fun e w' => ∃ c, e = .returned (.slice (some ⟨W.heap.size + 1, 0, none⟩) 36 c) ∧ U16s w' (.slice (some ⟨W.heap.size + 1, 0, none⟩) 36 c) (x.dir ++ l) ∧ Below W.heap.size W w' := by
  have h1 := heap_alloc_new W (.cells #[.slice (some ⟨B, 3, none⟩) 4 4, .slice (some ⟨C, 0, none⟩) 32 32] 75)
  have hb : Below W.heap.size W (W.alloc (.cells #[.slice (some ⟨B, 3, none⟩) 4 4, .slice (some ⟨C, 0, none⟩) 32 32] 75)) := (Below.refl _ W).alloc (Nat.le_refl _) _
  have hx2 := hx.dirs.below hb
  have hl2 := hl.u16s.below hb
  have hsz : (W.alloc (.cells #[.slice (some ⟨B, 3, none⟩) 4 4, .slice (some ⟨C, 0, none⟩) 32 32] 75)).heap.size = W.heap.size + 1 := by simp
  generalize (W.alloc (.cells #[.slice (some ⟨B, 3, none⟩) 4 4, .slice (some ⟨C, 0, none⟩) 32 32] 75)) = V at *
  have hflat : (List.flatMap (·.2) [(Value.slice (some ⟨B, 3, none⟩) 4 4, x.dir), (.slice (some ⟨C, 0, none⟩) 32 32, l)]) = x.dir ++ l := by simp [List.flatMap_cons]
  have hlen : (x.dir ++ l).length = 36 := by rw [List.length_append, hl.2]; rfl
  refine (concat_any [(.slice (some ⟨B, 3, none⟩) 4 4, x.dir), (.slice (some ⟨C, 0, none⟩) 32 32, l)] W.heap.size 2 V.drew ?_ (by simp) ?_ (by rw [hflat]; omega)).mono ?_
  · intro j v l' hj
    match j, hj with
    | 0, hj =>
      cases hj
      exact ⟨cell_of_row V _ 0 _ _ _ h1, hx2, fun m c' e => by cases e⟩
    | 1, hj =>
      cases hj
      exact ⟨cell_of_row V _ 1 _ _ _ h1, hl2, fun m c' e => by cases e⟩
  · intro p hp
    rcases List.mem_cons.1 hp with rfl | hp
    · show (4 : Nat) ≤ 100; omega
    rcases List.mem_cons.1 hp with rfl | hp
    · show l.length ≤ 100; rw [hl.2]; omega
    cases hp
  · rintro e w' ⟨c2, rfl, hu, hb2⟩
    rw [hflat, hlen, show V.drew.heap.size = W.heap.size + 1 from hsz] at hu
    rw [hflat, hlen, show V.drew.heap.size = W.heap.size + 1 from hsz]
    exact ⟨c2, rfl, hu, hb.trans ((below_of_drew hb2).mono hb.size)⟩
end Go.Proofs.YtnfiapjdkjbdhaaGreat
/- Layer 9 (bmap): the iterator over all blocks. -/
namespace Go.Proofs.YtnfiapjdkjbdhaaGreat
open Go.RowKit Go.Maps Go.Sort Go.Shelf Go.Lib
set_option linter.unusedVariables false
set_option linter.unusedSimpArgs false
set_option maxRecDepth 10000
attribute [local go_sem] Oper.semAt_some
theorem prL_get {x : Im} {l : List Nat} {k : Nat} (hk : k < (x.dir ++ l).length) (hb : (x.dir ++ l)[k] ≠ 0) : (nzL 0 ((x.dir ++ l).take k)).length < (prL x l).length ∧ (prL x l)[(nzL 0 ((x.dir ++ l).take k)).length]? = some (k, (x.dir ++ l)[k]) := by
  have h1 := nzL_take hk
  rw [if_neg hb] at h1
  have h2 : nzL 0 (x.dir ++ l) = nzL 0 ((x.dir ++ l).take (k + 1)) ++ nzL (0 + ((x.dir ++ l).take (k + 1)).length) ((x.dir ++ l).drop (k + 1)) := by
    rw [← nzL_append, List.take_append_drop]
  have h3 : (prL x l)[(nzL 0 ((x.dir ++ l).take k)).length]? = some (k, (x.dir ++ l)[k]) := by
    unfold prL
    rw [h2, h1, List.append_assoc, List.append_assoc, List.getElem?_append_right (Nat.le_refl _), Nat.sub_self]
    rfl
  exact ⟨(List.getElem?_eq_some_iff.1 h3).1, h3⟩
set_option maxRecDepth 100000 in
set_option maxHeartbeats 2000000 in
theorem blocks_in (lp B C : Nat) (x : Im) (l : List Nat) (hlt : ∀ b ∈ l, b < 65536) (hxf : x.fits) (W : World) (hx : InoAt W B x) (hl : LisAt W C l)
    (J : Nat → Nat → World → Prop) (hJd : ∀ p j V, J p j V → InoAt V B x)
    (hstart : ∀ p W', Below W.heap.size W W' → W.heap.size ≤ p → p < W'.heap.size → J p 0 W')
    (hround : ∀ p j (hj : j < (prL x l).length) W1, J p j W1 → YieldAt Fence.wide 6 Tryz.prog lp #[.int .i64 (((prL x l)[j]).1 : Int), w16 ((prL x l)[j]).2] W1 fun e W' => e = .returned (.bool true) ∧ J p (j + 1) W' ∧ W'.heap[p]? = W1.heap[p]?) :
    CallsIn Fence.wide 7 Tryz.prog 228 #[.func (.yield lp) #[] #[], .pointer (some ⟨B, 0, none⟩), .pointer (some ⟨C, 0, none⟩)] W fun e W' => (∃ v, e = .returned v) ∧ ∃ p, J p (prL x l).length W' := by
  have HC := Lib.hid (blocks_cat W x l B C hx hl)
  have h36 : (x.dir ++ l).length = 36 := by rw [List.length_append, hl.2]; rfl
  have HR := Lib.hid hround
  have HJ := Lib.hid hJd
  have HST := Lib.hid hstart
  clear hround hJd hstart hl
  refine callsIn_of_wp Tryz.func228 rfl trivial ?_ rfl
  simp only [Tryz.ntmps228, List.size_toArray, List.length_cons, List.length_nil, Nat.reduceAdd, Nat.reduceSub, Array.replicate_succ, Array.replicate_zero, List.push_toArray, List.append_toArray, List.nil_append, List.cons_append]
  gi_wp2_with fail
  refine wpIn_wide.2 ?_
  go_region_held3 (fun W' => True) (trivial) (first | (go_at_call 196; ((with_reducible refine (HC.out).mono ?_); rintro e w1 ⟨c, rfl, hu, hb⟩; have HU := Lib.hid hu; have HB := Lib.hid hb; clear hu hb)))
  have hsz := HB.out.size
  obtain ⟨A0, c0, hv0, hcell0⟩ := HU.out
  obtain ⟨rfl, -⟩ : A0 = some ⟨W.heap.size + 1, 0, none⟩ ∧ c0 = c := by injection hv0 with e1 e2 e3; exact ⟨e1.symm, e3.symm⟩
  have hcell : ∀ k b, (x.dir ++ l)[k]? = some b → w1.cell? ⟨W.heap.size + 1, k, none⟩ = some (w16 b) := fun k b hb => by
    obtain ⟨a, e, h⟩ := hcell0 k b hb
    cases e
    rwa [addr_add0] at h
  have hp1 : W.heap.size + 1 < w1.heap.size := World.block_lt_of_cell? w1 _ (hcell 0 _ (List.getElem?_eq_getElem (by omega)))
  have hJ0 := HST.out (W.heap.size + 1) w1 HB.out (by omega) hp1
  have Hcell := Lib.hid hcell
  generalize hp : W.heap.size + 1 = p at *
  have hlt2 : ∀ b ∈ x.dir ++ l, b < 65536 := by
    intro b hb
    rcases List.mem_append.1 hb with h | h
    · obtain ⟨-, -, -, h0, h1, h2, h3, h4⟩ := hxf
      simp only [Im.dir, List.mem_cons, List.not_mem_nil, or_false] at h
      rcases h with rfl | rfl | rfl | rfl <;> assumption
    · exact hlt b h
  have HL := Lib.hid hlt2
  have hP : ∀ k b, (x.dir ++ l)[k]? = some b → b ≠ 0 → (prL x l)[(nzL 0 ((x.dir ++ l).take k)).length]? = some (k, b) := fun k b hb hne => by
    obtain ⟨hk, rfl⟩ := List.getElem?_eq_some_iff.1 hb
    exact (prL_get hk hne).2
  have hN : ∀ k b, (x.dir ++ l)[k]? = some b → nzL 0 ((x.dir ++ l).take (k + 1)) = nzL 0 ((x.dir ++ l).take k) ++ if b = 0 then [] else [(k, b)] := fun k b hb => by
    obtain ⟨hk, rfl⟩ := List.getElem?_eq_some_iff.1 hb
    exact nzL_take hk
  have HP := Lib.hid hP
  have HN := Lib.hid hN
  clear hP hN
  clear hcell hcell0 hv0 HC HU HB HST hlt hlt2 hx
  have hend : (nzL 0 ((x.dir ++ l).take 36)).length + (if x.i = 0 then 0 else 1) = (prL x l).length := by
    rw [List.take_of_length_le (by omega)]
    unfold prL
    rw [List.length_append]
    split <;> rfl
  have hlast : x.i ≠ 0 → (prL x l)[(nzL 0 ((x.dir ++ l).take 36)).length]? = some (4, x.i) := fun h => by
    rw [List.take_of_length_le (by omega)]
    unfold prL
    rw [if_neg h, List.getElem?_append_right (Nat.le_refl _), Nat.sub_self]
    rfl
  have HE := Lib.hid hend
  have HLa := Lib.hid hlast
  clear hend hlast
  generalize x.dir ++ l = all at *
  gi_wp2_with fail
  gi_loopw [4, 5, 12] (fun _ _ i wr => ∃ k : Nat, k ≤ 36 ∧ i = .int .i64 k ∧ J p (nzL 0 (all.take k)).length wr ∧ wr.heap[p]? = w1.heap[p]?) (fun _ _ i _ => 36 - (Go.RowKit.intOf i).toNat)
  case atStart => exact ⟨0, Nat.zero_le _, rfl, hJ0, rfl⟩
  case round =>
    obtain ⟨k, hk, rfl, hJk, hpk⟩ := hrel
    by_cases hlt : k < 36
    · obtain ⟨b, hbk⟩ : ∃ b, all[k]? = some b := ⟨_, List.getElem?_eq_getElem (by omega)⟩
      have hcx : wr.cell? ⟨p, k, none⟩ = some (w16 b) := (World.cell?_of_block (a := ⟨p, k, none⟩) hpk).trans (Hcell.out k b hbk)
      have hsucc := HN.out k b hbk
      have hget := HP.out k b hbk
      have hb16 := HL.out b (List.mem_of_getElem? hbk)
      have HPk := Lib.hid hpk
      have HJk := Lib.hid hJk
      clear hpk hJk hbk
      have hI : (k : Int) < 36 := by omega
      by_cases hb : b = 0
      · rw [if_pos hb, List.append_nil] at hsucc
        have HSu := Lib.hid hsucc
        have hne : ((b : Int) != 0) = false := by rw [hb]; rfl
        clear hsucc hget hb
        gi_wp2_with fail
        refine ⟨(fun f h => (by cases h)), ?_⟩
        gi_wp2_with fail
        go_roundw
        case rel => exact ⟨k + 1, by omega, by simp, by rw [HSu.out]; exact HJk.out, HPk.out⟩
        case measure => simp [Go.RowKit.intOf]; omega
      · rw [if_neg hb] at hsucc
        obtain ⟨h1, h3⟩ := List.getElem?_eq_some_iff.1 (hget hb)
        obtain ⟨fn, tmps, assign, body, hy, hR⟩ := HR.out p _ h1 wr HJk.out
        rw [h3] at hy
        have hl2 := congrArg List.length hsucc
        rw [List.length_append] at hl2
        have HSu := Lib.hid hl2
        have hne : ((b : Int) != 0) = true := by simp; omega
        clear hsucc hget h1 h3 hl2
        dsimp only at hy
        gi_wp2_with fail
        refine hR.mono ?_
        rintro e W3 ⟨rfl, hJ3, hk3⟩
        have HJ3 := Lib.hid hJ3
        have HK3 := Lib.hid hk3
        clear hJ3 hk3
        gi_wp2_with fail
        go_roundw
        case rel => exact ⟨k + 1, by omega, by simp, by rw [HSu.out]; exact HJ3.out, HK3.out.trans HPk.out⟩
        case measure => simp [Go.RowKit.intOf]; omega
    · obtain rfl : k = 36 := by omega
      have HJk := Lib.hid hJk
      have hx7 : wr.cell? ⟨B, 7, none⟩ = some (w16 x.i) := cell_of_row wr B 7 _ _ (0, 0) (HJ.out _ _ _ hJk)
      clear hpk hJk
      by_cases hi : x.i = 0
      · have hl := HE.out
        rw [if_pos hi, Nat.add_zero] at hl
        rw [hi] at hx7
        have HEq := Lib.hid hl
        clear hl hi
        gi_wp2_with fail
        go_end0
        exact ⟨⟨_, rfl⟩, p, by rw [← HEq.out]; exact HJk.out⟩
      · have hl := HE.out
        rw [if_neg hi] at hl
        obtain ⟨h1, h3⟩ := List.getElem?_eq_some_iff.1 (HLa.out hi)
        obtain ⟨fn, tmps, assign, body, hy, hR⟩ := HR.out p _ h1 wr HJk.out
        rw [h3] at hy
        have hne : ((x.i : Int) != 0) = true := by simp; omega
        have HEq := Lib.hid hl
        clear hl hi h1 h3
        dsimp only at hy
        rw [show (((4 : Nat) : Nat) : Int) = 4 from rfl] at hy
        gi_wp2_with fail
        refine hR.mono ?_
        rintro e W3 ⟨rfl, hJ3, hk3⟩
        have HJ3 := Lib.hid hJ3
        clear hJ3 hk3
        gi_wp2_with fail
        go_end0
        exact ⟨⟨_, rfl⟩, p, by rw [← HEq.out]; exact HJ3.out⟩
end Go.Proofs.YtnfiapjdkjbdhaaGreat
/- Layer 9 (bmap): what an inode doesn't need. -/
namespace Go.Proofs.YtnfiapjdkjbdhaaGreat
open Go.RowKit Go.Maps Go.Sort Go.Shelf Go.Lib
set_option linter.unusedVariables false
set_option linter.unusedSimpArgs false
set_option maxRecDepth 10000
attribute [local go_sem] Oper.semAt_some
set_option maxHeartbeats 1000000 in
theorem blocks_any9 (x : Im) (l : List Nat) (hl : l.length = 32) (w : World) : Calls Tryz.prog 205 #[x.v, lisV l] w fun e w' => e = .returned (.func (.func 228) #[] #[.pointer (some ⟨w.heap.size, 0, none⟩), .pointer (some ⟨w.heap.size + 1, 0, none⟩)]) ∧
    w' = (w.alloc (.cells #[.int .u8 x.k, w16 x.n, .int .u32 x.z, w16 x.d0, w16 x.d1, w16 x.d2, w16 x.d3, w16 x.i] 41)).alloc (.cells (numV l).toArray 242) := by
  go_enter Tryz.func205, Tryz.ntmps205
  go_wp2_with fail
  go_ret
  exact ⟨rfl, rfl⟩
def GrowI (w : World) (B p : Nat) (t : TypeId) (len : Nat) (cs : List Value) (V : World) : Prop :=
  Only (fun k => k = B) w V ∧ ∃ v, V.cell? ⟨B, 0, none⟩ = some v ∧ V.frozen? ⟨B, 0, none⟩ = false ∧ V.ownsRow (w.heap.size + 2) t 1 v len cs ∧ ∀ k, v.ownBlock = some k → k ≠ p
section
variable {w : World} {B p : Nat} {t : TypeId} {len : Nat} {cs : List Value} {V : World}
theorem GrowI.below {W' : World} (h : GrowI w B p t len cs V) (hB : B < w.heap.size) (hb : Below V.heap.size V W') : GrowI w B p t len cs W' := by
  obtain ⟨h2, v, h3, h4, h5, h6⟩ := h
  have hBv : B < V.heap.size := Nat.lt_of_lt_of_le hB h2.size
  exact ⟨h2.trans (Only.of_below (S := fun k => k = B) hb) (fun _ e => .inl e), v, (cell_same 0 (hb.block B hBv)).trans h3, (World.frozen?_of_block (a := ⟨B, 0, none⟩) (hb.block B hBv)).trans h4,
    h5.kept (grown_of_below hb none) (by cases hv : Value.ownBlock _ <;> simp), h6⟩
theorem GrowI.put (h : GrowI w B p t len cs V) (hB : B < w.heap.size) (l : Nat) (o : Obj) (hl : w.heap.size ≤ l) (hl2 : l ≤ w.heap.size + 1) : GrowI w B p t len cs (V.putObj l o) := by
  obtain ⟨h2, v, h3, h4, h5, h6⟩ := h
  have hk : ∀ k, k ≠ l → (V.putObj l o).heap[k]? = V.heap[k]? := fun k hk => World.putObj_heap_other hk
  refine ⟨⟨h2.os, h2.tape, h2.output, by simpa using h2.size, fun k hkl hS => (hk k (by omega)).trans (h2.block k hkl hS)⟩, v, (cell_same 0 (hk B (by omega))).trans h3, (World.frozen?_of_block (a := ⟨B, 0, none⟩) (hk B (by omega))).trans h4, ?_, h6⟩
  refine h5.kept (row := some l) ⟨rfl, rfl, rfl, by simp, fun k _ hne => hk k (by intro e; subst e; exact hne rfl)⟩ (.inr fun e => ?_)
  have := (h5.lt l e).1
  omega
theorem GrowI.at_ (h : GrowI w B p t len cs V) {k : Nat} (hk : k < w.heap.size) (hB : k ≠ B) : V.heap[k]? = w.heap[k]? := h.1.block k hk hB
end
def numAppend (args : Array Value) : Sem Value := Builtin.append_ #[75, 75] 75 args
theorem num_append_fold (args : Array Value) : Builtin.append_ #[75, 75] 75 args = numAppend args := rfl
attribute [local go_sem ↓] num_append_fold
def freeL (q : Int) (ps : List (Nat × Nat)) : List Nat := (ps.filter fun r => decide (q ≤ (r.1 : Int))).map (·.2)
theorem freeL_succ (q : Int) (ps : List (Nat × Nat)) {j : Nat} (hj : j < ps.length) : freeL q (ps.take (j + 1)) = freeL q (ps.take j) ++ if q ≤ (ps[j].1 : Int) then [ps[j].2] else [] := by
  unfold freeL
  rw [List.take_succ_eq_append_getElem hj, List.filter_append, List.map_append]
  congr 1
  by_cases h : q ≤ (ps[j].1 : Int)
  · rw [if_pos h, List.filter_cons_of_pos (by simpa using h)]; rfl
  · rw [if_neg h, List.filter_cons_of_neg (by simpa using h)]; rfl
theorem freeL_length (q : Int) (ps : List (Nat × Nat)) (j : Nat) : (freeL q (ps.take j)).length ≤ j := by
  unfold freeL
  rw [List.length_map]
  refine Nat.le_trans (List.length_filter_le _ _) ?_
  rw [List.length_take]; omega
theorem prL_length (x : Im) (l : List Nat) (hl : l.length = 32) : (prL x l).length ≤ 37 := by
  unfold prL
  have := nzL_length 0 (x.dir ++ l)
  rw [List.length_append] at this ⊢
  have h4 : x.dir.length = 4 := rfl
  split <;> simp <;> omega
theorem blocks_in' (lp B C : Nat) (x : Im) (l : List Nat) (hlt : ∀ b ∈ l, b < 65536) (hxf : x.fits) (PL : List (Nat × Nat)) (hPL : prL x l = PL) (W : World) (hx : InoAt W B x) (hl : LisAt W C l)
    (J : Nat → Nat → World → Prop) (hJd : ∀ p j V, J p j V → InoAt V B x)
    (hstart : ∀ p W', Below W.heap.size W W' → W.heap.size ≤ p → p < W'.heap.size → J p 0 W')
    (hround : ∀ p j (hj : j < PL.length) W1, J p j W1 → YieldAt Fence.wide 6 Tryz.prog lp #[.int .i64 ((PL[j]).1 : Int), w16 (PL[j]).2] W1 fun e W' => e = .returned (.bool true) ∧ J p (j + 1) W' ∧ W'.heap[p]? = W1.heap[p]?) :
    CallsIn Fence.wide 7 Tryz.prog 228 #[.func (.yield lp) #[] #[], .pointer (some ⟨B, 0, none⟩), .pointer (some ⟨C, 0, none⟩)] W fun e W' => (∃ v, e = .returned v) ∧ ∃ p, J p PL.length W' := by
  subst hPL
  exact blocks_in lp B C x l hlt hxf W hx hl J hJd hstart hround
set_option maxRecDepth 100000 in
set_option maxHeartbeats 4000000 in
theorem spare_any (x : Im) (hxf : x.fits) (l : List Nat) (hl : l.length = 32) (hlt : ∀ b ∈ l, b < 65536) (q : Int) (w : World) :
    Calls Tryz.prog 164 #[x.v, lisV l, .int .i64 q] w fun e w' => ∃ v, e = .returned v ∧ U16s w' v (freeL q (prL x l)) ∧ (∀ k, v.ownBlock = some k → w.heap.size ≤ k) ∧ Below w.heap.size w w' := by
  obtain ⟨PL, hPL⟩ : ∃ PL, prL x l = PL := ⟨_, rfl⟩
  have hN := prL_length x l hl
  rw [hPL] at hN ⊢
  obtain ⟨W4, hW4⟩ : ∃ W4, ((((w.alloc (.cells #[.int .u8 x.k, w16 x.n, .int .u32 x.z, w16 x.d0, w16 x.d1, w16 x.d2, w16 x.d3, w16 x.i] 41)).alloc (.cells (numV l).toArray 242)).alloc (.cells #[.int .i64 q] 3)).alloc (.cells #[.slice none 0 0] 75)) = W4 := ⟨_, rfl⟩
  have hs4 : W4.heap.size = w.heap.size + 4 := by rw [← hW4]; simp
  have hb4 : Below w.heap.size w W4 := by
    rw [← hW4]; exact ((((Below.refl _ w).alloc (Nat.le_refl _) _).alloc (by simp) _).alloc (by simp; omega) _).alloc (by simp; omega) _
  have hlis : LisAt W4 (w.heap.size + 1) l := by
    rw [← hW4]
    refine ⟨?_, hl⟩
    rw [heap_alloc_old _ _ (by simp), heap_alloc_old _ _ (by simp)]
    simpa using heap_alloc_new (w.alloc (.cells #[.int .u8 x.k, w16 x.n, .int .u32 x.z, w16 x.d0, w16 x.d1, w16 x.d2, w16 x.d3, w16 x.i] 41)) (.cells (numV l).toArray 242)
  have hq4 : W4.heap[w.heap.size + 1 + 1]? = some (.cells #[.int .i64 q] 3 (0, 0)) := by
    rw [← hW4, heap_alloc_old _ _ (by simp)]
    simpa using heap_alloc_new ((w.alloc (.cells #[.int .u8 x.k, w16 x.n, .int .u32 x.z, w16 x.d0, w16 x.d1, w16 x.d2, w16 x.d3, w16 x.i] 41)).alloc (.cells (numV l).toArray 242)) (.cells #[.int .i64 q] 3)
  have hf4 : W4.heap[w.heap.size + 1 + 1 + 1]? = some (.cells #[.slice none 0 0] 75 (0, 0)) := by
    rw [← hW4]
    simpa using heap_alloc_new (((w.alloc (.cells #[.int .u8 x.k, w16 x.n, .int .u32 x.z, w16 x.d0, w16 x.d1, w16 x.d2, w16 x.d3, w16 x.i] 41)).alloc (.cells (numV l).toArray 242)).alloc (.cells #[.int .i64 q] 3)) (.cells #[.slice none 0 0] 75)
  have hld := lis_load hlis
  rw [← hW4] at hld
  refine (callsIn_wide (n := 8)).1 ?_
  refine callsIn_of_wp_marks Tryz.func164 rfl trivial ?_ rfl
  simp only [Tryz.ntmps164, List.size_toArray, List.length_cons, List.length_nil, Nat.reduceAdd, Nat.reduceSub, Array.replicate_succ, Array.replicate_zero, List.push_toArray, List.append_toArray, List.nil_append, List.cons_append]
  have HW4 := Lib.hid hW4
  clear hW4
  gi_wp2_with fail
  refine ⟨trivial, (callsIn_wide.2 (blocks_any9 x l hl _)).mono ?_⟩
  rintro e w2 ⟨rfl, rfl⟩
  rw [HW4.out]
  clear hld HW4 hlis
  gi_wp2_with fail
  obtain ⟨W0, hW0⟩ : ∃ W0, (W4.alloc (.cells #[.int .u8 x.k, w16 x.n, .int .u32 x.z, w16 x.d0, w16 x.d1, w16 x.d2, w16 x.d3, w16 x.i] 41)).alloc (.cells (numV l).toArray 242) = W0 := ⟨_, rfl⟩
  have hs0 : W0.heap.size = w.heap.size + 6 := by rw [← hW0]; simp; omega
  have hB40 : Below W4.heap.size W4 W0 := by rw [← hW0]; exact ((Below.refl _ W4).alloc (Nat.le_refl _) _).alloc (by simp) _
  have hB0 : Below w.heap.size w W0 := hb4.trans (hB40.mono (by omega))
  have hx0 : InoAt W0 (w.heap.size + 4) x := by
    rw [← hW0, ← hs4]; exact (heap_two W4 _ _).1
  have hl0 : LisAt W0 (w.heap.size + 4 + 1) l := by
    rw [← hW0, ← hs4]; exact ⟨(heap_two W4 _ _).2, hl⟩
  have hq0 : W0.heap[w.heap.size + 1 + 1]? = some (.cells #[.int .i64 q] 3 (0, 0)) := (hB40.block _ (by omega)).trans hq4
  have hf0 : W0.heap[w.heap.size + 1 + 1 + 1]? = some (.cells #[.slice none 0 0] 75 (0, 0)) := (hB40.block _ (by omega)).trans hf4
  rw [hW0]
  clear hW0 hB40 hb4 hq4 hf4
  have hBk : w.heap.size + 1 + 1 + 1 < W0.heap.size := by omega
  have h00 : ∀ p, GrowI W0 (w.heap.size + 1 + 1 + 1) p 38 0 [] W0 := fun p => ⟨Only.refl _ _, .slice none 0 0, cell_of_row _ _ 0 _ _ _ hf0, frozen_of_row _ _ 0 _ _ hf0, World.ownsRow_nil _ _ _ _, fun k hk => by cases hk⟩
  have hboxx : ∀ (p len : Nat) (cs : List Value) (V : World), GrowI W0 (w.heap.size + 1 + 1 + 1) p 38 len cs V → InoAt V (w.heap.size + 4) x := fun p len cs V h => (h.at_ (by omega) (by omega)).trans hx0
  have hboxl : ∀ (p len : Nat) (cs : List Value) (V : World), GrowI W0 (w.heap.size + 1 + 1 + 1) p 38 len cs V → LisAt V (w.heap.size + 4 + 1) l := fun p len cs V h => ⟨(h.at_ (by omega) (by omega)).trans hl0.1, hl⟩
  have hboxq : ∀ (p len : Nat) (cs : List Value) (V : World), GrowI W0 (w.heap.size + 1 + 1 + 1) p 38 len cs V → V.cell? ⟨w.heap.size + 1 + 1, 0, none⟩ = some (.int .i64 q) := fun p len cs V h => cell_of_row V _ 0 _ _ _ ((h.at_ (by omega) (by omega)).trans hq0)
  have HX := Lib.hid hboxx
  have HLb := Lib.hid hboxl
  have HQ := Lib.hid hboxq
  have hit := fun (lp : Nat) (W : World) (hx : InoAt W (w.heap.size + 4) x) (hl : LisAt W (w.heap.size + 4 + 1) l) J h1 h2 h3 => blocks_in' lp (w.heap.size + 4) (w.heap.size + 4 + 1) x l hlt hxf PL hPL W hx hl J h1 h2 h3
  have HIt := Lib.hid hit
  clear hPL hit hboxx hboxl hboxq hx0 hl0 hq0 hf0 hxf hlt
  refine range_told (n := 8) (by decide) (gf := 228) (lb := #[.pointer (some ⟨w.heap.size + 4, 0, none⟩), .pointer (some ⟨w.heap.size + 4 + 1, 0, none⟩)]) rfl (enters_of Tryz.func228 (by kernel_rfl) rfl) PL.length
    (fun j args V => args = #[.int .i64 ((PL.getD j (0, 0)).1 : Int), w16 (PL.getD j (0, 0)).2])
    (fun p j V => GrowI W0 (w.heap.size + 1 + 1 + 1) p 38 (freeL q (PL.take j)).length (numV (freeL q (PL.take j))) V) ?hit ?h0 ?hput
    (fun p j a' V => GrowI W0 (w.heap.size + 1 + 1 + 1) p 38 (freeL q (PL.take j)).length (numV (freeL q (PL.take j))) V ∧ a' = { tmps := #[x.v, lisV l, .int .i64 q, .pointer (some ⟨w.heap.size, 0, none⟩), .pointer (some ⟨w.heap.size + 1, 0, none⟩), .pointer (some ⟨w.heap.size + 1 + 1, 0, none⟩), .slice none 0 0, .pointer (some ⟨w.heap.size + 1 + 1 + 1, 0, none⟩), .int .i64 ((PL.getD j (0, 0)).1 : Int), w16 (PL.getD j (0, 0)).2, x.v, lisV l, .func (.func 228) #[] #[.pointer (some ⟨w.heap.size + 4, 0, none⟩), .pointer (some ⟨w.heap.size + 4 + 1, 0, none⟩)], .int .i64 ((PL.getD j (0, 0)).1 : Int), w16 (PL.getD j (0, 0)).2, undef, undef, undef, undef, undef, undef, undef, undef], defers := [] }) ?hAx ?hassign ?hbody ?hdone
  case hit =>
    intro lp J V hJI hst hrd hb
    have hG := (h00 0).below hBk hb
    exact HIt.out lp V (HX.out _ _ _ V hG) (HLb.out _ _ _ V hG) J (fun p j V' hJ => HX.out _ _ _ V' (hJI p j V' hJ)) hst (fun p j hj V' hJ => by
      have := hrd p j hj #[.int .i64 (PL[j].1 : Int), w16 PL[j].2] V' hJ (by rw [List.getD_eq_getElem?_getD, List.getElem?_eq_getElem hj]; rfl)
      exact this)
  case h0 =>
    intro p V hb _ _
    exact (h00 p).below hBk hb
  case hput =>
    intro p j V l o hl hl2 h
    exact h.put hBk l o hl hl2
  case hAx =>
    rintro p j a' V l o hl hl2 ⟨hD, rfl⟩
    exact ⟨hD.put hBk l o hl hl2, rfl⟩
  case hassign =>
    rintro lp p j args V hj hp1 hp2 hD rfl
    refine ⟨rfl, ?_⟩
    have HD := Lib.hid hD
    clear hD
    generalize PL.getD j (0, 0) = r
    gi_wp2_with fail
    exact ⟨KeepB.refl _ _ _, HD.out, trivial⟩
  case hbody =>
    rintro lp p j a' V hj hp1 hp2 ⟨hD, rfl⟩
    have hcq := HQ.out _ _ _ V hD
    have hts := freeL_succ q PL hj
    have hfl := freeL_length q PL j
    rw [show PL.getD j (0, 0) = PL[j] by rw [List.getD_eq_getElem?_getD, List.getElem?_eq_getElem hj]; rfl]
    have HT := Lib.hid hts
    clear hts
    generalize PL[j] = r at *
    obtain ⟨a, b⟩ := r
    simp only at HT
    generalize freeL q (PL.take j) = xs at *
    by_cases hqa : q ≤ (a : Int)
    · have ht2 := HT.out
      rw [if_pos hqa] at ht2
      have HT2 := Lib.hid ht2
      clear ht2 HT
      obtain ⟨ho, v, hc, hf, hw, hp⟩ := hD
      have hsz := ho.size
      obtain ⟨i, hi, hz, hsi, hby⟩ := info_parts num16Info
      obtain ⟨v', W2, hap, hown, hg, _, hor⟩ := run_append_own_at (P := Tryz.prog) (w := V.alloc (.cells #[w16 b] 38)) (W0.heap.size + 2) 75 75 38 i _ 1 2 Tryz.underlying75 hi hz hsi hby rfl (by decide) v xs.length _ (hw.alloc _) ⟨V.heap.size, 0, none⟩ 1 1 [w16 b] rfl (cell_one_new _ _ _) (by intro u hu; simp at hu; subst hu; rfl) (by unfold maxLen; omega) (by omega) (by simp; omega)
      obtain ⟨g', cap', rfl⟩ := ownsRow_succ hown
      have hvb : ∀ k, v.ownBlock = some k → W0.heap.size + 2 ≤ k ∧ k < V.heap.size := fun k hk => hw.lt k hk
      have hsz2 : V.heap.size + 1 ≤ W2.heap.size := by have := hg.size; simpa using this
      have hkeep : ∀ k, k < V.heap.size → v.ownBlock ≠ some k → W2.heap[k]? = V.heap[k]? := fun k hk hne => (hg.block k (by simp; omega) (fun e => hne e.symm)).trans (Below.heap_alloc V _ k hk)
      have hlow : ∀ k, k < W0.heap.size + 2 → W2.heap[k]? = V.heap[k]? := by
        intro k hk
        by_cases hkv : k < V.heap.size
        · exact hkeep k hkv (fun e => by have := hvb k e; omega)
        · exfalso; omega
      have hc2 : W2.cell? ⟨w.heap.size + 1 + 1 + 1, 0, none⟩ = some v := (cell_same 0 (hlow _ (by omega))).trans hc
      have hf2 : W2.frozen? ⟨w.heap.size + 1 + 1 + 1, 0, none⟩ = false := (World.frozen?_of_block (a := ⟨w.heap.size + 1 + 1 + 1, 0, none⟩) (hlow (w.heap.size + 1 + 1 + 1) (by omega))).trans hf
      have hset : ∀ k, k ≠ w.heap.size + 1 + 1 + 1 → (W2.setCell ⟨w.heap.size + 1 + 1 + 1, 0, none⟩ (.slice (some ⟨g', 0, none⟩) (xs.length + 1) cap')).heap[k]? = W2.heap[k]? := fun k hk => set_other _ _ _ _ _ hk
      have hfin : KeepB W0.heap.size p V (W2.setCell ⟨w.heap.size + 1 + 1 + 1, 0, none⟩ (.slice (some ⟨g', 0, none⟩) (xs.length + 1) cap')) ∧ GrowI W0 (w.heap.size + 1 + 1 + 1) p 38 (xs.length + 1) (numV xs ++ [w16 b]) (W2.setCell ⟨w.heap.size + 1 + 1 + 1, 0, none⟩ (.slice (some ⟨g', 0, none⟩) (xs.length + 1) cap')) := by
        refine ⟨⟨?_, ?_, ?_⟩, ?_, _, set_here _ hc2, by rw [World.frozen?_setCell]; exact hf2, ?_, ?_⟩
        · rw [hset _ (by omega)]; exact hlow _ (by omega)
        · rw [hset _ (by omega)]; exact hlow _ (by omega)
        · rw [hset _ (by omega)]; exact hkeep p hp2 (fun e => hp p e rfl)
        · refine ⟨hg.os.trans ho.os, hg.tape.trans ho.tape, hg.output.trans ho.output, by rw [set_size]; omega, fun k hk hn => ?_⟩
          rw [hset k hn, hlow k (by omega)]
          exact ho.block k hk hn
        · exact ownsRow_setCell_below hown (by show w.heap.size + 1 + 1 + 1 < _; omega) _
        · intro k hk
          rcases hor with e | e
          · rw [e] at hk; exact hp k hk
          · rw [e] at hk; cases hk; simp; omega
      have HF := Lib.hid hfin
      have hde : decide (q ≤ (a : Int)) = true := decide_eq_true hqa
      clear hfin hkeep hlow hset hvb hown hg hor hw hp ho hqa
      change (numAppend #[v, .slice (some ⟨V.heap.size, 0, none⟩) 1 1]).run Tryz.prog _ = _ at hap
      gi_wp2_with fail
      exact ⟨HF.out.1, by rw [HT2.out, numV_append, List.length_append]; exact HF.out.2⟩
    · have ht2 := HT.out
      rw [if_neg hqa, List.append_nil] at ht2
      have HT2 := Lib.hid ht2
      have HD := Lib.hid hD
      have hde : decide (q ≤ (a : Int)) = false := decide_eq_false hqa
      clear ht2 HT hD hqa
      gi_wp2_with fail
      exact ⟨KeepB.refl _ _ _, by rw [HT2.out]; exact HD.out⟩
  case hdone =>
    intro p V hD hK
    rw [List.take_length] at hD
    obtain ⟨ho2, v, hc, hf, hw, _⟩ := hD
    have hbl : Below w.heap.size W0 V := ho2.below (by omega) (fun k e => by omega)
    have HB := Lib.hid (hB0.trans hbl)
    have HW := Lib.hid hw
    clear hbl ho2 hw
    gi_wp2_with fail
    refine ⟨by simp, .inl ⟨_, _, rfl, run_takeDeferred hK, ?_⟩⟩
    have hne : ∀ k, k ≠ W0.heap.size → (V.putObj W0.heap.size (.deferred none)).heap[k]? = V.heap[k]? := fun k hk => World.putObj_heap_other hk
    refine ⟨_, results_tmp rfl _ _ _, v, rfl, ?_, fun k hk => by have := (HW.out.lt k hk).1; omega, ?_⟩
    · obtain ⟨A, cc, hv, hcells⟩ := u16s_own HW.out
      refine ⟨A, cc, hv, fun j n hu => ?_⟩
      obtain ⟨a, hA, hcell⟩ := hcells j n hu
      refine ⟨a, hA, ?_⟩
      subst hA
      have hgg := (HW.out.lt a.block (by rw [hv]; rfl)).1
      have e := World.cell?_of_block (a := a.add j) (w := V) (w' := V.putObj W0.heap.size (.deferred none)) (by rw [show (a.add j).block = a.block by unfold Addr.add; split <;> rfl]; exact hne _ (by omega))
      exact e.trans hcell
    · refine ⟨HB.out.os, HB.out.tape, HB.out.output, by rw [World.putObj_size]; exact HB.out.size, fun k hk => ?_⟩
      rw [hne k (by omega)]; exact HB.out.block k hk
end Go.Proofs.YtnfiapjdkjbdhaaGreat
/- Layer 2 (crc): More, Sum, Seal, Open. -/
namespace Go.Proofs.YtnfiapjdkjbdhaaGreat
open Go.RowKit
set_option linter.unusedVariables false
set_option linter.unusedSimpArgs false
set_option maxRecDepth 10000
theorem parts_lit (w : World) (t : TypeId) (ps : List (List UInt8)) : Parts (w.alloc (.cells (ps.map str).toArray t)).heap.size (w.alloc (.cells (ps.map str).toArray t)) (.slice (some ⟨w.heap.size, 0, none⟩) ps.length ps.length) ps := by
  refine ⟨some ⟨w.heap.size, 0, none⟩, ps.length, rfl, fun j p hj => ⟨_, rfl, by simp, ?_⟩⟩
  rw [cell_of_row _ _ j _ t (0, 0) (heap_alloc_new w _)]
  simp [hj]
def sumL (l : List UInt8) : BitVec 32 := ~~~ (crcL 0xffffffff#32 l)
theorem reg_not' (c : BitVec 32) : Value.int .u32 (bits .xor .u32 IntKind.u32.max (c.toNat : Int)) = reg (~~~ c) := by
  have h := reg_xor 0xffffffff#32 c
  have h2 : (IntKind.u32.max : Int) = ((0xffffffff#32 : BitVec 32).toNat : Int) := by decide
  rw [h2, h, ones_all, BitVec.allOnes_xor]
set_option maxHeartbeats 400000 in
theorem sum_any (v : Value) (ps : List (List UInt8)) (w : World) (hps : ps.length ≤ 1048576) (hlen : ∀ p ∈ ps, p.length ≤ 1048576) (hP : Parts w.heap.size w v ps) :
    Calls Tryz.prog 243 #[v] w fun e w' => e = .returned (reg (sumL ps.flatten)) ∧ Below w.heap.size w w' := by
  have hp := process_any 0xffffffff#32 v ps w hps hlen hP
  have Hp := Lib.hid hp
  clear hp
  obtain ⟨A, m, rfl, hc⟩ := hP
  clear hc
  go_enter Tryz.func243, Tryz.ntmps243
  go_wp2_with fail
  refine (Hp.out).mono ?_
  rintro e w1 ⟨rfl, hb1⟩
  go_wp2_with fail
  go_ret
  exact ⟨by rw [reg_not']; rfl, hb1⟩
theorem sealL_eq (l : List UInt8) : leB 4 (sumL l).toNat = sealL l := by
  unfold sealL sumL
  generalize ~~~ (crcL 0xffffffff#32 l) = v
  simp only [leB, four, Nat.div_div_eq_div_mul]
set_option maxHeartbeats 400000 in
theorem seal_any (l : List UInt8) (w : World) (hl : l.length ≤ 1048576) :
    Calls Tryz.prog 222 #[str l] w fun e w' => e = .returned (str (sealL l)) ∧ Below w.heap.size w w' := by
  have hp := fun (v : Value) W => sum_any v [l] W (by simp) (by simpa using hl)
  simp only [List.flatten_cons, List.flatten_nil, List.append_nil] at hp
  have hq := parts_lit w 9 [l]
  have hn := fun W => num_ok (sumL l).toNat 4 W (by have := (sumL l).isLt; omega) (by decide) (by
    have := (sumL l).isLt
    have h2 : (sumL l).toNat / 2 ^ (8 * 4) = 0 := Nat.div_eq_of_lt this
    have h3 : (((sumL l).toNat : Int) / 2 ^ (8 * 4)) = (((sumL l).toNat / 2 ^ (8 * 4) : Nat) : Int) := by simp
    rw [h3, h2]; rfl)
  rw [sealL_eq] at hn
  have Hp := Lib.hid hp
  have Hq := Lib.hid hq
  have Hn := Lib.hid hn
  clear hp hq hn
  have hlt := (sumL l).isLt
  go_enter Tryz.func222, Tryz.ntmps222
  go_wp2_with fail
  refine (Hp.out _ _ Hq.out).mono ?_
  rintro e w1 ⟨rfl, hb1⟩
  go_wp2_with fail
  refine (Hn.out _).mono ?_
  rintro e w2 ⟨rfl, hb2⟩
  go_wp2_with fail
  go_ret
  exact ⟨rfl, chain (((Below.refl _ _).alloc (Nat.le_refl _) _).trans (hb1.mono (by simp))) hb2⟩
set_option maxHeartbeats 400000 in
theorem clone_any (l : List UInt8) (w : World) (hl : l.length ≤ 1048576) :
    Calls Tryz.prog 223 #[str l] w fun e w' => e = .returned (str l) ∧ Below w.heap.size w w' := by
  go_enter Tryz.func223, Tryz.ntmps223
  go_wp2_with fail
  refine (Tryz.stringslite_Clone ⟨l.toArray⟩ _ (by simp [ByteArray.size]; omega)).mono ?_
  rintro e w1 ⟨rfl, hb1⟩
  go_wp2_with fail
  go_ret
  exact ⟨rfl, hb1⟩
set_option maxHeartbeats 400000 in
theorem open_bad (t q : List UInt8) (w : World) (hl : t.length ≤ 1048576) (hq : q.length = 4) (h : q ≠ sealL t) :
    Calls Tryz.prog 190 #[str (t ++ q)] w fun e w' => e = .returned (.tuple #[str [], .int .i64 7]) ∧ Below w.heap.size w w' := by
  have hc := fun (n : Int) (hn : n = (t.length : Int)) W => cut_ok (t ++ q) n t.length W (by simp only [maxLen, List.length_append]; omega) hn (by simp)
  rw [List.take_left, List.drop_left] at hc
  have h1 : (q == sealL t) = false := by simp [h]
  have hl2 : (t ++ q).length = t.length + 4 := by simp [hq]
  have Hc := Lib.hid hc
  clear hc h
  generalize t ++ q = s at hl2 Hc
  go_enter Tryz.func190, Tryz.ntmps190
  go_wp2_with fail
  refine (Hc.out _ (by omega) _).mono ?_
  rintro e w1 ⟨rfl, hb1⟩
  go_wp2_with fail
  refine (seal_any t _ hl).mono ?_
  rintro e w2 ⟨rfl, hb2⟩
  go_wp2_with fail
  go_ret2
  exact ⟨rfl, chain hb1 hb2⟩
set_option maxHeartbeats 400000 in
theorem open_ok (t : List UInt8) (w : World) (hl : t.length ≤ 1048576) :
    Calls Tryz.prog 190 #[str (t ++ sealL t)] w fun e w' => e = .returned (.tuple #[str t, .int .i64 0]) ∧ Below w.heap.size w w' := by
  have hq := sealL_length t
  have hc := fun (n : Int) (hn : n = (t.length : Int)) W => cut_ok (t ++ sealL t) n t.length W (by simp only [maxLen, List.length_append]; omega) hn (by simp)
  rw [List.take_left, List.drop_left] at hc
  have hl2 : (t ++ sealL t).length = t.length + 4 := by simp [hq]
  have hs := fun W => seal_any t W hl
  have Hc := Lib.hid hc
  have Hs := Lib.hid hs
  clear hc hs
  generalize t ++ sealL t = s at hl2 Hc
  generalize sealL t = q at Hc Hs hq
  go_enter Tryz.func190, Tryz.ntmps190
  go_wp2_with fail
  refine (Hc.out _ (by omega) _).mono ?_
  rintro e w1 ⟨rfl, hb1⟩
  go_wp2_with fail
  refine (Hs.out _).mono ?_
  rintro e w2 ⟨rfl, hb2⟩
  go_wp2_with fail
  refine (clone_any t _ hl).mono ?_
  rintro e w3 ⟨rfl, hb3⟩
  go_wp2_with fail
  go_ret2
  exact ⟨rfl, chain (chain hb1 hb2) hb3⟩
end Go.Proofs.YtnfiapjdkjbdhaaGreat
/- Layer 3 (dev): what the laws use: a text as a sector's bytes, lists of ints, a device that is held. -/
namespace Go.Proofs.YtnfiapjdkjbdhaaGreat
open Go.RowKit Go.Maps
set_option linter.unusedVariables false
set_option linter.unusedSimpArgs false
set_option maxRecDepth 10000
theorem make_noughts (k : Nat) (hk : k ≤ 65536) (w : World) :
    (Instr.makeSlice 53 (.int .i64 (k : Int)) (.int .i64 (k : Int))).run Tryz.prog w = .ok (.slice (some ⟨w.heap.size, 0, none⟩) k k) (w.alloc (.cells (byteCells (List.replicate k 0)) 5)) := by
  have hinfo : (Tryz.prog.info? 5).map (fun i => (i.zero, i.size, i.bytes)) = some (some (.int .u8 0), 1, 1) := by kernel_rfl
  obtain ⟨i, hi, hz, hsz, hby⟩ := info_parts hinfo
  have hr := run_make (P := Tryz.prog) w 53 5 i _ Tryz.underlying53 hi hz .i64 .i64 k k (by omega) (by omega) (by rw [hby]; omega) (by omega)
  simp only [Int.toNat_natCast] at hr
  rw [hr, hsz, Nat.mul_one]
  have := made_bytes k
  simp only [Value.cells] at *
  rw [this]
def secOf (s : List UInt8) : List UInt8 := s.take 64 ++ List.replicate (64 - (s.take 64).length) 0
theorem secOf_len (s : List UInt8) : (secOf s).length = 64 := by
  unfold secOf
  rw [List.length_append, List.length_replicate, List.length_take]
  omega
end Go.Proofs.YtnfiapjdkjbdhaaGreat
/- Layer 3 (dev): a device that a call holds; the chapter's examples. -/
namespace Go.Proofs.YtnfiapjdkjbdhaaGreat
open Go.RowKit Go.Maps
set_option linter.unusedVariables false
set_option linter.unusedSimpArgs false
set_option maxRecDepth 10000
structure Keeps (K : Nat → Prop) (w W : World) : Prop where
  lt : ∀ k, K k → k < w.heap.size
  os : W.os = w.os
  tape : W.tape = w.tape
  output : W.output = w.output
  size : w.heap.size ≤ W.heap.size
  same : ∀ k, K k → W.heap[k]? = w.heap[k]?
theorem Keeps.refl {K : Nat → Prop} {w : World} (h : ∀ k, K k → k < w.heap.size) : Keeps K w w := ⟨h, rfl, rfl, rfl, Nat.le_refl _, fun _ _ => rfl⟩
theorem Keeps.trans {K K' : Nat → Prop} {a b c : World} (h : Keeps K a b) (k : Keeps K' b c) (hk : ∀ q, K q → K' q) : Keeps K a c :=
  ⟨h.lt, k.os.trans h.os, k.tape.trans h.tape, k.output.trans h.output, Nat.le_trans h.size k.size, fun q hq => (k.same q (hk q hq)).trans (h.same q hq)⟩
theorem Keeps.below {K : Nat → Prop} {w W W' : World} (h : Keeps K w W) (hb : Below W.heap.size W W') : Keeps K w W' :=
  ⟨h.lt, hb.os.trans h.os, hb.tape.trans h.tape, hb.output.trans h.output, Nat.le_trans h.size hb.size, fun k hk => (hb.block k (Nat.lt_of_lt_of_le (h.lt k hk) h.size)).trans (h.same k hk)⟩
theorem Keeps.only {K S : Nat → Prop} {w W W' : World} (h : Keeps K w W) (ho : Only S W W') (hs : ∀ k, S k → ¬ K k) : Keeps K w W' :=
  ⟨h.lt, ho.os.trans h.os, ho.tape.trans h.tape, ho.output.trans h.output, Nat.le_trans h.size ho.size, fun k hk => (ho.block k (Nat.lt_of_lt_of_le (h.lt k hk) h.size) (fun e => hs k e hk)).trans (h.same k hk)⟩
def All (w : World) (k : Nat) : Prop := k < w.heap.size
theorem Keeps.all {w W : World} (h : Keeps (All w) w W) : Below w.heap.size w W := ⟨h.os, h.tape, h.output, h.size, fun k hk => h.same k hk⟩
theorem Keeps.start (w : World) : Keeps (All w) w w := .refl fun _ h => h
def Held (K : Nat → Prop) (w W : World) (b : Nat) (M : Dv) : Prop := Keeps K w W ∧ ∃ S, DevAt S W b M ∧ ∀ k, S k → ¬ K k
theorem Held.keeps {K : Nat → Prop} {w W : World} {b : Nat} {M : Dv} (h : Held K w W b M) : Keeps K w W := h.1
theorem Held.below {K : Nat → Prop} {w W W' : World} {b : Nat} {M : Dv} (h : Held K w W b M) (hb : Below W.heap.size W W') : Held K w W' b M := by
  obtain ⟨h1, S, h3, h4⟩ := h
  exact ⟨h1.below hb, S, h3.below hb, h4⟩
theorem Held.fine {K : Nat → Prop} {w W : World} {b : Nat} {M : Dv} (h : Held K w W b M) : Fine M := h.2.elim fun _ h => h.1.fine
theorem Held.more {K K' : Nat → Prop} {w W W' : World} {b : Nat} {M : Dv} (h : Held K w W b M) (hb : Below W.heap.size W W') (hk : ∀ k, K' k → K k ∨ (W.heap.size ≤ k ∧ k < W'.heap.size)) : Held K' W' W' b M := by
  obtain ⟨h1, S, h3, h4⟩ := h
  refine ⟨.refl fun k hk' => ?_, S, h3.below hb, fun k hs hk' => ?_⟩
  · rcases hk k hk' with e | e
    · exact Nat.lt_of_lt_of_le (Nat.lt_of_lt_of_le (h1.lt k e) h1.size) hb.size
    · exact e.2
  · rcases hk k hk' with e | e
    · exact h4 k hs e
    · have := h3.lt k hs; omega
theorem calls_step {f : FuncId} {args : Array Value} {W : World} {b : Nat} {M N : Dv} {r : Value} {K : Nat → Prop} {w : World} (h : Held K w W b M) (hc : ∀ S, DevAt S W b M → Calls Tryz.prog f args W fun e w' => e = .returned r ∧ Step S W b N w') :
    Calls Tryz.prog f args W fun e w' => e = .returned r ∧ Held K w w' b N := by
  obtain ⟨h1, S, h3, h4⟩ := h
  refine (hc S h3).mono ?_
  rintro e w' ⟨he, S', hd, ho, hk⟩
  refine ⟨he, h1.only ho h4, S', hd, fun k e hK => ?_⟩
  rcases hk k e with e | e
  · exact h4 k e hK
  · have := h1.lt k hK; have := h1.size; omega
section
variable {K : Nat → Prop} {w W : World} {b : Nat} {M : Dv}
theorem held_write (h : Held K w W b M) (hw : M.wr < 1099511627776) (i : Int) (s : List UInt8) :
    Calls Tryz.prog 77 #[devp b, .int .i64 i, str s] W fun e w' => e = .returned (.int .i64 (M.wroteE i s)) ∧ Held K w w' b (M.wrote i s) :=
  calls_step h fun S hS => write_all hS hw i s
theorem held_flush (h : Held K w W b M) (hd : M.down = false) (hw : M.wr ≤ 1099511627776) :
    Calls Tryz.prog 78 #[devp b] W fun e w' => e = .returned (.int .i64 0) ∧ Held K w w' b M.flush :=
  calls_step h fun S hS => flush_any hS hd hw
theorem held_down (h : Held K w W b M) : Calls Tryz.prog 80 #[devp b] W fun e w' => e = .returned (.bool M.down) ∧ W = w' := by
  obtain ⟨h1, S, h3, h4⟩ := h
  exact downFn_any b _ W (h3.down_cell rfl)
end
theorem Row.kept {w W : World} {v : Value} {xs : List Value} (h : Row w v xs) (hb : ∀ k, v.ownBlock = some k → W.heap[k]? = w.heap[k]?) : Row W v xs := by
  obtain ⟨A, c, rfl, hc⟩ := h
  refine ⟨A, c, rfl, fun j u hu => ?_⟩
  obtain ⟨g, rfl, hcell⟩ := hc j u hu
  exact ⟨g, rfl, (cell_same j (hb g rfl)).trans hcell⟩
end Go.Proofs.YtnfiapjdkjbdhaaGreat
/- Layer 3 (dev): the chapter's examples, walked. -/
namespace Go.Proofs.YtnfiapjdkjbdhaaGreat
open Go.RowKit Go.Maps
set_option linter.unusedVariables false
set_option linter.unusedSimpArgs false
set_option maxRecDepth 10000
end Go.Proofs.YtnfiapjdkjbdhaaGreat
/- Layer 3 (dev): the scripts of the statements. -/
namespace Go.Proofs.YtnfiapjdkjbdhaaGreat
open Go.RowKit Go.Maps
set_option linter.unusedVariables false
set_option linter.unusedSimpArgs false
set_option maxRecDepth 10000
structure St where
  op : Int
  at_ : Int
  num : Int
  s : List UInt8
  raw : Bool
deriving Inhabited
def St.text (x : St) : List UInt8 := if x.raw then x.s else secOf x.s
def St.val (x : St) : Value := .agg #[.int .i64 x.op, .int .i64 x.at_, .int .i64 x.num, str x.s, .bool x.raw]
def behind (a : Addr) (k q : Nat) : Addr := ⟨(a.add k).block, (a.add k).off + q, none⟩
theorem behind_add (a : Addr) (k q : Nat) (hq : q ≠ 0) : a.add (k + q) = behind a k q := by
  unfold behind Addr.add
  rw [if_neg (by omega)]
  by_cases h : k = 0
  · subst h; simp
  · simp [h]; omega
end Go.Proofs.YtnfiapjdkjbdhaaGreat
/- Layer 3 (dev): texts in a row; a fuse's writes. -/
namespace Go.Proofs.YtnfiapjdkjbdhaaGreat
open Go.RowKit Go.Maps
set_option linter.unusedVariables false
set_option linter.unusedSimpArgs false
set_option maxRecDepth 10000
section
variable {K : Nat → Prop} {w W : World} {b : Nat} {M : Dv}
end
structure FuseI (n k : Nat) (M : Dv) : Prop where
  n8 : M.n = 8
  wr : M.wr = min k n
  down : M.down = decide (n ≤ k)
  left : k < n → M.left = n - k
theorem FuseI.start (n : Nat) : FuseI n 0 ((dev0 8).fuse n) := by
  refine ⟨rfl, by simp [Dv.fuse, dev0], ?_, fun _ => rfl⟩
  cases n <;> simp [Dv.fuse, dev0]
theorem FuseI.next {n k : Nat} {M : Dv} (h : FuseI n k M) (i : Nat) (hi : i < 8) (s : List UInt8) :
    FuseI n (k + 1) (M.wrote (i : Int) (secOf s)) ∧ M.wroteE (i : Int) (secOf s) = if k < n then 0 else 30 := by
  have hd := h.down
  by_cases hk : k < n
  · have hd : M.down = false := by rw [hd]; simpa using hk
    have hc : M.canWrite (i : Int) (secOf s) = true := by
      unfold Dv.canWrite
      rw [hd, h.n8, secOf_len]
      simp; omega
    unfold Dv.wrote Dv.wroteE
    rw [hc, hd, if_pos rfl, if_neg (by simp), if_pos rfl, if_pos hk]
    refine ⟨⟨h.n8, ?_, ?_, ?_⟩, rfl⟩
    · show M.wr + 1 = _
      rw [h.wr]; omega
    · show (M.down || M.left == 1) = _
      rw [hd, h.left hk, Bool.false_or]
      have : (n - k == 1) = decide (n - k = 1) := rfl
      rw [this]
      exact decide_eq_decide.2 (by omega)
    · intro hk1
      show M.left - 1 = _
      rw [h.left hk]; omega
  · have hd : M.down = true := by rw [hd]; simpa using hk
    have hc : M.canWrite (i : Int) (secOf s) = false := by
      unfold Dv.canWrite
      rw [hd]; simp
    unfold Dv.wrote Dv.wroteE
    rw [hc, hd, if_neg (by simp), if_pos rfl, if_neg hk]
    exact ⟨⟨h.n8, by rw [h.wr]; omega, by rw [hd]; simp; omega, fun hx => by omega⟩, rfl⟩
end Go.Proofs.YtnfiapjdkjbdhaaGreat
/- Layer 3 (dev): what stays while no fuse is set. -/
namespace Go.Proofs.YtnfiapjdkjbdhaaGreat
open Go.RowKit Go.Maps
set_option linter.unusedVariables false
set_option linter.unusedSimpArgs false
set_option maxRecDepth 10000
structure LastI (k : Nat) (M : Dv) : Prop where
  n : M.n = 16
  down : M.down = false
  left : M.left = 0
  wr : M.wr ≤ k
theorem LastI.start : LastI 0 (dev0 16) := ⟨rfl, rfl, rfl, Nat.le_refl _⟩
theorem cur_write (M : Dv) (i : Nat) (s : List UInt8) (j : Nat) : (M.write i s).cur j = if j = i then s else M.cur j := by
  unfold Dv.cur Dv.write
  by_cases h : j = i
  · subst h; simp
  · simp [upd_other _ _ h, h]
theorem LastI.wrote {k : Nat} {M : Dv} (h : LastI k M) (i : Int) (s : List UInt8) : LastI (k + 1) (M.wrote i s) := by
  unfold Dv.wrote
  split
  · exact ⟨h.n, by show (M.down || M.left == 1) = false; rw [h.down, h.left]; rfl, by show M.left - 1 = 0; rw [h.left], by show M.wr + 1 ≤ _; have := h.wr; omega⟩
  · exact ⟨h.n, h.down, h.left, Nat.le_succ_of_le h.wr⟩
theorem LastI.flush {k : Nat} {M : Dv} (h : LastI k M) : LastI (k + 1) M.flush := ⟨h.n, h.down, h.left, Nat.le_succ_of_le h.wr⟩
theorem LastI.next {k : Nat} {M : Dv} (h : LastI k M) : LastI (k + 1) M := ⟨h.n, h.down, h.left, Nat.le_succ_of_le h.wr⟩
end Go.Proofs.YtnfiapjdkjbdhaaGreat
/- Layer 4 (journal): heads, bodies, and what is left of a commit, as mathematics. -/
namespace Go.Proofs.YtnfiapjdkjbdhaaGreat
open Go.RowKit Go.Maps
set_option linter.unusedVariables false
set_option linter.unusedSimpArgs false
set_option maxRecDepth 10000
abbrev PutL := List (Nat × List UInt8)
/-! Heads. -/
def headT (g st c : Nat) : List UInt8 := leB 8 g ++ leB 1 st ++ leB 2 c ++ List.replicate 49 0
def headL (g st c : Nat) : List UInt8 := headT g st c ++ sealL (headT g st c)
theorem headT_length (g st c : Nat) : (headT g st c).length = 60 := by
  unfold headT
  simp [leB_length]
structure Hd where
  gen : Nat
  pend : Bool
  cnt : Nat
deriving DecidableEq
def hd (s : List UInt8) : Hd := if s.drop 60 = sealL (s.take 60) then ⟨leV ((s.take 60).take 8), leV (((s.take 60).drop 8).take 1) == 1, leV (((s.take 60).drop 9).take 2)⟩ else ⟨0, false, 0⟩
theorem hd_headL (g st c : Nat) (hg : g < 18446744073709551616) (hs : st < 256) (hc : c < 65536) : hd (headL g st c) = ⟨g, st == 1, c⟩ := by
  have h60 : (headL g st c).take 60 = headT g st c := by
    unfold headL
    rw [List.take_append_of_le_length (by rw [headT_length]; omega), List.take_of_length_le (by rw [headT_length]; omega)]
  have hd60 : (headL g st c).drop 60 = sealL (headT g st c) := by
    unfold headL
    rw [List.drop_append, List.drop_eq_nil_of_le (by rw [headT_length]; omega), headT_length]
    simp
  unfold hd
  rw [h60, hd60, if_pos rfl]
  have t8 : (headT g st c).take 8 = leB 8 g := by
    unfold headT
    simp [List.append_assoc, List.take_append, leB_length, List.take_of_length_le]
  have t1 : ((headT g st c).drop 8).take 1 = leB 1 st := by
    unfold headT
    simp [List.append_assoc, List.drop_append, List.take_append, leB_length, List.take_of_length_le, List.drop_eq_nil_of_le]
  have t2 : ((headT g st c).drop 9).take 2 = leB 2 c := by
    unfold headT
    simp [List.append_assoc, List.drop_append, List.take_append, leB_length, List.take_of_length_le, List.drop_eq_nil_of_le]
  rw [t8, t1, t2, leV_leB _ _ (by simpa using hg), leV_leB _ _ (by simpa using hs), leV_leB _ _ (by simpa using hc)]
theorem hd_zero : hd (List.replicate 64 0) = ⟨0, false, 0⟩ := by decide +kernel
/-! Bodies. -/
/-! Sectors, each once. -/
def laid (s : Nat → List UInt8) (l : PutL) : Nat → List UInt8 := l.foldl (fun s p => upd s p.1 p.2) s
theorem laid_cons (s : Nat → List UInt8) (l : PutL) (p : Nat × List UInt8) : laid s (p :: l) = laid (upd s p.1 p.2) l := rfl
theorem laid_out (s : Nat → List UInt8) (l : PutL) (i : Nat) (h : i ∉ l.map (·.1)) : laid s l i = s i := by
  induction l generalizing s with
  | nil => rfl
  | cons p r ih =>
    rw [laid_cons, ih _ (fun hm => h (by simp only [List.map_cons, List.mem_cons]; exact .inr hm)), upd_other _ _ (fun e => h (by simp [e]))]
theorem laid_mem (s : Nat → List UInt8) (l : PutL) (hn : (l.map (·.1)).Nodup) (p : Nat × List UInt8) (hp : p ∈ l) : laid s l p.1 = p.2 := by
  induction l generalizing s with
  | nil => cases hp
  | cons q r ih =>
    rw [laid_cons]
    rw [List.map_cons, List.nodup_cons] at hn
    rcases List.mem_cons.1 hp with rfl | hp
    · rw [laid_out _ _ _ hn.1, upd_same]
    · exact ih _ hn.2 hp
end Go.Proofs.YtnfiapjdkjbdhaaGreat
/- Layer 4 (journal): a device on which sectors are written in steps, and which crashes. -/
namespace Go.Proofs.YtnfiapjdkjbdhaaGreat
open Go.RowKit Go.Maps
set_option linter.unusedVariables false
set_option linter.unusedSimpArgs false
set_option maxRecDepth 10000
def PutsOk (n : Nat) (l : PutL) : Prop := ∀ p ∈ l, p.1 < n ∧ p.2.length = 64
def Dv.puts (M : Dv) (l : PutL) : Dv := l.foldl (fun M p => M.wrote (p.1 : Int) p.2) M
def Dv.fl (M : Dv) : Dv := if M.down then M else M.flush
def Dv.step (M : Dv) (l : PutL) : Dv := (M.puts l).fl
def Dv.free (M : Dv) : Prop := M.down = false ∧ M.left = 0
def Dv.calm (M : Dv) : Prop := ∀ i, M.row i = []
theorem calm_cur (M : Dv) (h : M.calm) (i : Nat) : M.cur i = M.dur i := by simp [Dv.cur, h i]
end Go.Proofs.YtnfiapjdkjbdhaaGreat
/- Layer 4 (journal): the states of an area between two crashes. -/
namespace Go.Proofs.YtnfiapjdkjbdhaaGreat
open Go.RowKit Go.Maps
set_option linter.unusedVariables false
set_option linter.unusedSimpArgs false
set_option maxRecDepth 10000
def markP (F g st c : Nat) : PutL := [(F, headL g st c)]
theorem laid_mark (s : Nat → List UInt8) (F g st c i : Nat) : laid s (markP F g st c) i = if i = F then headL g st c else s i := rfl
def Out (N F n i : Nat) : Prop := i < N ∧ (i < F ∨ F + n ≤ i)
structure Tr (N F n : Nat) (l : PutL) : Prop where
  nd : (l.map (·.1)).Nodup
  ok : PutsOk N l
  out : ∀ p ∈ l, p.1 < F ∨ F + n ≤ p.1
  fits : (l.length + 31) / 32 + l.length + 1 ≤ n
  area : F + n ≤ N
  small : N ≤ 4096
structure StA (N F n g : Nat) (was d : Nat → List UInt8) : Prop where
  gen : (hd (d F)).gen = g
  pend : (hd (d F)).pend = false
  out : ∀ i, Out N F n i → d i = was i
section
variable {N F n g : Nat} {was : Nat → List UInt8} {l : PutL} (h : Tr N F n l)
include h
theorem Tr.len : l.length ≤ 4096 := by have := h.fits; have := h.area; have := h.small; omega
theorem Tr.done (d : Nat → List UInt8) (hg : g < 18446744073709551616) (hd0 : ∀ i, Out N F n i → d i = was i ∨ d i = laid was l i) : StA N F n g (laid was l) (laid (laid d l) (markP F g 0 0)) := by
  have e : hd (headL g 0 0) = ⟨g, false, 0⟩ := hd_headL g 0 0 hg (by decide) (by decide)
  refine ⟨?_, ?_, fun i hi => ?_⟩
  · rw [laid_mark, if_pos rfl, e]
  · rw [laid_mark, if_pos rfl, e]
  · have hf := h.fits
    have hi2 := hi.2
    rw [laid_mark, if_neg (by omega)]
    by_cases hm : i ∈ l.map (·.1)
    · obtain ⟨p, hp, rfl⟩ := List.mem_map.1 hm
      rw [laid_mem _ _ h.nd p hp, laid_mem _ _ h.nd p hp]
    · rw [laid_out _ _ _ hm, laid_out _ _ _ hm]
      rcases hd0 i hi with e | e
      · exact e
      · rw [e, laid_out _ _ _ hm]
end
end Go.Proofs.YtnfiapjdkjbdhaaGreat
/- Layer 4 (journal): numbers, texts and heads. -/
namespace Go.Proofs.YtnfiapjdkjbdhaaGreat
open Go.RowKit Go.Maps
set_option linter.unusedVariables false
set_option linter.unusedSimpArgs false
set_option maxRecDepth 10000
set_option maxHeartbeats 400000 in
theorem take_any (l : List UInt8) (n : Nat) (w : World) (hl : l.length ≤ 1048576) (hn : n ≤ 8) (h : n ≤ l.length) (i : Int) (hi : i = n) :
    Calls Tryz.prog 191 #[str l, .int .i64 i] w fun e w' => e = .returned (.tuple #[.int .u64 (leV (l.take n)), str (l.drop n)]) ∧ Below w.heap.size w w' := by
  subst hi
  go_enter Tryz.func191, Tryz.ntmps191
  go_wp2_with fail
  refine (cut_ok l n n _ (by simp only [maxLen]; omega) rfl h).mono ?_
  rintro e w1 ⟨rfl, hb1⟩
  go_wp2_with fail
  refine (get_ok (l.take n) _ (by rw [List.length_take]; omega)).mono ?_
  rintro e w2 ⟨rfl, hb2⟩
  go_wp2_with fail
  go_ret2
  exact ⟨rfl, chain hb1 hb2⟩
theorem parts_any (m : Nat) (size : Nat) (w : World) (hm : m ≤ 1048576) (hs : 0 < size) (hs2 : size ≤ 1048576) :
    Calls Tryz.prog 119 #[.int .i64 (m : Int), .int .i64 (size : Int)] w fun e w' => e = .returned (.int .i64 (((m : Int) + (size : Int) - 1) / (size : Int))) ∧ w = w' := by
  go_enter Tryz.func119, Tryz.ntmps119
  go_wp2_with fail
  go_ret
  exact ⟨rfl, rfl⟩
def hdV (h : Hd) : Value := .agg #[.int .u64 (h.gen : Int), .bool h.pend, .int .i64 (h.cnt : Int)]
theorem cells3 (w : World) (a b c : Value) (t : TypeId) {W : World} (h : Below (w.alloc (.cells #[a, b, c] t)).heap.size (w.alloc (.cells #[a, b, c] t)) W) :
    W.cell? ⟨w.heap.size, 0, none⟩ = some a ∧ W.cell? ⟨w.heap.size, 1, none⟩ = some b ∧ W.cell? ⟨w.heap.size, 2, none⟩ = some c := by
  have hr := h.block w.heap.size (by simp)
  have h0 := heap_alloc_new w (.cells #[a, b, c] t)
  have h1 := hr.trans h0
  refine ⟨?_, ?_, ?_⟩
  all_goals
    unfold World.cell?
    rw [h1]
    rfl
theorem frozen3 (w : World) (a b c : Value) (t : TypeId) {W : World} (h : Below (w.alloc (.cells #[a, b, c] t)).heap.size (w.alloc (.cells #[a, b, c] t)) W) :
    W.frozen? ⟨w.heap.size, 0, none⟩ = false ∧ W.frozen? ⟨w.heap.size, 1, none⟩ = false ∧ W.frozen? ⟨w.heap.size, 2, none⟩ = false := by
  have hr := (h.block w.heap.size (by simp)).trans (heap_alloc_new w (.cells #[a, b, c] t))
  exact ⟨frozen_of_row W _ 0 _ t hr, frozen_of_row W _ 1 _ t hr, frozen_of_row W _ 2 _ t hr⟩
theorem set3 {W : World} {g : Nat} {a b c : Value} {t : TypeId} (h : W.heap[g]? = some (.cells #[a, b, c] t (0, 0))) (x y z : Value) :
    (((W.setCell ⟨g, 0, none⟩ x).setCell ⟨g, 1, none⟩ y).setCell ⟨g, 2, none⟩ z).heap[g]? = some (.cells #[x, y, z] t (0, 0)) := by
  have h1 := heap_setCell_same W g 0 _ t x h
  have h2 := heap_setCell_same _ g 1 _ t y h1
  have h3 := heap_setCell_same _ g 2 _ t z h2
  exact h3
set_option maxHeartbeats 1000000 in
theorem readHead_any (s : List UInt8) (w : World) (hs : s.length = 64) :
    Calls Tryz.prog 144 #[str s] w fun e w' => e = .returned (hdV (hd s)) ∧ Below w.heap.size w w' := by
  have hst : s = s.take 60 ++ s.drop 60 := (List.take_append_drop _ _).symm
  have ht : (s.take 60).length = 60 := by rw [List.length_take]; omega
  have hq : (s.drop 60).length = 4 := by rw [List.length_drop]; omega
  unfold hd
  generalize s.take 60 = t at *
  generalize s.drop 60 = q at *
  subst hst
  by_cases h : q = sealL t
  · subst h
    rw [if_pos rfl]
    have HO := Lib.hid (open_ok t (w.alloc (.cells #[.int .u64 0, .bool false, .int .i64 0] 154)) (by omega))
    have H1 := Lib.hid fun W => take_any t 8 W (by omega) (by decide) (by omega) 8 rfl
    have H2 := Lib.hid fun W => take_any (t.drop 8) 1 W (by rw [List.length_drop]; omega) (by decide) (by rw [List.length_drop]; omega) 1 rfl
    have H3 := Lib.hid fun W => take_any ((t.drop 8).drop 1) 2 W (by rw [List.length_drop, List.length_drop]; omega) (by decide) (by rw [List.length_drop, List.length_drop]; omega) 2 rfl
    have hc := leV_lt ((t.drop 9).take 2)
    have hc2 : ((t.drop 9).take 2).length ≤ 2 := by rw [List.length_take]; omega
    have hc3 : leV ((t.drop 9).take 2) < 65536 := Nat.lt_of_lt_of_le hc (Nat.le_trans (Nat.pow_le_pow_right (by omega) hc2) (by decide))
    clear hc hc2
    rw [List.drop_drop] at H3
    generalize leV ((t.drop 9).take 2) = c at H3 hc3
    have hc4 : ((c : Int)) < 65536 := by omega
    go_enter Tryz.func144, Tryz.ntmps144
    go_wp2_with fail
    refine HO.out.mono ?_
    rintro e w1 ⟨rfl, hb⟩
    have B := Lib.hid hb
    clear hb
    go_wp2_with fail
    refine (H1.out _).mono ?_
    rintro e w2 ⟨rfl, hb⟩
    have B := Lib.hid (chain B.out hb)
    clear hb
    go_wp2_with fail
    refine (H2.out _).mono ?_
    rintro e w3 ⟨rfl, hb⟩
    have B := Lib.hid (chain B.out hb)
    clear hb
    go_wp2_with fail
    refine (H3.out _).mono ?_
    rintro e w4 ⟨rfl, hb⟩
    have B := Lib.hid (chain B.out hb)
    clear hb
    obtain ⟨d0, d1, d2⟩ := cells3 w _ _ _ _ B.out
    obtain ⟨f0, f1, f2⟩ := frozen3 w _ _ _ _ B.out
    go_wp2_with fail
    have hB := B.out
    have hbx : (((leV ((t.drop 8).take 1) : Nat) : Int) == 1) = (leV ((t.drop 8).take 1) == 1) := by
      rw [Bool.eq_iff_iff, beq_iff_eq, beq_iff_eq]; omega
    rw [hbx]
    have hfin := set3 ((hB.block w.heap.size (by simp)).trans (heap_alloc_new w _)) (.int .u64 (leV (t.take 8) : Int)) (.bool (leV ((t.drop 8).take 1) == 1)) (.int .i64 (c : Int))
    refine bodyPost_ret (v := hdV ⟨leV (t.take 8), leV ((t.drop 8).take 1) == 1, c⟩) ?_ rfl ⟨rfl, ((((Below.refl _ _).alloc (Nat.le_refl _) _).trans (hB.mono (by simp))).setCell (Nat.le_refl _) _ |>.setCell (Nat.le_refl _) _).setCell (Nat.le_refl _) _⟩
    exact results_cell_row rfl _ _ w.heap.size 154 _ (0, 0) _ rfl hfin Tryz.underlying154 rfl (by kernel_rfl)
  · rw [if_neg h]
    have HO := Lib.hid (open_bad t q (w.alloc (.cells #[.int .u64 0, .bool false, .int .i64 0] 154)) (by omega) hq h)
    go_enter Tryz.func144, Tryz.ntmps144
    go_wp2_with fail
    refine HO.out.mono ?_
    rintro e w1 ⟨rfl, hb⟩
    have B := Lib.hid hb
    clear hb
    obtain ⟨d0, d1, d2⟩ := cells3 w _ _ _ _ B.out
    obtain ⟨f0, f1, f2⟩ := frozen3 w _ _ _ _ B.out
    go_wp2_with fail
    have hB := B.out
    have hfin := set3 ((hB.block w.heap.size (by simp)).trans (heap_alloc_new w _)) (.int .u64 0) (.bool false) (.int .i64 0)
    refine bodyPost_ret (v := hdV ⟨0, false, 0⟩) ?_ rfl ⟨rfl, ((((Below.refl _ _).alloc (Nat.le_refl _) _).trans (hB.mono (by simp))).setCell (Nat.le_refl _) _ |>.setCell (Nat.le_refl _) _).setCell (Nat.le_refl _) _⟩
    exact results_cell_row rfl _ _ w.heap.size 154 _ (0, 0) _ rfl hfin Tryz.underlying154 rfl (by kernel_rfl)
end Go.Proofs.YtnfiapjdkjbdhaaGreat
/- Layer 4 (journal): rows of puts in memory. -/
namespace Go.Proofs.YtnfiapjdkjbdhaaGreat
open Go.RowKit Go.Maps
set_option linter.unusedVariables false
set_option linter.unusedSimpArgs false
set_option maxRecDepth 10000
abbrev PutI := List (Int × List UInt8)
def putC (l : PutI) : List Value := l.flatMap fun p => [.int .i64 p.1, str p.2]
theorem putC_at (l : PutI) (k : Nat) (h : k < l.length) : (putC l)[k * 2]? = some (.int .i64 l[k].1) ∧ (putC l)[k * 2 + 1]? = some (str l[k].2) := by
  induction l generalizing k with
  | nil => simp at h
  | cons p r ih =>
    have hc : putC (p :: r) = .int .i64 p.1 :: str p.2 :: putC r := by simp [putC]
    rw [hc]
    cases k with
    | zero => exact ⟨rfl, rfl⟩
    | succ k =>
      have := ih k (by simpa using h)
      rw [show (k + 1) * 2 = k * 2 + 1 + 1 by omega]
      simpa using this
def Puts (W : World) (v : Value) (l : PutI) : Prop :=
  ∃ A c, v = .slice A l.length c ∧ ∀ j p, l[j]? = some p → ∃ a : Addr, A = some a ∧ W.cell? (a.add (j * 2)) = some (.int .i64 p.1) ∧ W.cell? (behind a (j * 2) 1) = some (str p.2)
theorem add_block (a : Addr) (k : Nat) : (a.add k).block = a.block := by unfold Addr.add; split <;> rfl
theorem Puts.kept {w W : World} {v : Value} {l : PutI} (h : Puts w v l) (hb : ∀ k, v.ownBlock = some k → W.heap[k]? = w.heap[k]?) : Puts W v l := by
  obtain ⟨A, c, rfl, hc⟩ := h
  refine ⟨A, c, rfl, fun j p hj => ?_⟩
  obtain ⟨a, rfl, h1, h2⟩ := hc j p hj
  have hk := hb a.block rfl
  refine ⟨a, rfl, ?_, ?_⟩
  · exact (World.cell?_of_block (a := a.add (j * 2)) (by rw [add_block]; exact hk)).trans h1
  · exact (World.cell?_of_block (a := behind a (j * 2) 1) (by show W.heap[(a.add (j * 2)).block]? = w.heap[(a.add (j * 2)).block]?; rw [add_block]; exact hk)).trans h2
theorem Puts.lt {w : World} {v : Value} {l : PutI} (h : Puts w v l) (hl : l ≠ []) (k : Nat) (hk : v.ownBlock = some k) : k < w.heap.size := by
  obtain ⟨A, c, rfl, hc⟩ := h
  obtain ⟨p, r, rfl⟩ := List.exists_cons_of_ne_nil hl
  obtain ⟨a, rfl, h1, _⟩ := hc 0 p rfl
  cases hk
  have := World.block_lt_of_cell? w _ h1
  rwa [add_block] at this
theorem Puts.below {w W : World} {v : Value} {l : PutI} (h : Puts w v l) (hb : Below w.heap.size w W) : Puts W v l := by
  by_cases hl : l = []
  · subst hl
    obtain ⟨A, c, rfl, hc⟩ := h
    exact ⟨A, c, rfl, fun j p hj => by simp at hj⟩
  · exact h.kept fun k hk => hb.block k (h.lt hl k hk)
abbrev OwnP (W : World) (base : Nat) (v : Value) (l : PutI) : Prop := W.ownsRow base 117 2 v l.length (putC l)
theorem OwnP.puts {W : World} {base : Nat} {v : Value} {l : PutI} (h : OwnP W base v l) : Puts W v l := by
  rcases h.2 with ⟨rfl, h0⟩ | ⟨g, cap, cur, hv, hrest⟩
  · exact ⟨none, 0, by rw [h0], fun j p hj => by rw [List.length_eq_zero_iff.1 h0] at hj; simp at hj⟩
  · refine ⟨some ⟨g, 0, none⟩, cap, hv, fun j p hj => ⟨_, rfl, ?_⟩⟩
    obtain ⟨hlt, rfl⟩ := List.getElem?_eq_some_iff.1 hj
    obtain ⟨h1, h2⟩ := putC_at l j hlt
    have hg : v.ownBlock = some g := by rw [hv]; rfl
    have c1 := h.cells hg _ _ h1
    have c2 := h.cells hg _ _ h2
    refine ⟨c1, ?_⟩
    rwa [behind_add _ _ _ (by decide)] at c2
def putAppend (args : Array Value) : Sem Value := Builtin.append_ #[114, 114] 114 args
@[go_sem ↓] theorem put_append_fold (args : Array Value) : Builtin.append_ #[114, 114] 114 args = putAppend args := rfl
section
variable {P : Program} {t k e : TypeId} {W : World} {m n : Nat} {f : Nat → Option Value}
theorem IMap.look2 (h : IMap P k W m n f) (hk : P.underlying k = some (.int .i64)) (ht : P.underlying t = some (.map k e)) {z : Value} (hz : (zeroValue e).run P W = .ok z W) (hn : n ≤ 9223372036854775807) {i : Nat} (hi : i < n) :
    (Instr.lookup t (.map (some m)) (.int .i64 (i : Int)) true).run P W = .ok (.tuple #[(f i).getD z, .bool (f i).isSome]) W := by
  obtain ⟨D, h1, h2, h3⟩ := h
  obtain ⟨v, ps, hrun, hv⟩ := h1.look_ok (int_keyed hk) ht hz (zd := .held z) (zp := []) rfl (keyOf_int_mk hk (key_wf (i := i) (by omega)))
  rw [hrun]
  simp only [heldR, Option.some.injEq, Prod.mk.injEq] at hv
  cases hf : f i with
  | some u =>
    rw [h3 i u hi hf] at hv
    cases hv.1
    have : Maps.has D (.int .i64 (i : Int)) = true := (h2 _).2 ⟨i, hi, rfl, by rw [hf]; rfl⟩
    rw [this]; rfl
  | none =>
    have hh : Maps.has D (.int .i64 (i : Int)) = false := by
      cases hc : Maps.has D (.int .i64 (i : Int)) with
      | false => rfl
      | true =>
        obtain ⟨j, _, hj, hs⟩ := (h2 _).1 hc
        simp only [Lit.int.injEq, true_and] at hj
        obtain rfl : i = j := by omega
        rw [hf] at hs; cases hs
    rw [Maps.atKey_of_not_has hh] at hv
    cases hv.1
    rw [hh]; rfl
end
end Go.Proofs.YtnfiapjdkjbdhaaGreat
namespace Go.Proofs.YtnfiapjdkjbdhaaGreat
open Go.RowKit Go.Maps
set_option linter.unusedVariables false
set_option linter.unusedSimpArgs false
set_option maxRecDepth 10000
def castL (l : PutL) : PutI := l.map fun p => ((p.1 : Int), p.2)
theorem castL_length (l : PutL) : (castL l).length = l.length := by simp [castL]
end Go.Proofs.YtnfiapjdkjbdhaaGreat
/- Layer 4 (journal): a journal in memory; what is refused. -/
namespace Go.Proofs.YtnfiapjdkjbdhaaGreat
open Go.RowKit Go.Maps
set_option linter.unusedVariables false
set_option linter.unusedSimpArgs false
set_option maxRecDepth 10000
/-! Of a device. -/
theorem len_any (b g n c : Nat) (W : World) (h2 : W.cell? ⟨b, 2, none⟩ = some (.slice (some ⟨g, 0, none⟩) n c)) :
    Calls Tryz.prog 74 #[devp b] W fun e w' => e = .returned (.int .i64 (n : Int)) ∧ W = w' := by
  go_enter Tryz.func74, Tryz.ntmps74
  go_wp2
  go_ret
  exact ⟨rfl, rfl⟩
theorem durable_raw (b g c n i : Nat) (W : World) (s : List UInt8) (hs : s.length = 64) (hn : n ≤ 4096) (hi : i < n) (h2 : W.cell? ⟨b, 2, none⟩ = some (.slice (some ⟨g, 0, none⟩) n c)) (hd : W.rangeAt g (i * 64) (bc s)) :
    Calls Tryz.prog 25 #[devp b, .int .i64 (i : Int)] W fun e w' => e = .returned (.tuple #[str s, .int .i64 0]) ∧ W = w' := by
  have hcv : (convert 53 9 (.slice (some ⟨g, i * 64, none⟩) 64 64)).run Tryz.prog W = .ok (str s) W := by
    have := run_convert_bytes_back (P := Tryz.prog) W 53 9 5 ⟨g, i * 64, none⟩ 64 s Tryz.underlying53 Tryz.underlying5 Tryz.underlying9 fun j hj => by
      rw [Addr.add_lit]
      exact hd j _ (by simp [hj])
    rwa [hs] at this
  have hi2 : (i : Int) < (n : Int) := by omega
  go_enter Tryz.func25, Tryz.ntmps25
  go_wp2_with fail
  refine (has_yes b g c n i W hn hi h2).mono ?_
  rintro e w1 ⟨rfl, rfl⟩
  go_wp2_with fail
  go_ret2
  exact ⟨rfl, rfl⟩
section
variable {K : Nat → Prop} {w W : World} {b : Nat} {M : Dv}
theorem held_len (h : Held K w W b M) : Calls Tryz.prog 74 #[devp b] W fun e w' => e = .returned (.int .i64 (M.n : Int)) ∧ W = w' := by
  obtain ⟨h1, S, ⟨g, c, m, vals, hI⟩, h4⟩ := h
  exact len_any b g _ c W hI.head.c2
end
/-! A journal. -/
structure JAt (W : World) (jb b : Nat) (F n rec : Nat) : Prop where
  c0 : W.cell? ⟨jb, 0, none⟩ = some (devp b)
  c1 : W.cell? ⟨jb, 1, none⟩ = some (.int .i64 (F : Int))
  c2 : W.cell? ⟨jb, 2, none⟩ = some (.int .i64 (n : Int))
  c3 : W.cell? ⟨jb, 3, none⟩ = some (.int .i64 (rec : Int))
theorem JAt.kept {w W : World} {jb b F n rec : Nat} (h : JAt w jb b F n rec) (hb : W.heap[jb]? = w.heap[jb]?) : JAt W jb b F n rec :=
  ⟨(cell_same 0 hb).trans h.c0, (cell_same 1 hb).trans h.c1, (cell_same 2 hb).trans h.c2, (cell_same 3 hb).trans h.c3⟩
theorem JAt.lt {w : World} {jb b F n rec : Nat} (h : JAt w jb b F n rec) : jb < w.heap.size := World.block_lt_of_cell? w _ h.c0
theorem JAt.below {w W : World} {jb b F n rec : Nat} (h : JAt w jb b F n rec) (hb : Below w.heap.size w W) : JAt W jb b F n rec := h.kept (hb.block jb h.lt)
def capL (n : Nat) : Nat := (n - 1) - ((n - 1) + 32) / 33
theorem max_any (jb b F n rec : Nat) (W : World) (h : JAt W jb b F n rec) (h4 : 4 ≤ n) (h256 : n ≤ 256) :
    Calls Tryz.prog 58 #[devp jb] W fun e w' => e = .returned (.int .i64 (capL n : Int)) ∧ W = w' := by
  have c2 := h.c2
  have hp := parts_any (n - 1) 33 W (by omega) (by decide) (by decide)
  have hi : ((n - 1 : Nat) : Int) = (n : Int) - 1 := by omega
  rw [hi] at hp
  have hq : (n : Int) - 1 + ((33 : Nat) : Int) - 1 = (n : Int) - 1 + 32 := by omega
  rw [hq] at hp
  have HP := Lib.hid hp
  clear h hi hq hp
  go_enter Tryz.func58, Tryz.ntmps58
  go_wp2_with fail
  refine HP.out.mono ?_
  rintro e w1 ⟨rfl, rfl⟩
  clear HP
  go_wp2_with fail
  go_ret
  refine ⟨congrArg (fun x => Ending.returned (.int .i64 x)) ?_, rfl⟩
  unfold capL
  omega
def wrongB (n : Nat) (p : Int × List UInt8) : Bool := decide (p.1 < 0) || (decide ((n : Int) ≤ p.1) || (p.2.length != 64))
theorem cells2 (w : World) (a b : Value) (t : TypeId) : (w.alloc (.cells #[a, b] t)).cell? ⟨w.heap.size, 0, none⟩ = some a ∧ (w.alloc (.cells #[a, b] t)).cell? ⟨w.heap.size, 1, none⟩ = some b := by
  have h := heap_alloc_new w (.cells #[a, b] t)
  refine ⟨?_, ?_⟩ <;> (unfold World.cell?; rw [h]; rfl)
set_option maxHeartbeats 1000000 in
theorem wrong_any (jb b F n rec g N c : Nat) (s : Int) (d : List UInt8) (W : World) (h : JAt W jb b F n rec) (h2 : W.cell? ⟨b, 2, none⟩ = some (.slice (some ⟨g, 0, none⟩) N c)) (hN : N ≤ 4096) (hd : d.length ≤ 140737488351232) :
    Calls Tryz.prog 178 #[devp jb, .agg #[.int .i64 s, str d]] W fun e w' => e = .returned (.bool (wrongB N (s, d))) ∧ Below W.heap.size W w' := by
  obtain ⟨k0, k1⟩ := cells2 W (.int .i64 s) (str d) 117
  have hB : Below W.heap.size W (W.alloc (.cells #[.int .i64 s, str d] 117)) := (Below.refl _ _).alloc (Nat.le_refl _) _
  have hJ := h.below hB
  have j0 := hJ.c0
  have hd2 := (hB.cell (World.block_lt_of_cell? W _ h2)).trans h2
  have HL := Lib.hid fun m => len_any b g N c ((W.alloc (.cells #[.int .i64 s, str d] 117)).drewN m) hd2
  clear hJ h h2
  unfold wrongB
  simp only
  by_cases h1 : s < 0
  · rw [decide_eq_true h1]
    go_enter Tryz.func178, Tryz.ntmps178
    go_wp2
    go_quiet (fail)
    go_wp2
    go_ret
    exact ⟨rfl, below_drewN hB _⟩
  · rw [decide_eq_false h1]
    have h0 : decide (s < 0) = false := decide_eq_false h1
    by_cases h3 : (N : Int) ≤ s
    · rw [decide_eq_true h3]
      go_enter Tryz.func178, Tryz.ntmps178
      go_wp2
      go_quiet (first | (go_at_call 74; refine Calls.quiet_of_same ((HL.out _).mono fun _ _ h => ⟨h.1, h.2.symm⟩)))
      go_wp2
      go_ret
      exact ⟨rfl, below_drewN hB _⟩
    · rw [decide_eq_false h3]
      have h4 : decide ((N : Int) ≤ s) = false := decide_eq_false h3
      by_cases h5 : d.length = 64
      · have hx : (d.length != 64) = false := by simp [h5]
        have hy : ((d.length : Int) != 64) = false := by simp; omega
        rw [hx]
        go_enter Tryz.func178, Tryz.ntmps178
        go_wp2
        go_quiet (first | (go_at_call 74; refine Calls.quiet_of_same ((HL.out _).mono fun _ _ h => ⟨h.1, h.2.symm⟩)))
        go_wp2
        go_ret
        exact ⟨rfl, below_drewN hB _⟩
      · have hx : (d.length != 64) = true := by simp [h5]
        have hy : ((d.length : Int) != 64) = true := by simp; omega
        rw [hx]
        go_enter Tryz.func178, Tryz.ntmps178
        go_wp2
        go_quiet (first | (go_at_call 74; refine Calls.quiet_of_same ((HL.out _).mono fun _ _ h => ⟨h.1, h.2.symm⟩)))
        go_wp2
        go_ret
        exact ⟨rfl, below_drewN hB _⟩
end Go.Proofs.YtnfiapjdkjbdhaaGreat
/- Layer 4 (journal): what is refused. -/
namespace Go.Proofs.YtnfiapjdkjbdhaaGreat
open Go.RowKit Go.Maps
set_option linter.unusedVariables false
set_option linter.unusedSimpArgs false
set_option maxRecDepth 10000
structure JOn (W : World) (jb b F n rec N : Nat) : Prop where
  j : JAt W jb b F n rec
  sec : ∃ g c, W.cell? ⟨b, 2, none⟩ = some (.slice (some ⟨g, 0, none⟩) N c)
theorem JOn.below {w W : World} {jb b F n rec N : Nat} (h : JOn w jb b F n rec N) (hb : Below w.heap.size w W) : JOn W jb b F n rec N := by
  obtain ⟨hj, g, c, hc⟩ := h
  exact ⟨hj.below hb, g, c, (hb.cell (World.block_lt_of_cell? w _ hc)).trans hc⟩
theorem JOn.of {K : Nat → Prop} {w W : World} {jb b F n rec : Nat} {M : Dv} (h : Held K w W b M) (hj : JAt W jb b F n rec) : JOn W jb b F n rec M.n := by
  obtain ⟨h1, S, ⟨g, c, m, vals, hI⟩, h4⟩ := h
  exact ⟨hj, g, c, hI.head.c2⟩
end Go.Proofs.YtnfiapjdkjbdhaaGreat
/- Layer 4 (journal): what is written in each step. -/
namespace Go.Proofs.YtnfiapjdkjbdhaaGreat
open Go.RowKit Go.Maps
set_option linter.unusedVariables false
set_option linter.unusedSimpArgs false
set_option maxRecDepth 10000
def Dv.headOf (M : Dv) (F : Nat) : Hd := hd (if M.down then M.dur F else M.cur F)
theorem JAt.up {w W : World} {jb b F n rec : Nat} (h : JAt w jb b F n rec) (hb : Below w.heap.size w W) : W.cell? ⟨jb, 0, none⟩ = some (devp b) ∧ W.cell? ⟨jb, 1, none⟩ = some (.int .i64 (F : Int)) :=
  ⟨(h.below hb).c0, (h.below hb).c1⟩
theorem row3 {W : World} {g : Nat} {a b c : Value} {t : TypeId} (h : W.heap[g]? = some (.cells #[a, b, c] t (0, 0))) : W.cell? ⟨g, 0, none⟩ = some a ∧ W.cell? ⟨g, 1, none⟩ = some b ∧ W.cell? ⟨g, 2, none⟩ = some c := by
  refine ⟨?_, ?_, ?_⟩ <;> (unfold World.cell?; rw [h]; rfl)
theorem frz3 {W : World} {g : Nat} {a b c : Value} {t : TypeId} (h : W.heap[g]? = some (.cells #[a, b, c] t (0, 0))) : W.frozen? ⟨g, 0, none⟩ = false ∧ W.frozen? ⟨g, 1, none⟩ = false ∧ W.frozen? ⟨g, 2, none⟩ = false :=
  ⟨frozen_of_row W _ 0 _ t h, frozen_of_row W _ 1 _ t h, frozen_of_row W _ 2 _ t h⟩
set_option maxHeartbeats 1000000 in
theorem head_any {S : Nat → Prop} {W : World} {b : Nat} {M : Dv} (jb F n rec : Nat) (h : DevAt S W b M) (hj : JAt W jb b F n rec) (hF : F < M.n) (hw : M.wr ≤ 1099511627776) :
    Calls Tryz.prog 81 #[devp jb] W fun e w' => e = .returned (hdV (M.headOf F)) ∧ Below W.heap.size W w' := by
  have hf := h.fine
  obtain ⟨V, hV⟩ : ∃ V, V = W.alloc (.cells #[.int .u64 0, .bool false, .int .i64 0] 154) := ⟨_, rfl⟩
  have hVb : Below W.heap.size W V := by rw [hV]; exact (Below.refl _ _).alloc (Nat.le_refl _) _
  have hVs : V.heap.size = W.heap.size + 1 := by rw [hV]; simp
  have hnew : V.heap[W.heap.size]? = some (.cells #[.int .u64 0, .bool false, .int .i64 0] 154 (0, 0)) := by rw [hV]; exact heap_alloc_new W _
  unfold Dv.headOf
  cases hdn : M.down
  · have hR := Lib.hid fun W' (hb : Below W.heap.size W W') => read_any (h.below hb) hdn hw F hF
    have hlen := hf.cur hF
    have H2 := Lib.hid fun W' => readHead_any (M.cur F) W' hlen
    have HJ := Lib.hid hj
    clear h hf hj hlen
    rw [if_neg (by simp)]
    generalize M.cur F = s at *
    have B := Lib.hid ((Below.refl V.heap.size V).drew)
    obtain ⟨d0, d1⟩ := HJ.out.up (hVb.trans (B.out.mono (by omega)))
    go_enter Tryz.func81, Tryz.ntmps81
    go_wp2_with fail
    rw [← hV]
    clear hV
    go_region_held3 (fun W' => W'.cell? ⟨jb, 0, none⟩ = some (devp b) ∧ W'.cell? ⟨jb, 1, none⟩ = some (.int .i64 (F : Int)))
      (exact ⟨d0, d1⟩)
      (first | (go_at_call 133; ((with_reducible refine (hR.out _ (hVb.trans (B.out.mono (by omega)))).mono ?_); rintro e w4 ⟨rfl, hb⟩; have B := Lib.hid (chain B.out hb); obtain ⟨d0, d1⟩ := HJ.out.up (hVb.trans (B.out.mono (by omega))))))
    clear d0 d1
    go_wp2_with fail
    with_reducible refine (H2.out _).mono ?_
    rintro e w5 ⟨rfl, hb⟩
    have B := Lib.hid (chain B.out hb)
    clear hb
    have hrow := (B.out.block W.heap.size (by omega)).trans hnew
    obtain ⟨x0, x1, x2⟩ := row3 hrow
    obtain ⟨f0, f1, f2⟩ := frz3 hrow
    unfold hdV
    go_wp2_with fail
    have hfin := set3 hrow (.int .u64 ((hd s).gen : Int)) (.bool (hd s).pend) (.int .i64 ((hd s).cnt : Int))
    refine bodyPost_ret (v := hdV (hd s)) ?_ rfl ⟨rfl, (((hVb.trans (B.out.mono (by omega))).setCell (Nat.le_refl _) _).setCell (Nat.le_refl _) _).setCell (Nat.le_refl _) _⟩
    exact results_cell_row rfl _ _ W.heap.size 154 _ (0, 0) _ rfl hfin Tryz.underlying154 rfl (by kernel_rfl)
  · have hR := Lib.hid fun W' (hb : Below W.heap.size W W') => read_down b (.int .i64 (F : Int)) W' ((h.below hb).down_cell hdn)
    have hD := Lib.hid fun W' (hb : Below W.heap.size W W') => (show Calls Tryz.prog 25 #[devp b, .int .i64 (F : Int)] W' fun e w' => e = .returned (.tuple #[str (M.dur F), .int .i64 0]) ∧ W' = w' by
      obtain ⟨g, c, m, vals, hI⟩ := h.below hb
      exact durable_raw b g c M.n F W' _ (hI.fine.dur F hF) hI.fine.n hF hI.head.c2 (hI.du.at_ F hF))
    have hlen := hf.dur F hF
    have H2 := Lib.hid fun W' => readHead_any (M.dur F) W' hlen
    have HJ := Lib.hid hj
    clear h hf hj hlen
    rw [if_pos rfl]
    generalize M.dur F = s at *
    have B := Lib.hid ((Below.refl V.heap.size V).drew)
    obtain ⟨d0, d1⟩ := HJ.out.up (hVb.trans (B.out.mono (by omega)))
    go_enter Tryz.func81, Tryz.ntmps81
    go_wp2_with fail
    rw [← hV]
    clear hV
    go_region_held3 (fun W' => W'.cell? ⟨jb, 0, none⟩ = some (devp b) ∧ W'.cell? ⟨jb, 1, none⟩ = some (.int .i64 (F : Int)))
      (exact ⟨d0, d1⟩)
      (first | (go_at_call 133; ((with_reducible refine (hR.out _ (hVb.trans (B.out.mono (by omega)))).mono ?_); rintro e w4 ⟨rfl, rfl⟩)))
    go_wp2_with fail
    have B := Lib.hid (Below.drew B.out)
    obtain ⟨d0, d1⟩ := HJ.out.up (hVb.trans (B.out.mono (by omega)))
    go_region_held3 (fun W' => W'.cell? ⟨jb, 0, none⟩ = some (devp b) ∧ W'.cell? ⟨jb, 1, none⟩ = some (.int .i64 (F : Int)))
      (exact ⟨d0, d1⟩)
      (first | (go_at_call 25; ((with_reducible refine (hD.out _ (hVb.trans (B.out.mono (by omega)))).mono ?_); rintro e w4 ⟨rfl, rfl⟩)))
    clear d0 d1
    go_wp2_with fail
    with_reducible refine (H2.out _).mono ?_
    rintro e w5 ⟨rfl, hb⟩
    have B := Lib.hid (chain B.out hb)
    clear hb
    have hrow := (B.out.block W.heap.size (by omega)).trans hnew
    obtain ⟨x0, x1, x2⟩ := row3 hrow
    obtain ⟨f0, f1, f2⟩ := frz3 hrow
    unfold hdV
    go_wp2_with fail
    have hfin := set3 hrow (.int .u64 ((hd s).gen : Int)) (.bool (hd s).pend) (.int .i64 ((hd s).cnt : Int))
    refine bodyPost_ret (v := hdV (hd s)) ?_ rfl ⟨rfl, (((hVb.trans (B.out.mono (by omega))).setCell (Nat.le_refl _) _).setCell (Nat.le_refl _) _).setCell (Nat.le_refl _) _⟩
    exact results_cell_row rfl _ _ W.heap.size 154 _ (0, 0) _ rfl hfin Tryz.underlying154 rfl (by kernel_rfl)
abbrev txV (g : Nat) (v : Value) : Value := .agg #[.int .u64 (g : Int), v]
theorem up1 {w : World} {o : Obj} {q : Addr} {v : Value} (h : w.cell? q = some v) : (w.alloc o).cell? q = some v := by
  rw [World.cell?_alloc_lt _ _ _ (World.block_lt_of_cell? w _ h)]
  exact h
theorem txV_box {W : World} (g : Nat) (v : Value) (t : TypeId) : (W.alloc (.cells #[.int .u64 (g : Int), v] t)).cell? ⟨W.heap.size, 0, none⟩ = some (.int .u64 (g : Int)) ∧ (W.alloc (.cells #[.int .u64 (g : Int), v] t)).cell? ⟨W.heap.size, 1, none⟩ = some v := cells2 W _ _ t
theorem place_any {W : World} (jb g : Nat) (A : Option Addr) (m c : Nat) :
    Calls Tryz.prog 147 #[devp jb, txV g (.slice A m c)] W fun e w' => e = .returned (.slice A m c) ∧ Below W.heap.size W w' := by
  have hB : Below W.heap.size W (W.alloc (.cells #[.int .u64 (g : Int), .slice A m c] 158)) := (Below.refl _ _).alloc (Nat.le_refl _) _
  obtain ⟨k0, k1⟩ := txV_box (W := W) g (.slice A m c) 158
  go_enter Tryz.func147, Tryz.ntmps147
  go_wp2_with fail
  go_ret
  exact ⟨rfl, hB⟩
end Go.Proofs.YtnfiapjdkjbdhaaGreat
/- Layer 4 (journal): the steps are taken. -/
namespace Go.Proofs.YtnfiapjdkjbdhaaGreat
open Go.RowKit Go.Maps
set_option linter.unusedVariables false
set_option linter.unusedSimpArgs false
set_option maxRecDepth 10000
end Go.Proofs.YtnfiapjdkjbdhaaGreat
/- Layer 4 (journal): the groups of a transaction, one by one. -/
namespace Go.Proofs.YtnfiapjdkjbdhaaGreat
open Go.RowKit Go.Maps Go.Shelf
set_option linter.unusedVariables false
set_option linter.unusedSimpArgs false
set_option maxRecDepth 10000
attribute [local go_sem] Oper.semAt_some
def txtAppend (args : Array Value) : Sem Value := Builtin.append_ #[230, 230] 230 args
@[go_sem ↓] theorem txt_append_fold (args : Array Value) : Builtin.append_ #[230, 230] 230 args = txtAppend args := rfl
abbrev OwnT (W : World) (base : Nat) (v : Value) (ss : List (List UInt8)) : Prop := W.ownsRow base 9 1 v ss.length (ss.map str)
structure BodyI (W0 : World) (B : Nat) (ns cs : List (List UInt8)) (V : World) : Prop where
  only : Only (fun k => k = B ∨ k = B + 1) W0 V
  rows : ∃ nv cv, V.heap[B]? = some (.cells #[nv] 230 (0, 0)) ∧ V.heap[B + 1]? = some (.cells #[cv] 230 (0, 0)) ∧ OwnT V (W0.heap.size + 2) nv ns ∧ OwnT V (W0.heap.size + 2) cv cs ∧ (∀ k, nv.ownBlock = some k → cv.ownBlock ≠ some k)
section
variable {W0 V : World} {B : Nat} {ns cs : List (List UInt8)}
theorem BodyI.same {V' : World} (h : BodyI W0 B ns cs V) (hB : B + 1 < W0.heap.size) (ho : V'.os = V.os) (ht : V'.tape = V.tape) (hu : V'.output = V.output) (hs : V.heap.size ≤ V'.heap.size)
    (hk : ∀ k, k < V.heap.size → k ≠ W0.heap.size → k ≠ W0.heap.size + 1 → V'.heap[k]? = V.heap[k]?) : BodyI W0 B ns cs V' := by
  obtain ⟨hO, nv, cv, h1, h2, h3, h4, h5⟩ := h
  have hsz := hO.size
  refine ⟨⟨ho.trans hO.os, ht.trans hO.tape, hu.trans hO.output, Nat.le_trans hO.size hs, fun k hkl hn => (hk k (by omega) (by omega) (by omega)).trans (hO.block k hkl hn)⟩,
    nv, cv, (hk B (by omega) (by omega) (by omega)).trans h1, (hk (B + 1) (by omega) (by omega) (by omega)).trans h2, ?_, ?_, h5⟩
  · refine ⟨h3.1, ?_⟩
    rcases h3.2 with h0 | ⟨g', cap, cur, hv, hb, hg, hr⟩
    · exact .inl h0
    · exact .inr ⟨g', cap, cur, hv, hb, (hk g' (Array.getElem?_eq_some_iff.1 hg).1 (by omega) (by omega)).trans hg, hr⟩
  · refine ⟨h4.1, ?_⟩
    rcases h4.2 with h0 | ⟨g', cap, cur, hv, hb, hg, hr⟩
    · exact .inl h0
    · exact .inr ⟨g', cap, cur, hv, hb, (hk g' (Array.getElem?_eq_some_iff.1 hg).1 (by omega) (by omega)).trans hg, hr⟩
theorem BodyI.put (h : BodyI W0 B ns cs V) (hB : B + 1 < W0.heap.size) (l : Nat) (o : Obj) (h1 : W0.heap.size ≤ l) (h2 : l ≤ W0.heap.size + 1) : BodyI W0 B ns cs (V.putObj l o) :=
  h.same hB rfl rfl rfl (by simp) (fun k _ h3 h4 => World.putObj_heap_other (by omega))
theorem BodyI.below {V' : World} (h : BodyI W0 B ns cs V) (hB : B + 1 < W0.heap.size) (hb : Below V.heap.size V V') : BodyI W0 B ns cs V' :=
  h.same hB hb.os hb.tape hb.output hb.size (fun k hk _ _ => hb.block k hk)
end
end Go.Proofs.YtnfiapjdkjbdhaaGreat
