import Derived.Test.YtnfiapjdkjbdhaaGreatX4
import Derived.Maps.AppendAt
import Derived.RangeFuncBox
namespace Go.Proofs.YtnfiapjdkjbdhaaGreat
open Go.RowKit Go.Maps Go.Shelf
set_option linter.unusedVariables false
set_option linter.unusedSimpArgs false
set_option maxRecDepth 10000
attribute [local go_sem] Oper.semAt_some
def intAppend (args : Array Value) : Sem Value := Builtin.append_ #[206, 206] 206 args
@[go_sem ↓] theorem int_append_fold (args : Array Value) : Builtin.append_ #[206, 206] 206 args = intAppend args := rfl
end Go.Proofs.YtnfiapjdkjbdhaaGreat
/- Layer 9 (bmap): all blocks that an inode has, one by one. -/
namespace Go.Proofs.YtnfiapjdkjbdhaaGreat
open Go.RowKit Go.Maps Go.Sort Go.Shelf Go.Lib
set_option linter.unusedVariables false
set_option linter.unusedSimpArgs false
set_option maxRecDepth 10000
attribute [local go_sem] Oper.semAt_some
def nzL : Nat → List Nat → List (Nat × Nat)
  | _, [] => []
  | a, b :: r => if b = 0 then nzL (a + 1) r else (a, b) :: nzL (a + 1) r
theorem nzL_cons (a b : Nat) (r : List Nat) : nzL a (b :: r) = if b = 0 then nzL (a + 1) r else (a, b) :: nzL (a + 1) r := rfl
theorem nzL_append (a : Nat) (l r : List Nat) : nzL a (l ++ r) = nzL a l ++ nzL (a + l.length) r := by
  induction l generalizing a with
  | nil => rfl
  | cons b l ih =>
    rw [List.cons_append, nzL_cons, nzL_cons, ih, List.length_cons, show a + 1 + l.length = a + (l.length + 1) by omega]
    split
    · rfl
    · rfl
theorem nzL_filter (a p : Nat) (l : List Nat) : ((nzL a l).filter fun q => decide (p ≤ q.1)).map (·.2) = (l.drop (p - a)).filter fun b => b != 0 := by
  induction l generalizing a with
  | nil => simp [nzL]
  | cons b l ih =>
    rw [nzL_cons]
    by_cases hb : b = 0
    · subst hb
      rw [if_pos rfl, ih]
      by_cases hp : p ≤ a
      · rw [show p - (a + 1) = 0 by omega, show p - a = 0 by omega]; simp
      · rw [show p - a = (p - (a + 1)) + 1 by omega, List.drop_succ_cons]
    · rw [if_neg hb]
      by_cases hp : p ≤ a
      · rw [List.filter_cons_of_pos (by simpa using hp), List.map_cons, ih, show p - (a + 1) = 0 by omega, show p - a = 0 by omega]
        simp [hb]
      · rw [List.filter_cons_of_neg (by simpa using hp), ih, show p - a = (p - (a + 1)) + 1 by omega, List.drop_succ_cons]
theorem nzL_length (a : Nat) (l : List Nat) : (nzL a l).length ≤ l.length := by
  induction l generalizing a with
  | nil => exact Nat.le_refl _
  | cons b l ih =>
    have := ih (a + 1)
    rw [nzL_cons]
    split
    · rw [List.length_cons]; omega
    · rw [List.length_cons, List.length_cons]; omega
theorem nzL_take {l : List Nat} {k : Nat} (hk : k < l.length) : nzL 0 (l.take (k + 1)) = nzL 0 (l.take k) ++ if l[k] = 0 then [] else [(k, l[k])] := by
  rw [List.take_succ_eq_append_getElem hk, nzL_append, List.length_take, Nat.min_eq_left (by omega), Nat.zero_add]
  congr 1
def Im.dir (x : Im) : List Nat := [x.d0, x.d1, x.d2, x.d3]
def prL (x : Im) (l : List Nat) : List (Nat × Nat) := nzL 0 (x.dir ++ l) ++ if x.i = 0 then [] else [(4, x.i)]
def spareL (x : Im) (l : List Nat) (p : Nat) : List Nat := ((x.dir ++ l).drop p).filter (fun b => b != 0) ++ if x.i = 0 ∨ 4 < p then [] else [x.i]
theorem prL_spare (x : Im) (l : List Nat) (p : Nat) : ((prL x l).filter fun q => decide (p ≤ q.1)).map (·.2) = spareL x l p := by
  unfold prL spareL
  rw [List.filter_append, List.map_append, nzL_filter, Nat.sub_zero]
  congr 1
  by_cases hi : x.i = 0
  · rw [if_pos hi, if_pos (.inl hi)]; rfl
  · rw [if_neg hi]
    by_cases hp : p ≤ 4
    · rw [if_neg (by omega), List.filter_cons_of_pos (by simpa using hp)]; rfl
    · rw [if_pos (.inr (by omega)), List.filter_cons_of_neg (by simpa using hp)]; rfl
def InoAt (W : World) (g : Nat) (x : Im) : Prop := W.heap[g]? = some (.cells #[.int .u8 x.k, w16 x.n, .int .u32 x.z, w16 x.d0, w16 x.d1, w16 x.d2, w16 x.d3, w16 x.i] 41 (0, 0))
theorem InoAt.lt {W : World} {g : Nat} {x : Im} (h : InoAt W g x) : g < W.heap.size := (Array.getElem?_eq_some_iff.1 h).1
theorem InoAt.below {W W' : World} {g n : Nat} {x : Im} (h : InoAt W g x) (hb : Below n W W') (hg : g < n) : InoAt W' g x := (hb.block g hg).trans h
theorem InoAt.dirs {W : World} {g : Nat} {x : Im} (h : InoAt W g x) : U16s W (.slice (some ⟨g, 3, none⟩) 4 4) x.dir := by
  refine ⟨_, _, rfl, fun j n hj => ⟨_, rfl, ?_⟩⟩
  match j, hj with
  | 0, hj => cases hj; exact cell_of_row W g 3 _ _ _ h
  | 1, hj => cases hj; exact cell_of_row W g 4 _ _ _ h
  | 2, hj => cases hj; exact cell_of_row W g 5 _ _ _ h
  | 3, hj => cases hj; exact cell_of_row W g 6 _ _ _ h
theorem blocks_cat (W : World) (x : Im) (l : List Nat) (B C : Nat) (hx : InoAt W B x) (hl : LisAt W C l) :
    Calls Tryz.prog 196 #[.slice (some ⟨W.heap.size, 0, none⟩) 2 2] (W.alloc (.cells #[.slice (some ⟨B, 3, none⟩) 4 4, .slice (some ⟨C, 0, none⟩) 32 32] 75)).drew
      fun e w' => ∃ c, e = .returned (.slice (some ⟨W.heap.size + 1, 0, none⟩) 36 c) ∧ U16s w' (.slice (some ⟨W.heap.size + 1, 0, none⟩) 36 c) (x.dir ++ l) ∧ Below W.heap.size W w' := by
  have h1 := heap_alloc_new W (.cells #[.slice (some ⟨B, 3, none⟩) 4 4, .slice (some ⟨C, 0, none⟩) 32 32] 75)
  have hb : Below W.heap.size W (W.alloc (.cells #[.slice (some ⟨B, 3, none⟩) 4 4, .slice (some ⟨C, 0, none⟩) 32 32] 75)) := (Below.refl _ W).alloc (Nat.le_refl _) _
  have hx2 := hx.dirs.below hb
  have hl2 := hl.u16s.below hb
  have hsz : (W.alloc (.cells #[.slice (some ⟨B, 3, none⟩) 4 4, .slice (some ⟨C, 0, none⟩) 32 32] 75)).heap.size = W.heap.size + 1 := by simp
  generalize (W.alloc (.cells #[.slice (some ⟨B, 3, none⟩) 4 4, .slice (some ⟨C, 0, none⟩) 32 32] 75)) = V at *
  have hflat : (List.flatMap (·.2) [(Value.slice (some ⟨B, 3, none⟩) 4 4, x.dir), (.slice (some ⟨C, 0, none⟩) 32 32, l)]) = x.dir ++ l := by simp [List.flatMap_cons]
  have hlen : (x.dir ++ l).length = 36 := by rw [List.length_append, hl.2]; rfl
  refine (concat_any [(.slice (some ⟨B, 3, none⟩) 4 4, x.dir), (.slice (some ⟨C, 0, none⟩) 32 32, l)] W.heap.size 2 V.drew ?_ (by simp) ?_ (by rw [hflat]; omega)).mono ?_
  · intro j v l' hj
    match j, hj with
    | 0, hj =>
      cases hj
      exact ⟨cell_of_row V _ 0 _ _ _ h1, hx2, fun m c' e => by cases e⟩
    | 1, hj =>
      cases hj
      exact ⟨cell_of_row V _ 1 _ _ _ h1, hl2, fun m c' e => by cases e⟩
  · intro p hp
    rcases List.mem_cons.1 hp with rfl | hp
    · show (4 : Nat) ≤ 100; omega
    rcases List.mem_cons.1 hp with rfl | hp
    · show l.length ≤ 100; rw [hl.2]; omega
    cases hp
  · rintro e w' ⟨c2, rfl, hu, hb2⟩
    rw [hflat, hlen, show V.drew.heap.size = W.heap.size + 1 from hsz] at hu
    rw [hflat, hlen, show V.drew.heap.size = W.heap.size + 1 from hsz]
    exact ⟨c2, rfl, hu, hb.trans ((below_of_drew hb2).mono hb.size)⟩
end Go.Proofs.YtnfiapjdkjbdhaaGreat
/- Layer 9 (bmap): the iterator over all blocks. -/
namespace Go.Proofs.YtnfiapjdkjbdhaaGreat
open Go.RowKit Go.Maps Go.Sort Go.Shelf Go.Lib
set_option linter.unusedVariables false
set_option linter.unusedSimpArgs false
set_option maxRecDepth 10000
attribute [local go_sem] Oper.semAt_some
theorem prL_get {x : Im} {l : List Nat} {k : Nat} (hk : k < (x.dir ++ l).length) (hb : (x.dir ++ l)[k] ≠ 0) : (nzL 0 ((x.dir ++ l).take k)).length < (prL x l).length ∧ (prL x l)[(nzL 0 ((x.dir ++ l).take k)).length]? = some (k, (x.dir ++ l)[k]) := by
  have h1 := nzL_take hk
  rw [if_neg hb] at h1
  have h2 : nzL 0 (x.dir ++ l) = nzL 0 ((x.dir ++ l).take (k + 1)) ++ nzL (0 + ((x.dir ++ l).take (k + 1)).length) ((x.dir ++ l).drop (k + 1)) := by
    rw [← nzL_append, List.take_append_drop]
  have h3 : (prL x l)[(nzL 0 ((x.dir ++ l).take k)).length]? = some (k, (x.dir ++ l)[k]) := by
    unfold prL
    rw [h2, h1, List.append_assoc, List.append_assoc, List.getElem?_append_right (Nat.le_refl _), Nat.sub_self]
    rfl
  exact ⟨(List.getElem?_eq_some_iff.1 h3).1, h3⟩
set_option maxRecDepth 100000 in
set_option maxHeartbeats 2000000 in
theorem blocks_in (lp B C : Nat) (x : Im) (l : List Nat) (hlt : ∀ b ∈ l, b < 65536) (hxf : x.fits) (W : World) (hx : InoAt W B x) (hl : LisAt W C l)
    (J : Nat → Nat → World → Prop) (hJd : ∀ p j V, J p j V → InoAt V B x)
    (hstart : ∀ p W', Below W.heap.size W W' → W.heap.size ≤ p → p < W'.heap.size → J p 0 W')
    (hround : ∀ p j (hj : j < (prL x l).length) W1, J p j W1 → YieldAt Fence.wide 6 Tryz.prog lp #[.int .i64 (((prL x l)[j]).1 : Int), w16 ((prL x l)[j]).2] W1 fun e W' => e = .returned (.bool true) ∧ J p (j + 1) W' ∧ W'.heap[p]? = W1.heap[p]?) :
    CallsIn Fence.wide 7 Tryz.prog 228 #[.func (.yield lp) #[] #[], .pointer (some ⟨B, 0, none⟩), .pointer (some ⟨C, 0, none⟩)] W fun e W' => (∃ v, e = .returned v) ∧ ∃ p, J p (prL x l).length W' := by
  have HC := Lib.hid (blocks_cat W x l B C hx hl)
  have h36 : (x.dir ++ l).length = 36 := by rw [List.length_append, hl.2]; rfl
  have HR := Lib.hid hround
  have HJ := Lib.hid hJd
  have HST := Lib.hid hstart
  clear hround hJd hstart hl
  refine callsIn_of_wp Tryz.func228 rfl trivial ?_ rfl
  simp only [Tryz.ntmps228, List.size_toArray, List.length_cons, List.length_nil, Nat.reduceAdd, Nat.reduceSub, Array.replicate_succ, Array.replicate_zero, List.push_toArray, List.append_toArray, List.nil_append, List.cons_append]
  gi_wp2_with fail
  refine wpIn_wide.2 ?_
  go_region_held3 (fun W' => True) (trivial) (first | (go_at_call 196; ((with_reducible refine (HC.out).mono ?_); rintro e w1 ⟨c, rfl, hu, hb⟩; have HU := Lib.hid hu; have HB := Lib.hid hb; clear hu hb)))
  have hsz := HB.out.size
  obtain ⟨A0, c0, hv0, hcell0⟩ := HU.out
  obtain ⟨rfl, -⟩ : A0 = some ⟨W.heap.size + 1, 0, none⟩ ∧ c0 = c := by injection hv0 with e1 e2 e3; exact ⟨e1.symm, e3.symm⟩
  have hcell : ∀ k b, (x.dir ++ l)[k]? = some b → w1.cell? ⟨W.heap.size + 1, k, none⟩ = some (w16 b) := fun k b hb => by
    obtain ⟨a, e, h⟩ := hcell0 k b hb
    cases e
    rwa [addr_add0] at h
  have hp1 : W.heap.size + 1 < w1.heap.size := World.block_lt_of_cell? w1 _ (hcell 0 _ (List.getElem?_eq_getElem (by omega)))
  have hJ0 := HST.out (W.heap.size + 1) w1 HB.out (by omega) hp1
  have Hcell := Lib.hid hcell
  generalize hp : W.heap.size + 1 = p at *
  have hlt2 : ∀ b ∈ x.dir ++ l, b < 65536 := by
    intro b hb
    rcases List.mem_append.1 hb with h | h
    · obtain ⟨-, -, -, h0, h1, h2, h3, h4⟩ := hxf
      simp only [Im.dir, List.mem_cons, List.not_mem_nil, or_false] at h
      rcases h with rfl | rfl | rfl | rfl <;> assumption
    · exact hlt b h
  have HL := Lib.hid hlt2
  have hP : ∀ k b, (x.dir ++ l)[k]? = some b → b ≠ 0 → (prL x l)[(nzL 0 ((x.dir ++ l).take k)).length]? = some (k, b) := fun k b hb hne => by
    obtain ⟨hk, rfl⟩ := List.getElem?_eq_some_iff.1 hb
    exact (prL_get hk hne).2
  have hN : ∀ k b, (x.dir ++ l)[k]? = some b → nzL 0 ((x.dir ++ l).take (k + 1)) = nzL 0 ((x.dir ++ l).take k) ++ if b = 0 then [] else [(k, b)] := fun k b hb => by
    obtain ⟨hk, rfl⟩ := List.getElem?_eq_some_iff.1 hb
    exact nzL_take hk
  have HP := Lib.hid hP
  have HN := Lib.hid hN
  clear hP hN
  clear hcell hcell0 hv0 HC HU HB HST hlt hlt2 hx
  have hend : (nzL 0 ((x.dir ++ l).take 36)).length + (if x.i = 0 then 0 else 1) = (prL x l).length := by
    rw [List.take_of_length_le (by omega)]
    unfold prL
    rw [List.length_append]
    split <;> rfl
  have hlast : x.i ≠ 0 → (prL x l)[(nzL 0 ((x.dir ++ l).take 36)).length]? = some (4, x.i) := fun h => by
    rw [List.take_of_length_le (by omega)]
    unfold prL
    rw [if_neg h, List.getElem?_append_right (Nat.le_refl _), Nat.sub_self]
    rfl
  have HE := Lib.hid hend
  have HLa := Lib.hid hlast
  clear hend hlast
  generalize x.dir ++ l = all at *
  gi_wp2_with fail
  gi_loopw [4, 5, 12] (fun _ _ i wr => ∃ k : Nat, k ≤ 36 ∧ i = .int .i64 k ∧ J p (nzL 0 (all.take k)).length wr ∧ wr.heap[p]? = w1.heap[p]?) (fun _ _ i _ => 36 - (Go.RowKit.intOf i).toNat)
  case atStart => exact ⟨0, Nat.zero_le _, rfl, hJ0, rfl⟩
  case round =>
    obtain ⟨k, hk, rfl, hJk, hpk⟩ := hrel
    by_cases hlt : k < 36
    · obtain ⟨b, hbk⟩ : ∃ b, all[k]? = some b := ⟨_, List.getElem?_eq_getElem (by omega)⟩
      have hcx : wr.cell? ⟨p, k, none⟩ = some (w16 b) := (World.cell?_of_block (a := ⟨p, k, none⟩) hpk).trans (Hcell.out k b hbk)
      have hsucc := HN.out k b hbk
      have hget := HP.out k b hbk
      have hb16 := HL.out b (List.mem_of_getElem? hbk)
      have HPk := Lib.hid hpk
      have HJk := Lib.hid hJk
      clear hpk hJk hbk
      have hI : (k : Int) < 36 := by omega
      by_cases hb : b = 0
      · rw [if_pos hb, List.append_nil] at hsucc
        have HSu := Lib.hid hsucc
        have hne : ((b : Int) != 0) = false := by rw [hb]; rfl
        clear hsucc hget hb
        gi_wp2_with fail
        refine ⟨(fun f h => (by cases h)), ?_⟩
        gi_wp2_with fail
        go_roundw
        case rel => exact ⟨k + 1, by omega, by simp, by rw [HSu.out]; exact HJk.out, HPk.out⟩
        case measure => simp [Go.RowKit.intOf]; omega
      · rw [if_neg hb] at hsucc
        obtain ⟨h1, h3⟩ := List.getElem?_eq_some_iff.1 (hget hb)
        obtain ⟨fn, tmps, assign, body, hy, hR⟩ := HR.out p _ h1 wr HJk.out
        rw [h3] at hy
        have hl2 := congrArg List.length hsucc
        rw [List.length_append] at hl2
        have HSu := Lib.hid hl2
        have hne : ((b : Int) != 0) = true := by simp; omega
        clear hsucc hget h1 h3 hl2
        dsimp only at hy
        gi_wp2_with fail
        refine hR.mono ?_
        rintro e W3 ⟨rfl, hJ3, hk3⟩
        have HJ3 := Lib.hid hJ3
        have HK3 := Lib.hid hk3
        clear hJ3 hk3
        gi_wp2_with fail
        go_roundw
        case rel => exact ⟨k + 1, by omega, by simp, by rw [HSu.out]; exact HJ3.out, HK3.out.trans HPk.out⟩
        case measure => simp [Go.RowKit.intOf]; omega
    · obtain rfl : k = 36 := by omega
      have HJk := Lib.hid hJk
      have hx7 : wr.cell? ⟨B, 7, none⟩ = some (w16 x.i) := cell_of_row wr B 7 _ _ (0, 0) (HJ.out _ _ _ hJk)
      clear hpk hJk
      by_cases hi : x.i = 0
      · have hl := HE.out
        rw [if_pos hi, Nat.add_zero] at hl
        rw [hi] at hx7
        have HEq := Lib.hid hl
        clear hl hi
        gi_wp2_with fail
        go_end0
        exact ⟨⟨_, rfl⟩, p, by rw [← HEq.out]; exact HJk.out⟩
      · have hl := HE.out
        rw [if_neg hi] at hl
        obtain ⟨h1, h3⟩ := List.getElem?_eq_some_iff.1 (HLa.out hi)
        obtain ⟨fn, tmps, assign, body, hy, hR⟩ := HR.out p _ h1 wr HJk.out
        rw [h3] at hy
        have hne : ((x.i : Int) != 0) = true := by simp; omega
        have HEq := Lib.hid hl
        clear hl hi h1 h3
        dsimp only at hy
        rw [show (((4 : Nat) : Nat) : Int) = 4 from rfl] at hy
        gi_wp2_with fail
        refine hR.mono ?_
        rintro e W3 ⟨rfl, hJ3, hk3⟩
        have HJ3 := Lib.hid hJ3
        clear hJ3 hk3
        gi_wp2_with fail
        go_end0
        exact ⟨⟨_, rfl⟩, p, by rw [← HEq.out]; exact HJ3.out⟩
end Go.Proofs.YtnfiapjdkjbdhaaGreat
/- Layer 9 (bmap): what an inode doesn't need. -/
namespace Go.Proofs.YtnfiapjdkjbdhaaGreat
open Go.RowKit Go.Maps Go.Sort Go.Shelf Go.Lib
set_option linter.unusedVariables false
set_option linter.unusedSimpArgs false
set_option maxRecDepth 10000
attribute [local go_sem] Oper.semAt_some
set_option maxHeartbeats 1000000 in
theorem blocks_any9 (x : Im) (l : List Nat) (hl : l.length = 32) (w : World) : Calls Tryz.prog 205 #[x.v, lisV l] w fun e w' => e = .returned (.func (.func 228) #[] #[.pointer (some ⟨w.heap.size, 0, none⟩), .pointer (some ⟨w.heap.size + 1, 0, none⟩)]) ∧
    w' = (w.alloc (.cells #[.int .u8 x.k, w16 x.n, .int .u32 x.z, w16 x.d0, w16 x.d1, w16 x.d2, w16 x.d3, w16 x.i] 41)).alloc (.cells (numV l).toArray 242) := by
  go_enter Tryz.func205, Tryz.ntmps205
  go_wp2_with fail
  go_ret
  exact ⟨rfl, rfl⟩
def GrowI (w : World) (B p : Nat) (t : TypeId) (len : Nat) (cs : List Value) (V : World) : Prop :=
  Only (fun k => k = B) w V ∧ ∃ v, V.cell? ⟨B, 0, none⟩ = some v ∧ V.frozen? ⟨B, 0, none⟩ = false ∧ V.ownsRow (w.heap.size + 2) t 1 v len cs ∧ ∀ k, v.ownBlock = some k → k ≠ p
section
variable {w : World} {B p : Nat} {t : TypeId} {len : Nat} {cs : List Value} {V : World}
theorem GrowI.below {W' : World} (h : GrowI w B p t len cs V) (hB : B < w.heap.size) (hb : Below V.heap.size V W') : GrowI w B p t len cs W' := by
  obtain ⟨h2, v, h3, h4, h5, h6⟩ := h
  have hBv : B < V.heap.size := Nat.lt_of_lt_of_le hB h2.size
  exact ⟨h2.trans (Only.of_below (S := fun k => k = B) hb) (fun _ e => .inl e), v, (cell_same 0 (hb.block B hBv)).trans h3, (World.frozen?_of_block (a := ⟨B, 0, none⟩) (hb.block B hBv)).trans h4,
    h5.kept (grown_of_below hb none) (by cases hv : Value.ownBlock _ <;> simp), h6⟩
theorem GrowI.put (h : GrowI w B p t len cs V) (hB : B < w.heap.size) (l : Nat) (o : Obj) (hl : w.heap.size ≤ l) (hl2 : l ≤ w.heap.size + 1) : GrowI w B p t len cs (V.putObj l o) := by
  obtain ⟨h2, v, h3, h4, h5, h6⟩ := h
  have hk : ∀ k, k ≠ l → (V.putObj l o).heap[k]? = V.heap[k]? := fun k hk => World.putObj_heap_other hk
  refine ⟨⟨h2.os, h2.tape, h2.output, by simpa using h2.size, fun k hkl hS => (hk k (by omega)).trans (h2.block k hkl hS)⟩, v, (cell_same 0 (hk B (by omega))).trans h3, (World.frozen?_of_block (a := ⟨B, 0, none⟩) (hk B (by omega))).trans h4, ?_, h6⟩
  refine h5.kept (row := some l) ⟨rfl, rfl, rfl, by simp, fun k _ hne => hk k (by intro e; subst e; exact hne rfl)⟩ (.inr fun e => ?_)
  have := (h5.lt l e).1
  omega
theorem GrowI.at_ (h : GrowI w B p t len cs V) {k : Nat} (hk : k < w.heap.size) (hB : k ≠ B) : V.heap[k]? = w.heap[k]? := h.1.block k hk hB
end
def numAppend (args : Array Value) : Sem Value := Builtin.append_ #[75, 75] 75 args
theorem num_append_fold (args : Array Value) : Builtin.append_ #[75, 75] 75 args = numAppend args := rfl
attribute [local go_sem ↓] num_append_fold
def freeL (q : Int) (ps : List (Nat × Nat)) : List Nat := (ps.filter fun r => decide (q ≤ (r.1 : Int))).map (·.2)
theorem freeL_succ (q : Int) (ps : List (Nat × Nat)) {j : Nat} (hj : j < ps.length) : freeL q (ps.take (j + 1)) = freeL q (ps.take j) ++ if q ≤ (ps[j].1 : Int) then [ps[j].2] else [] := by
  unfold freeL
  rw [List.take_succ_eq_append_getElem hj, List.filter_append, List.map_append]
  congr 1
  by_cases h : q ≤ (ps[j].1 : Int)
  · rw [if_pos h, List.filter_cons_of_pos (by simpa using h)]; rfl
  · rw [if_neg h, List.filter_cons_of_neg (by simpa using h)]; rfl
theorem freeL_length (q : Int) (ps : List (Nat × Nat)) (j : Nat) : (freeL q (ps.take j)).length ≤ j := by
  unfold freeL
  rw [List.length_map]
  refine Nat.le_trans (List.length_filter_le _ _) ?_
  rw [List.length_take]; omega
theorem prL_length (x : Im) (l : List Nat) (hl : l.length = 32) : (prL x l).length ≤ 37 := by
  unfold prL
  have := nzL_length 0 (x.dir ++ l)
  rw [List.length_append] at this ⊢
  have h4 : x.dir.length = 4 := rfl
  split <;> simp <;> omega
theorem blocks_in' (lp B C : Nat) (x : Im) (l : List Nat) (hlt : ∀ b ∈ l, b < 65536) (hxf : x.fits) (PL : List (Nat × Nat)) (hPL : prL x l = PL) (W : World) (hx : InoAt W B x) (hl : LisAt W C l)
    (J : Nat → Nat → World → Prop) (hJd : ∀ p j V, J p j V → InoAt V B x)
    (hstart : ∀ p W', Below W.heap.size W W' → W.heap.size ≤ p → p < W'.heap.size → J p 0 W')
    (hround : ∀ p j (hj : j < PL.length) W1, J p j W1 → YieldAt Fence.wide 6 Tryz.prog lp #[.int .i64 ((PL[j]).1 : Int), w16 (PL[j]).2] W1 fun e W' => e = .returned (.bool true) ∧ J p (j + 1) W' ∧ W'.heap[p]? = W1.heap[p]?) :
    CallsIn Fence.wide 7 Tryz.prog 228 #[.func (.yield lp) #[] #[], .pointer (some ⟨B, 0, none⟩), .pointer (some ⟨C, 0, none⟩)] W fun e W' => (∃ v, e = .returned v) ∧ ∃ p, J p PL.length W' := by
  subst hPL
  exact blocks_in lp B C x l hlt hxf W hx hl J hJd hstart hround
set_option maxRecDepth 100000 in
set_option maxHeartbeats 4000000 in
theorem spare_any (x : Im) (hxf : x.fits) (l : List Nat) (hl : l.length = 32) (hlt : ∀ b ∈ l, b < 65536) (q : Int) (w : World) :
    Calls Tryz.prog 164 #[x.v, lisV l, .int .i64 q] w fun e w' => ∃ v, e = .returned v ∧ U16s w' v (freeL q (prL x l)) ∧ (∀ k, v.ownBlock = some k → w.heap.size ≤ k) ∧ Below w.heap.size w w' := by
  obtain ⟨PL, hPL⟩ : ∃ PL, prL x l = PL := ⟨_, rfl⟩
  have hN := prL_length x l hl
  rw [hPL] at hN ⊢
  obtain ⟨W4, hW4⟩ : ∃ W4, ((((w.alloc (.cells #[.int .u8 x.k, w16 x.n, .int .u32 x.z, w16 x.d0, w16 x.d1, w16 x.d2, w16 x.d3, w16 x.i] 41)).alloc (.cells (numV l).toArray 242)).alloc (.cells #[.int .i64 q] 3)).alloc (.cells #[.slice none 0 0] 75)) = W4 := ⟨_, rfl⟩
  have hs4 : W4.heap.size = w.heap.size + 4 := by rw [← hW4]; simp
  have hb4 : Below w.heap.size w W4 := by
    rw [← hW4]; exact ((((Below.refl _ w).alloc (Nat.le_refl _) _).alloc (by simp) _).alloc (by simp; omega) _).alloc (by simp; omega) _
  have hlis : LisAt W4 (w.heap.size + 1) l := by
    rw [← hW4]
    refine ⟨?_, hl⟩
    rw [heap_alloc_old _ _ (by simp), heap_alloc_old _ _ (by simp)]
    simpa using heap_alloc_new (w.alloc (.cells #[.int .u8 x.k, w16 x.n, .int .u32 x.z, w16 x.d0, w16 x.d1, w16 x.d2, w16 x.d3, w16 x.i] 41)) (.cells (numV l).toArray 242)
  have hq4 : W4.heap[w.heap.size + 1 + 1]? = some (.cells #[.int .i64 q] 3 (0, 0)) := by
    rw [← hW4, heap_alloc_old _ _ (by simp)]
    simpa using heap_alloc_new ((w.alloc (.cells #[.int .u8 x.k, w16 x.n, .int .u32 x.z, w16 x.d0, w16 x.d1, w16 x.d2, w16 x.d3, w16 x.i] 41)).alloc (.cells (numV l).toArray 242)) (.cells #[.int .i64 q] 3)
  have hf4 : W4.heap[w.heap.size + 1 + 1 + 1]? = some (.cells #[.slice none 0 0] 75 (0, 0)) := by
    rw [← hW4]
    simpa using heap_alloc_new (((w.alloc (.cells #[.int .u8 x.k, w16 x.n, .int .u32 x.z, w16 x.d0, w16 x.d1, w16 x.d2, w16 x.d3, w16 x.i] 41)).alloc (.cells (numV l).toArray 242)).alloc (.cells #[.int .i64 q] 3)) (.cells #[.slice none 0 0] 75)
  have hld := lis_load hlis
  rw [← hW4] at hld
  refine (callsIn_wide (n := 8)).1 ?_
  refine callsIn_of_wp_marks Tryz.func164 rfl trivial ?_ rfl
  simp only [Tryz.ntmps164, List.size_toArray, List.length_cons, List.length_nil, Nat.reduceAdd, Nat.reduceSub, Array.replicate_succ, Array.replicate_zero, List.push_toArray, List.append_toArray, List.nil_append, List.cons_append]
  have HW4 := Lib.hid hW4
  clear hW4
  gi_wp2_with fail
  refine ⟨trivial, (callsIn_wide.2 (blocks_any9 x l hl _)).mono ?_⟩
  rintro e w2 ⟨rfl, rfl⟩
  rw [HW4.out]
  clear hld HW4 hlis
  gi_wp2_with fail
  obtain ⟨W0, hW0⟩ : ∃ W0, (W4.alloc (.cells #[.int .u8 x.k, w16 x.n, .int .u32 x.z, w16 x.d0, w16 x.d1, w16 x.d2, w16 x.d3, w16 x.i] 41)).alloc (.cells (numV l).toArray 242) = W0 := ⟨_, rfl⟩
  have hs0 : W0.heap.size = w.heap.size + 6 := by rw [← hW0]; simp; omega
  have hB40 : Below W4.heap.size W4 W0 := by rw [← hW0]; exact ((Below.refl _ W4).alloc (Nat.le_refl _) _).alloc (by simp) _
  have hB0 : Below w.heap.size w W0 := hb4.trans (hB40.mono (by omega))
  have hx0 : InoAt W0 (w.heap.size + 4) x := by
    rw [← hW0, ← hs4]; exact (heap_two W4 _ _).1
  have hl0 : LisAt W0 (w.heap.size + 4 + 1) l := by
    rw [← hW0, ← hs4]; exact ⟨(heap_two W4 _ _).2, hl⟩
  have hq0 : W0.heap[w.heap.size + 1 + 1]? = some (.cells #[.int .i64 q] 3 (0, 0)) := (hB40.block _ (by omega)).trans hq4
  have hf0 : W0.heap[w.heap.size + 1 + 1 + 1]? = some (.cells #[.slice none 0 0] 75 (0, 0)) := (hB40.block _ (by omega)).trans hf4
  rw [hW0]
  clear hW0 hB40 hb4 hq4 hf4
  have hBk : w.heap.size + 1 + 1 + 1 < W0.heap.size := by omega
  have h00 : ∀ p, GrowI W0 (w.heap.size + 1 + 1 + 1) p 38 0 [] W0 := fun p => ⟨Only.refl _ _, .slice none 0 0, cell_of_row _ _ 0 _ _ _ hf0, frozen_of_row _ _ 0 _ _ hf0, World.ownsRow_nil _ _ _ _, fun k hk => by cases hk⟩
  have hboxx : ∀ (p len : Nat) (cs : List Value) (V : World), GrowI W0 (w.heap.size + 1 + 1 + 1) p 38 len cs V → InoAt V (w.heap.size + 4) x := fun p len cs V h => (h.at_ (by omega) (by omega)).trans hx0
  have hboxl : ∀ (p len : Nat) (cs : List Value) (V : World), GrowI W0 (w.heap.size + 1 + 1 + 1) p 38 len cs V → LisAt V (w.heap.size + 4 + 1) l := fun p len cs V h => ⟨(h.at_ (by omega) (by omega)).trans hl0.1, hl⟩
  have hboxq : ∀ (p len : Nat) (cs : List Value) (V : World), GrowI W0 (w.heap.size + 1 + 1 + 1) p 38 len cs V → V.cell? ⟨w.heap.size + 1 + 1, 0, none⟩ = some (.int .i64 q) := fun p len cs V h => cell_of_row V _ 0 _ _ _ ((h.at_ (by omega) (by omega)).trans hq0)
  have HX := Lib.hid hboxx
  have HLb := Lib.hid hboxl
  have HQ := Lib.hid hboxq
  have hit := fun (lp : Nat) (W : World) (hx : InoAt W (w.heap.size + 4) x) (hl : LisAt W (w.heap.size + 4 + 1) l) J h1 h2 h3 => blocks_in' lp (w.heap.size + 4) (w.heap.size + 4 + 1) x l hlt hxf PL hPL W hx hl J h1 h2 h3
  have HIt := Lib.hid hit
  clear hPL hit hboxx hboxl hboxq hx0 hl0 hq0 hf0 hxf hlt
  refine range_told (n := 8) (by decide) (gf := 228) (lb := #[.pointer (some ⟨w.heap.size + 4, 0, none⟩), .pointer (some ⟨w.heap.size + 4 + 1, 0, none⟩)]) rfl (enters_of Tryz.func228 (by kernel_rfl) rfl) PL.length
    (fun j args V => args = #[.int .i64 ((PL.getD j (0, 0)).1 : Int), w16 (PL.getD j (0, 0)).2])
    (fun p j V => GrowI W0 (w.heap.size + 1 + 1 + 1) p 38 (freeL q (PL.take j)).length (numV (freeL q (PL.take j))) V) ?hit ?h0 ?hput
    (fun p j a' V => GrowI W0 (w.heap.size + 1 + 1 + 1) p 38 (freeL q (PL.take j)).length (numV (freeL q (PL.take j))) V ∧ a' = { tmps := #[x.v, lisV l, .int .i64 q, .pointer (some ⟨w.heap.size, 0, none⟩), .pointer (some ⟨w.heap.size + 1, 0, none⟩), .pointer (some ⟨w.heap.size + 1 + 1, 0, none⟩), .slice none 0 0, .pointer (some ⟨w.heap.size + 1 + 1 + 1, 0, none⟩), .int .i64 ((PL.getD j (0, 0)).1 : Int), w16 (PL.getD j (0, 0)).2, x.v, lisV l, .func (.func 228) #[] #[.pointer (some ⟨w.heap.size + 4, 0, none⟩), .pointer (some ⟨w.heap.size + 4 + 1, 0, none⟩)], .int .i64 ((PL.getD j (0, 0)).1 : Int), w16 (PL.getD j (0, 0)).2, undef, undef, undef, undef, undef, undef, undef, undef], defers := [] }) ?hAx ?hassign ?hbody ?hdone
  case hit =>
    intro lp J V hJI hst hrd hb
    have hG := (h00 0).below hBk hb
    exact HIt.out lp V (HX.out _ _ _ V hG) (HLb.out _ _ _ V hG) J (fun p j V' hJ => HX.out _ _ _ V' (hJI p j V' hJ)) hst (fun p j hj V' hJ => by
      have := hrd p j hj #[.int .i64 (PL[j].1 : Int), w16 PL[j].2] V' hJ (by rw [List.getD_eq_getElem?_getD, List.getElem?_eq_getElem hj]; rfl)
      exact this)
  case h0 =>
    intro p V hb _ _
    exact (h00 p).below hBk hb
  case hput =>
    intro p j V l o hl hl2 h
    exact h.put hBk l o hl hl2
  case hAx =>
    rintro p j a' V l o hl hl2 ⟨hD, rfl⟩
    exact ⟨hD.put hBk l o hl hl2, rfl⟩
  case hassign =>
    rintro lp p j args V hj hp1 hp2 hD rfl
    refine ⟨rfl, ?_⟩
    have HD := Lib.hid hD
    clear hD
    generalize PL.getD j (0, 0) = r
    gi_wp2_with fail
    exact ⟨KeepB.refl _ _ _, HD.out, trivial⟩
  case hbody =>
    rintro lp p j a' V hj hp1 hp2 ⟨hD, rfl⟩
    have hcq := HQ.out _ _ _ V hD
    have hts := freeL_succ q PL hj
    have hfl := freeL_length q PL j
    rw [show PL.getD j (0, 0) = PL[j] by rw [List.getD_eq_getElem?_getD, List.getElem?_eq_getElem hj]; rfl]
    have HT := Lib.hid hts
    clear hts
    generalize PL[j] = r at *
    obtain ⟨a, b⟩ := r
    simp only at HT
    generalize freeL q (PL.take j) = xs at *
    by_cases hqa : q ≤ (a : Int)
    · have ht2 := HT.out
      rw [if_pos hqa] at ht2
      have HT2 := Lib.hid ht2
      clear ht2 HT
      obtain ⟨ho, v, hc, hf, hw, hp⟩ := hD
      have hsz := ho.size
      obtain ⟨i, hi, hz, hsi, hby⟩ := info_parts num16Info
      obtain ⟨v', W2, hap, hown, hg, _, hor⟩ := run_append_own_at (P := Tryz.prog) (w := V.alloc (.cells #[w16 b] 38)) (W0.heap.size + 2) 75 75 38 i _ 1 2 Tryz.underlying75 hi hz hsi hby rfl (by decide) v xs.length _ (hw.alloc _) ⟨V.heap.size, 0, none⟩ 1 1 [w16 b] rfl (cell_one_new _ _ _) (by intro u hu; simp at hu; subst hu; rfl) (by unfold maxLen; omega) (by omega) (by simp; omega)
      obtain ⟨g', cap', rfl⟩ := ownsRow_succ hown
      have hvb : ∀ k, v.ownBlock = some k → W0.heap.size + 2 ≤ k ∧ k < V.heap.size := fun k hk => hw.lt k hk
      have hsz2 : V.heap.size + 1 ≤ W2.heap.size := by have := hg.size; simpa using this
      have hkeep : ∀ k, k < V.heap.size → v.ownBlock ≠ some k → W2.heap[k]? = V.heap[k]? := fun k hk hne => (hg.block k (by simp; omega) (fun e => hne e.symm)).trans (Below.heap_alloc V _ k hk)
      have hlow : ∀ k, k < W0.heap.size + 2 → W2.heap[k]? = V.heap[k]? := by
        intro k hk
        by_cases hkv : k < V.heap.size
        · exact hkeep k hkv (fun e => by have := hvb k e; omega)
        · exfalso; omega
      have hc2 : W2.cell? ⟨w.heap.size + 1 + 1 + 1, 0, none⟩ = some v := (cell_same 0 (hlow _ (by omega))).trans hc
      have hf2 : W2.frozen? ⟨w.heap.size + 1 + 1 + 1, 0, none⟩ = false := (World.frozen?_of_block (a := ⟨w.heap.size + 1 + 1 + 1, 0, none⟩) (hlow (w.heap.size + 1 + 1 + 1) (by omega))).trans hf
      have hset : ∀ k, k ≠ w.heap.size + 1 + 1 + 1 → (W2.setCell ⟨w.heap.size + 1 + 1 + 1, 0, none⟩ (.slice (some ⟨g', 0, none⟩) (xs.length + 1) cap')).heap[k]? = W2.heap[k]? := fun k hk => set_other _ _ _ _ _ hk
      have hfin : KeepB W0.heap.size p V (W2.setCell ⟨w.heap.size + 1 + 1 + 1, 0, none⟩ (.slice (some ⟨g', 0, none⟩) (xs.length + 1) cap')) ∧ GrowI W0 (w.heap.size + 1 + 1 + 1) p 38 (xs.length + 1) (numV xs ++ [w16 b]) (W2.setCell ⟨w.heap.size + 1 + 1 + 1, 0, none⟩ (.slice (some ⟨g', 0, none⟩) (xs.length + 1) cap')) := by
        refine ⟨⟨?_, ?_, ?_⟩, ?_, _, set_here _ hc2, by rw [World.frozen?_setCell]; exact hf2, ?_, ?_⟩
        · rw [hset _ (by omega)]; exact hlow _ (by omega)
        · rw [hset _ (by omega)]; exact hlow _ (by omega)
        · rw [hset _ (by omega)]; exact hkeep p hp2 (fun e => hp p e rfl)
        · refine ⟨hg.os.trans ho.os, hg.tape.trans ho.tape, hg.output.trans ho.output, by rw [set_size]; omega, fun k hk hn => ?_⟩
          rw [hset k hn, hlow k (by omega)]
          exact ho.block k hk hn
        · exact ownsRow_setCell_below hown (by show w.heap.size + 1 + 1 + 1 < _; omega) _
        · intro k hk
          rcases hor with e | e
          · rw [e] at hk; exact hp k hk
          · rw [e] at hk; cases hk; simp; omega
      have HF := Lib.hid hfin
      have hde : decide (q ≤ (a : Int)) = true := decide_eq_true hqa
      clear hfin hkeep hlow hset hvb hown hg hor hw hp ho hqa
      change (numAppend #[v, .slice (some ⟨V.heap.size, 0, none⟩) 1 1]).run Tryz.prog _ = _ at hap
      gi_wp2_with fail
      exact ⟨HF.out.1, by rw [HT2.out, numV_append, List.length_append]; exact HF.out.2⟩
    · have ht2 := HT.out
      rw [if_neg hqa, List.append_nil] at ht2
      have HT2 := Lib.hid ht2
      have HD := Lib.hid hD
      have hde : decide (q ≤ (a : Int)) = false := decide_eq_false hqa
      clear ht2 HT hD hqa
      gi_wp2_with fail
      exact ⟨KeepB.refl _ _ _, by rw [HT2.out]; exact HD.out⟩
  case hdone =>
    intro p V hD hK
    rw [List.take_length] at hD
    obtain ⟨ho2, v, hc, hf, hw, _⟩ := hD
    have hbl : Below w.heap.size W0 V := ho2.below (by omega) (fun k e => by omega)
    have HB := Lib.hid (hB0.trans hbl)
    have HW := Lib.hid hw
    clear hbl ho2 hw
    gi_wp2_with fail
    refine ⟨by simp, .inl ⟨_, _, rfl, run_takeDeferred hK, ?_⟩⟩
    have hne : ∀ k, k ≠ W0.heap.size → (V.putObj W0.heap.size (.deferred none)).heap[k]? = V.heap[k]? := fun k hk => World.putObj_heap_other hk
    refine ⟨_, results_tmp rfl _ _ _, v, rfl, ?_, fun k hk => by have := (HW.out.lt k hk).1; omega, ?_⟩
    · obtain ⟨A, cc, hv, hcells⟩ := u16s_own HW.out
      refine ⟨A, cc, hv, fun j n hu => ?_⟩
      obtain ⟨a, hA, hcell⟩ := hcells j n hu
      refine ⟨a, hA, ?_⟩
      subst hA
      have hgg := (HW.out.lt a.block (by rw [hv]; rfl)).1
      have e := World.cell?_of_block (a := a.add j) (w := V) (w' := V.putObj W0.heap.size (.deferred none)) (by rw [show (a.add j).block = a.block by unfold Addr.add; split <;> rfl]; exact hne _ (by omega))
      exact e.trans hcell
    · refine ⟨HB.out.os, HB.out.tape, HB.out.output, by rw [World.putObj_size]; exact HB.out.size, fun k hk => ?_⟩
      rw [hne k (by omega)]; exact HB.out.block k hk
end Go.Proofs.YtnfiapjdkjbdhaaGreat
/- Layer 2 (crc): More, Sum, Seal, Open. -/
namespace Go.Proofs.YtnfiapjdkjbdhaaGreat
open Go.RowKit
set_option linter.unusedVariables false
set_option linter.unusedSimpArgs false
set_option maxRecDepth 10000
theorem parts_lit (w : World) (t : TypeId) (ps : List (List UInt8)) : Parts (w.alloc (.cells (ps.map str).toArray t)).heap.size (w.alloc (.cells (ps.map str).toArray t)) (.slice (some ⟨w.heap.size, 0, none⟩) ps.length ps.length) ps := by
  refine ⟨some ⟨w.heap.size, 0, none⟩, ps.length, rfl, fun j p hj => ⟨_, rfl, by simp, ?_⟩⟩
  rw [cell_of_row _ _ j _ t (0, 0) (heap_alloc_new w _)]
  simp [hj]
def sumL (l : List UInt8) : BitVec 32 := ~~~ (crcL 0xffffffff#32 l)
theorem reg_not' (c : BitVec 32) : Value.int .u32 (bits .xor .u32 IntKind.u32.max (c.toNat : Int)) = reg (~~~ c) := by
  have h := reg_xor 0xffffffff#32 c
  have h2 : (IntKind.u32.max : Int) = ((0xffffffff#32 : BitVec 32).toNat : Int) := by decide
  rw [h2, h, ones_all, BitVec.allOnes_xor]
set_option maxHeartbeats 400000 in
theorem sum_any (v : Value) (ps : List (List UInt8)) (w : World) (hps : ps.length ≤ 1048576) (hlen : ∀ p ∈ ps, p.length ≤ 1048576) (hP : Parts w.heap.size w v ps) :
    Calls Tryz.prog 243 #[v] w fun e w' => e = .returned (reg (sumL ps.flatten)) ∧ Below w.heap.size w w' := by
  have hp := process_any 0xffffffff#32 v ps w hps hlen hP
  have Hp := Lib.hid hp
  clear hp
  obtain ⟨A, m, rfl, hc⟩ := hP
  clear hc
  go_enter Tryz.func243, Tryz.ntmps243
  go_wp2_with fail
  refine (Hp.out).mono ?_
  rintro e w1 ⟨rfl, hb1⟩
  go_wp2_with fail
  go_ret
  exact ⟨by rw [reg_not']; rfl, hb1⟩
theorem sealL_eq (l : List UInt8) : leB 4 (sumL l).toNat = sealL l := by
  unfold sealL sumL
  generalize ~~~ (crcL 0xffffffff#32 l) = v
  simp only [leB, four, Nat.div_div_eq_div_mul]
set_option maxHeartbeats 400000 in
theorem seal_any (l : List UInt8) (w : World) (hl : l.length ≤ 1048576) :
    Calls Tryz.prog 222 #[str l] w fun e w' => e = .returned (str (sealL l)) ∧ Below w.heap.size w w' := by
  have hp := fun (v : Value) W => sum_any v [l] W (by simp) (by simpa using hl)
  simp only [List.flatten_cons, List.flatten_nil, List.append_nil] at hp
  have hq := parts_lit w 9 [l]
  have hn := fun W => num_ok (sumL l).toNat 4 W (by have := (sumL l).isLt; omega) (by decide) (by
    have := (sumL l).isLt
    have h2 : (sumL l).toNat / 2 ^ (8 * 4) = 0 := Nat.div_eq_of_lt this
    have h3 : (((sumL l).toNat : Int) / 2 ^ (8 * 4)) = (((sumL l).toNat / 2 ^ (8 * 4) : Nat) : Int) := by simp
    rw [h3, h2]; rfl)
  rw [sealL_eq] at hn
  have Hp := Lib.hid hp
  have Hq := Lib.hid hq
  have Hn := Lib.hid hn
  clear hp hq hn
  have hlt := (sumL l).isLt
  go_enter Tryz.func222, Tryz.ntmps222
  go_wp2_with fail
  refine (Hp.out _ _ Hq.out).mono ?_
  rintro e w1 ⟨rfl, hb1⟩
  go_wp2_with fail
  refine (Hn.out _).mono ?_
  rintro e w2 ⟨rfl, hb2⟩
  go_wp2_with fail
  go_ret
  exact ⟨rfl, chain (((Below.refl _ _).alloc (Nat.le_refl _) _).trans (hb1.mono (by simp))) hb2⟩
set_option maxHeartbeats 400000 in
theorem sealAll_any (l : List UInt8) (w : World) (hl : l.length ≤ 1048576) :
    Calls Tryz.prog 242 #[str l] w fun e w' => e = .returned (str (l ++ sealL l)) ∧ Below w.heap.size w w' := by
  go_enter Tryz.func242, Tryz.ntmps242
  go_wp2_with fail
  refine (seal_any l _ hl).mono ?_
  rintro e w1 ⟨rfl, hb1⟩
  have hsl := sealL_length l
  generalize hs : sealL l = s at hsl
  have Hs := Lib.hid hs
  clear hs
  go_wp2_with fail
  rw [Hs.out]
  go_ret
  exact ⟨rfl, hb1⟩
set_option maxHeartbeats 400000 in
theorem clone_any (l : List UInt8) (w : World) (hl : l.length ≤ 1048576) :
    Calls Tryz.prog 223 #[str l] w fun e w' => e = .returned (str l) ∧ Below w.heap.size w w' := by
  go_enter Tryz.func223, Tryz.ntmps223
  go_wp2_with fail
  refine (Tryz.stringslite_Clone ⟨l.toArray⟩ _ (by simp [ByteArray.size]; omega)).mono ?_
  rintro e w1 ⟨rfl, hb1⟩
  go_wp2_with fail
  go_ret
  exact ⟨rfl, hb1⟩
set_option maxHeartbeats 400000 in
theorem open_bad (t q : List UInt8) (w : World) (hl : t.length ≤ 1048576) (hq : q.length = 4) (h : q ≠ sealL t) :
    Calls Tryz.prog 190 #[str (t ++ q)] w fun e w' => e = .returned (.tuple #[str [], .int .i64 7]) ∧ Below w.heap.size w w' := by
  have hc := fun (n : Int) (hn : n = (t.length : Int)) W => cut_ok (t ++ q) n t.length W (by simp only [maxLen, List.length_append]; omega) hn (by simp)
  rw [List.take_left, List.drop_left] at hc
  have h1 : (q == sealL t) = false := by simp [h]
  have hl2 : (t ++ q).length = t.length + 4 := by simp [hq]
  have Hc := Lib.hid hc
  clear hc h
  generalize t ++ q = s at hl2 Hc
  go_enter Tryz.func190, Tryz.ntmps190
  go_wp2_with fail
  refine (Hc.out _ (by omega) _).mono ?_
  rintro e w1 ⟨rfl, hb1⟩
  go_wp2_with fail
  refine (seal_any t _ hl).mono ?_
  rintro e w2 ⟨rfl, hb2⟩
  go_wp2_with fail
  go_ret2
  exact ⟨rfl, chain hb1 hb2⟩
set_option maxHeartbeats 400000 in
theorem open_ok (t : List UInt8) (w : World) (hl : t.length ≤ 1048576) :
    Calls Tryz.prog 190 #[str (t ++ sealL t)] w fun e w' => e = .returned (.tuple #[str t, .int .i64 0]) ∧ Below w.heap.size w w' := by
  have hq := sealL_length t
  have hc := fun (n : Int) (hn : n = (t.length : Int)) W => cut_ok (t ++ sealL t) n t.length W (by simp only [maxLen, List.length_append]; omega) hn (by simp)
  rw [List.take_left, List.drop_left] at hc
  have hl2 : (t ++ sealL t).length = t.length + 4 := by simp [hq]
  have hs := fun W => seal_any t W hl
  have Hc := Lib.hid hc
  have Hs := Lib.hid hs
  clear hc hs
  generalize t ++ sealL t = s at hl2 Hc
  generalize sealL t = q at Hc Hs hq
  go_enter Tryz.func190, Tryz.ntmps190
  go_wp2_with fail
  refine (Hc.out _ (by omega) _).mono ?_
  rintro e w1 ⟨rfl, hb1⟩
  go_wp2_with fail
  refine (Hs.out _).mono ?_
  rintro e w2 ⟨rfl, hb2⟩
  go_wp2_with fail
  refine (clone_any t _ hl).mono ?_
  rintro e w3 ⟨rfl, hb3⟩
  go_wp2_with fail
  go_ret2
  exact ⟨rfl, chain (chain hb1 hb2) hb3⟩
end Go.Proofs.YtnfiapjdkjbdhaaGreat
/- Layer 3 (dev): what the laws use: a text as a sector's bytes, lists of ints, a device that is held. -/
namespace Go.Proofs.YtnfiapjdkjbdhaaGreat
open Go.RowKit Go.Maps
set_option linter.unusedVariables false
set_option linter.unusedSimpArgs false
set_option maxRecDepth 10000
theorem make_noughts (k : Nat) (hk : k ≤ 65536) (w : World) :
    (Instr.makeSlice 53 (.int .i64 (k : Int)) (.int .i64 (k : Int))).run Tryz.prog w = .ok (.slice (some ⟨w.heap.size, 0, none⟩) k k) (w.alloc (.cells (byteCells (List.replicate k 0)) 5)) := by
  have hinfo : (Tryz.prog.info? 5).map (fun i => (i.zero, i.size, i.bytes)) = some (some (.int .u8 0), 1, 1) := by kernel_rfl
  obtain ⟨i, hi, hz, hsz, hby⟩ := info_parts hinfo
  have hr := run_make (P := Tryz.prog) w 53 5 i _ Tryz.underlying53 hi hz .i64 .i64 k k (by omega) (by omega) (by rw [hby]; omega) (by omega)
  simp only [Int.toNat_natCast] at hr
  rw [hr, hsz, Nat.mul_one]
  have := made_bytes k
  simp only [Value.cells] at *
  rw [this]
end Go.Proofs.YtnfiapjdkjbdhaaGreat
/- Layer 3 (dev): a device that a call holds; the chapter's examples. -/
namespace Go.Proofs.YtnfiapjdkjbdhaaGreat
open Go.RowKit Go.Maps
set_option linter.unusedVariables false
set_option linter.unusedSimpArgs false
set_option maxRecDepth 10000
structure Keeps (K : Nat → Prop) (w W : World) : Prop where
  lt : ∀ k, K k → k < w.heap.size
  os : W.os = w.os
  tape : W.tape = w.tape
  output : W.output = w.output
  size : w.heap.size ≤ W.heap.size
  same : ∀ k, K k → W.heap[k]? = w.heap[k]?
theorem Keeps.refl {K : Nat → Prop} {w : World} (h : ∀ k, K k → k < w.heap.size) : Keeps K w w := ⟨h, rfl, rfl, rfl, Nat.le_refl _, fun _ _ => rfl⟩
theorem Keeps.trans {K K' : Nat → Prop} {a b c : World} (h : Keeps K a b) (k : Keeps K' b c) (hk : ∀ q, K q → K' q) : Keeps K a c :=
  ⟨h.lt, k.os.trans h.os, k.tape.trans h.tape, k.output.trans h.output, Nat.le_trans h.size k.size, fun q hq => (k.same q (hk q hq)).trans (h.same q hq)⟩
theorem Keeps.below {K : Nat → Prop} {w W W' : World} (h : Keeps K w W) (hb : Below W.heap.size W W') : Keeps K w W' :=
  ⟨h.lt, hb.os.trans h.os, hb.tape.trans h.tape, hb.output.trans h.output, Nat.le_trans h.size hb.size, fun k hk => (hb.block k (Nat.lt_of_lt_of_le (h.lt k hk) h.size)).trans (h.same k hk)⟩
theorem Keeps.only {K S : Nat → Prop} {w W W' : World} (h : Keeps K w W) (ho : Only S W W') (hs : ∀ k, S k → ¬ K k) : Keeps K w W' :=
  ⟨h.lt, ho.os.trans h.os, ho.tape.trans h.tape, ho.output.trans h.output, Nat.le_trans h.size ho.size, fun k hk => (ho.block k (Nat.lt_of_lt_of_le (h.lt k hk) h.size) (fun e => hs k e hk)).trans (h.same k hk)⟩
def All (w : World) (k : Nat) : Prop := k < w.heap.size
theorem Keeps.all {w W : World} (h : Keeps (All w) w W) : Below w.heap.size w W := ⟨h.os, h.tape, h.output, h.size, fun k hk => h.same k hk⟩
theorem Keeps.start (w : World) : Keeps (All w) w w := .refl fun _ h => h
def Held (K : Nat → Prop) (w W : World) (b : Nat) (M : Dv) : Prop := Keeps K w W ∧ ∃ S, DevAt S W b M ∧ ∀ k, S k → ¬ K k
theorem Held.keeps {K : Nat → Prop} {w W : World} {b : Nat} {M : Dv} (h : Held K w W b M) : Keeps K w W := h.1
theorem Held.below {K : Nat → Prop} {w W W' : World} {b : Nat} {M : Dv} (h : Held K w W b M) (hb : Below W.heap.size W W') : Held K w W' b M := by
  obtain ⟨h1, S, h3, h4⟩ := h
  exact ⟨h1.below hb, S, h3.below hb, h4⟩
theorem Held.fine {K : Nat → Prop} {w W : World} {b : Nat} {M : Dv} (h : Held K w W b M) : Fine M := h.2.elim fun _ h => h.1.fine
theorem Held.more {K K' : Nat → Prop} {w W W' : World} {b : Nat} {M : Dv} (h : Held K w W b M) (hb : Below W.heap.size W W') (hk : ∀ k, K' k → K k ∨ (W.heap.size ≤ k ∧ k < W'.heap.size)) : Held K' W' W' b M := by
  obtain ⟨h1, S, h3, h4⟩ := h
  refine ⟨.refl fun k hk' => ?_, S, h3.below hb, fun k hs hk' => ?_⟩
  · rcases hk k hk' with e | e
    · exact Nat.lt_of_lt_of_le (Nat.lt_of_lt_of_le (h1.lt k e) h1.size) hb.size
    · exact e.2
  · rcases hk k hk' with e | e
    · exact h4 k hs e
    · have := h3.lt k hs; omega
theorem calls_step {f : FuncId} {args : Array Value} {W : World} {b : Nat} {M N : Dv} {r : Value} {K : Nat → Prop} {w : World} (h : Held K w W b M) (hc : ∀ S, DevAt S W b M → Calls Tryz.prog f args W fun e w' => e = .returned r ∧ Step S W b N w') :
    Calls Tryz.prog f args W fun e w' => e = .returned r ∧ Held K w w' b N := by
  obtain ⟨h1, S, h3, h4⟩ := h
  refine (hc S h3).mono ?_
  rintro e w' ⟨he, S', hd, ho, hk⟩
  refine ⟨he, h1.only ho h4, S', hd, fun k e hK => ?_⟩
  rcases hk k e with e | e
  · exact h4 k e hK
  · have := h1.lt k hK; have := h1.size; omega
section
variable {K : Nat → Prop} {w W : World} {b : Nat} {M : Dv}
theorem held_write (h : Held K w W b M) (hw : M.wr < 1099511627776) (i : Int) (s : List UInt8) :
    Calls Tryz.prog 77 #[devp b, .int .i64 i, str s] W fun e w' => e = .returned (.int .i64 (M.wroteE i s)) ∧ Held K w w' b (M.wrote i s) :=
  calls_step h fun S hS => write_all hS hw i s
theorem held_flush (h : Held K w W b M) (hd : M.down = false) (hw : M.wr ≤ 1099511627776) :
    Calls Tryz.prog 78 #[devp b] W fun e w' => e = .returned (.int .i64 0) ∧ Held K w w' b M.flush :=
  calls_step h fun S hS => flush_any hS hd hw
theorem held_down (h : Held K w W b M) : Calls Tryz.prog 80 #[devp b] W fun e w' => e = .returned (.bool M.down) ∧ W = w' := by
  obtain ⟨h1, S, h3, h4⟩ := h
  exact downFn_any b _ W (h3.down_cell rfl)
end
end Go.Proofs.YtnfiapjdkjbdhaaGreat
/- Layer 3 (dev): the chapter's examples, walked. -/
namespace Go.Proofs.YtnfiapjdkjbdhaaGreat
open Go.RowKit Go.Maps
set_option linter.unusedVariables false
set_option linter.unusedSimpArgs false
set_option maxRecDepth 10000
end Go.Proofs.YtnfiapjdkjbdhaaGreat
/- Layer 3 (dev): the scripts of the statements. -/
namespace Go.Proofs.YtnfiapjdkjbdhaaGreat
open Go.RowKit Go.Maps
set_option linter.unusedVariables false
set_option linter.unusedSimpArgs false
set_option maxRecDepth 10000
def behind (a : Addr) (k q : Nat) : Addr := ⟨(a.add k).block, (a.add k).off + q, none⟩
theorem behind_add (a : Addr) (k q : Nat) (hq : q ≠ 0) : a.add (k + q) = behind a k q := by
  unfold behind Addr.add
  rw [if_neg (by omega)]
  by_cases h : k = 0
  · subst h; simp
  · simp [h]; omega
end Go.Proofs.YtnfiapjdkjbdhaaGreat
/- Layer 3 (dev): texts in a row; a fuse's writes. -/
namespace Go.Proofs.YtnfiapjdkjbdhaaGreat
open Go.RowKit Go.Maps
set_option linter.unusedVariables false
set_option linter.unusedSimpArgs false
set_option maxRecDepth 10000
theorem flush_down (b : Nat) (W : World) (h1 : W.cell? ⟨b, 1, none⟩ = some (.bool true)) :
    Calls Tryz.prog 78 #[devp b] W fun e w' => e = .returned (.int .i64 30) ∧ Below W.heap.size W w' := by
  refine (callsIn_wide (n := 8)).1 ?_
  refine callsIn_of_wp_marks Tryz.func78 rfl trivial ?_ rfl
  simp only [Tryz.ntmps78, List.size_toArray, List.length_cons, List.length_nil, Nat.reduceAdd, Nat.reduceSub, Array.replicate_succ, Array.replicate_zero, List.push_toArray, List.append_toArray, List.nil_append, List.cons_append]
  have h1a : (W.alloc (.cells #[devp b] 28)).cell? ⟨b, 1, none⟩ = some (.bool true) := by
    rw [World.cell?_alloc_lt _ _ _ (World.block_lt_of_cell? W _ h1)]; exact h1
  gi_wp2_with fail
  refine ⟨trivial, (callsIn_wide.2 (works_any b true _ h1a)).mono ?_⟩
  rintro e w1 ⟨rfl, rfl⟩
  gi_wp2_with fail
  refine ⟨_, results_tmp rfl _ _ _, ?_⟩
  exact ⟨rfl, (Below.refl _ _).alloc (Nat.le_refl _) _⟩
section
variable {K : Nat → Prop} {w W : World} {b : Nat} {M : Dv}
theorem held_flush_down (h : Held K w W b M) (hd : M.down = true) :
    Calls Tryz.prog 78 #[devp b] W fun e w' => e = .returned (.int .i64 30) ∧ Held K w w' b M := by
  have h' := h
  obtain ⟨h1, S, h3, h4⟩ := h'
  refine (flush_down b W (h3.down_cell hd)).mono ?_
  rintro e w' ⟨rfl, hb⟩
  exact ⟨rfl, h.below hb⟩
end
end Go.Proofs.YtnfiapjdkjbdhaaGreat
/- Layer 3 (dev): what stays while no fuse is set. -/
namespace Go.Proofs.YtnfiapjdkjbdhaaGreat
open Go.RowKit Go.Maps
set_option linter.unusedVariables false
set_option linter.unusedSimpArgs false
set_option maxRecDepth 10000
theorem cur_write (M : Dv) (i : Nat) (s : List UInt8) (j : Nat) : (M.write i s).cur j = if j = i then s else M.cur j := by
  unfold Dv.cur Dv.write
  by_cases h : j = i
  · subst h; simp
  · simp [upd_other _ _ h, h]
end Go.Proofs.YtnfiapjdkjbdhaaGreat
/- Layer 4 (journal): heads, bodies, and what is left of a commit, as mathematics. -/
namespace Go.Proofs.YtnfiapjdkjbdhaaGreat
open Go.RowKit Go.Maps
set_option linter.unusedVariables false
set_option linter.unusedSimpArgs false
set_option maxRecDepth 10000
abbrev PutL := List (Nat × List UInt8)
/-! Heads. -/
def headT (g st c : Nat) : List UInt8 := leB 8 g ++ leB 1 st ++ leB 2 c ++ List.replicate 49 0
def headL (g st c : Nat) : List UInt8 := headT g st c ++ sealL (headT g st c)
theorem headT_length (g st c : Nat) : (headT g st c).length = 60 := by
  unfold headT
  simp [leB_length]
theorem headL_length (g st c : Nat) : (headL g st c).length = 64 := by
  unfold headL
  rw [List.length_append, headT_length, sealL_length]
structure Hd where
  gen : Nat
  pend : Bool
  cnt : Nat
deriving DecidableEq
def hd (s : List UInt8) : Hd := if s.drop 60 = sealL (s.take 60) then ⟨leV ((s.take 60).take 8), leV (((s.take 60).drop 8).take 1) == 1, leV (((s.take 60).drop 9).take 2)⟩ else ⟨0, false, 0⟩
theorem hd_headL (g st c : Nat) (hg : g < 18446744073709551616) (hs : st < 256) (hc : c < 65536) : hd (headL g st c) = ⟨g, st == 1, c⟩ := by
  have h60 : (headL g st c).take 60 = headT g st c := by
    unfold headL
    rw [List.take_append_of_le_length (by rw [headT_length]; omega), List.take_of_length_le (by rw [headT_length]; omega)]
  have hd60 : (headL g st c).drop 60 = sealL (headT g st c) := by
    unfold headL
    rw [List.drop_append, List.drop_eq_nil_of_le (by rw [headT_length]; omega), headT_length]
    simp
  unfold hd
  rw [h60, hd60, if_pos rfl]
  have t8 : (headT g st c).take 8 = leB 8 g := by
    unfold headT
    simp [List.append_assoc, List.take_append, leB_length, List.take_of_length_le]
  have t1 : ((headT g st c).drop 8).take 1 = leB 1 st := by
    unfold headT
    simp [List.append_assoc, List.drop_append, List.take_append, leB_length, List.take_of_length_le, List.drop_eq_nil_of_le]
  have t2 : ((headT g st c).drop 9).take 2 = leB 2 c := by
    unfold headT
    simp [List.append_assoc, List.drop_append, List.take_append, leB_length, List.take_of_length_le, List.drop_eq_nil_of_le]
  rw [t8, t1, t2, leV_leB _ _ (by simpa using hg), leV_leB _ _ (by simpa using hs), leV_leB _ _ (by simpa using hc)]
theorem hd_zero : hd (List.replicate 64 0) = ⟨0, false, 0⟩ := by decide +kernel
theorem hd_gen_lt (s : List UInt8) : (hd s).gen < 18446744073709551616 := by
  unfold hd
  split
  · have := leV_lt ((s.take 60).take 8)
    refine Nat.lt_of_lt_of_le this ?_
    exact Nat.le_trans (Nat.pow_le_pow_right (by omega) (by simp; omega : _ ≤ 8)) (by decide)
  · decide
/-! Bodies. -/
def numRow (l : PutL) : List UInt8 := l.flatMap fun p => leB 2 p.1
def pad64 (s : List UInt8) : List UInt8 := s ++ List.replicate (64 - s.length) 0
def group (l : PutL) (k : Nat) : PutL := (l.drop (32 * k)).take 32
def numSecs (l : PutL) : List (List UInt8) := (List.range ((l.length + 31) / 32)).map fun k => pad64 (numRow (group l k))
def bodyL (l : PutL) : List (List UInt8) := numSecs l ++ l.map (·.2)
theorem numRow_length (l : PutL) : (numRow l).length = 2 * l.length := by
  induction l with
  | nil => rfl
  | cons p r ih =>
    unfold numRow at ih ⊢
    rw [List.flatMap_cons, List.length_append, ih, leB_length, List.length_cons]
    omega
theorem group_length (l : PutL) (k : Nat) : (group l k).length ≤ 32 := by simp [group]; omega
theorem pad64_length (s : List UInt8) (h : s.length ≤ 64) : (pad64 s).length = 64 := by
  unfold pad64
  rw [List.length_append, List.length_replicate]
  omega
theorem numSecs_length (l : PutL) : (numSecs l).length = (l.length + 31) / 32 := by simp [numSecs]
theorem bodyL_length (l : PutL) : (bodyL l).length = (l.length + 31) / 32 + l.length := by simp [bodyL, numSecs_length]
theorem bodyL_each (l : PutL) (h : ∀ p ∈ l, p.2.length = 64) : ∀ s ∈ bodyL l, s.length = 64 := by
  intro s hs
  unfold bodyL at hs
  rcases List.mem_append.1 hs with hs | hs
  · obtain ⟨k, _, rfl⟩ := List.mem_map.1 hs
    refine pad64_length _ ?_
    rw [numRow_length]
    have := group_length l k
    omega
  · obtain ⟨p, hp, rfl⟩ := List.mem_map.1 hs
    exact h p hp
theorem numRow_at (l : PutL) (j : Nat) (h : j < l.length) : ((numRow l).drop (2 * j)).take 2 = leB 2 l[j].1 := by
  induction l generalizing j with
  | nil => simp at h
  | cons p r ih =>
    have hc : numRow (p :: r) = leB 2 p.1 ++ numRow r := by simp [numRow]
    rw [hc]
    cases j with
    | zero =>
      rw [Nat.mul_zero, List.drop_zero, List.take_append_of_le_length (by rw [leB_length]; omega), List.take_of_length_le (by rw [leB_length]; omega)]
      rfl
    | succ j =>
      rw [List.drop_append, List.drop_eq_nil_of_le (by rw [leB_length]; omega), List.nil_append, leB_length, show 2 * (j + 1) - 2 = 2 * j by omega]
      simpa using ih j (by simpa using h)
theorem numSecs_at (l : PutL) (k : Nat) (h : k < (l.length + 31) / 32) : (numSecs l)[k]'(by rw [numSecs_length]; exact h) = pad64 (numRow (group l k)) := by simp [numSecs]
theorem body_num (l : PutL) (k : Nat) (h : k < l.length) (hn : l[k].1 < 65536) (hb : k / 32 < (bodyL l).length) :
    leV ((((bodyL l)[k / 32]).drop (k % 32 * 2)).take 2) = l[k].1 := by
  have hk : k / 32 < (l.length + 31) / 32 := by omega
  have h1 : (bodyL l)[k / 32] = pad64 (numRow (group l (k / 32))) := by
    have : (bodyL l)[k / 32]? = some (pad64 (numRow (group l (k / 32)))) := by
      unfold bodyL
      rw [List.getElem?_append_left (by rw [numSecs_length]; exact hk), List.getElem?_eq_getElem (by rw [numSecs_length]; exact hk), numSecs_at l _ hk]
    rw [List.getElem?_eq_getElem hb] at this
    exact Option.some.inj this
  have hg : k % 32 < (group l (k / 32)).length := by
    unfold group
    rw [List.length_take, List.length_drop]
    omega
  have hgk : (group l (k / 32))[k % 32] = l[k] := by
    have : (group l (k / 32))[k % 32]? = some l[k] := by
      unfold group
      rw [List.getElem?_take, if_pos (by omega), List.getElem?_drop, show 32 * (k / 32) + k % 32 = k by omega, List.getElem?_eq_getElem h]
    rw [List.getElem?_eq_getElem hg] at this
    exact Option.some.inj this
  have h2 := numRow_at _ _ hg
  rw [h1]
  unfold pad64
  have hl := numRow_length (group l (k / 32))
  rw [List.drop_append_of_le_length (by omega), List.take_append_of_le_length (by rw [List.length_drop]; omega), Nat.mul_comm, h2, hgk, leV_leB _ _ (by simpa using hn)]
theorem body_rest (l : PutL) : (bodyL l).drop ((bodyL l).length - l.length) = l.map (·.2) := by
  rw [bodyL_length]
  unfold bodyL
  rw [List.drop_append, List.drop_eq_nil_of_le (by rw [numSecs_length]; omega), numSecs_length]
  simp
/-! Sectors, each once. -/
def putIn (acc : PutL) (p : Nat × List UInt8) : PutL := if p.1 ∈ acc.map (·.1) then acc.map (fun q => if q.1 = p.1 then p else q) else acc ++ [p]
def lastL (l : PutL) : PutL := l.foldl putIn []
def laid (s : Nat → List UInt8) (l : PutL) : Nat → List UInt8 := l.foldl (fun s p => upd s p.1 p.2) s
theorem laid_append (s : Nat → List UInt8) (l m : PutL) : laid s (l ++ m) = laid (laid s l) m := by simp [laid, List.foldl_append]
theorem laid_snoc (s : Nat → List UInt8) (l : PutL) (p : Nat × List UInt8) : laid s (l ++ [p]) = upd (laid s l) p.1 p.2 := laid_append s l [p]
theorem laid_cons (s : Nat → List UInt8) (l : PutL) (p : Nat × List UInt8) : laid s (p :: l) = laid (upd s p.1 p.2) l := rfl
theorem laid_out (s : Nat → List UInt8) (l : PutL) (i : Nat) (h : i ∉ l.map (·.1)) : laid s l i = s i := by
  induction l generalizing s with
  | nil => rfl
  | cons p r ih =>
    rw [laid_cons, ih _ (fun hm => h (by simp only [List.map_cons, List.mem_cons]; exact .inr hm)), upd_other _ _ (fun e => h (by simp [e]))]
theorem laid_mem (s : Nat → List UInt8) (l : PutL) (hn : (l.map (·.1)).Nodup) (p : Nat × List UInt8) (hp : p ∈ l) : laid s l p.1 = p.2 := by
  induction l generalizing s with
  | nil => cases hp
  | cons q r ih =>
    rw [laid_cons]
    rw [List.map_cons, List.nodup_cons] at hn
    rcases List.mem_cons.1 hp with rfl | hp
    · rw [laid_out _ _ _ hn.1, upd_same]
    · exact ih _ hn.2 hp
theorem putIn_keys (acc : PutL) (p : Nat × List UInt8) : (putIn acc p).map (·.1) = if p.1 ∈ acc.map (·.1) then acc.map (·.1) else acc.map (·.1) ++ [p.1] := by
  unfold putIn
  split
  · rw [List.map_map]
    apply List.map_congr_left
    intro q _
    simp only [Function.comp]
    split <;> simp_all
  · simp
theorem putIn_nodup (acc : PutL) (p : Nat × List UInt8) (h : (acc.map (·.1)).Nodup) : ((putIn acc p).map (·.1)).Nodup := by
  rw [putIn_keys]
  split
  · exact h
  · rename_i hm
    rw [List.nodup_append]
    refine ⟨h, by simp, ?_⟩
    intro a ha b hb e
    simp at hb
    subst hb e
    exact hm ha
theorem laid_putIn (s : Nat → List UInt8) (acc : PutL) (p : Nat × List UInt8) (h : (acc.map (·.1)).Nodup) : laid s (putIn acc p) = upd (laid s acc) p.1 p.2 := by
  unfold putIn
  split
  · rename_i hm
    funext i
    by_cases hi : i = p.1
    · subst hi
      rw [upd_same]
      have hp : p ∈ acc.map (fun q => if q.1 = p.1 then p else q) := by
        obtain ⟨q, hq, he⟩ := List.mem_map.1 hm
        exact List.mem_map.2 ⟨q, hq, by rw [if_pos he]⟩
      have hk : (acc.map (fun q => if q.1 = p.1 then p else q)).map (·.1) = acc.map (·.1) := by
        have := putIn_keys acc p
        unfold putIn at this
        rwa [if_pos hm, if_pos hm] at this
      exact laid_mem s _ (by rw [hk]; exact h) p hp
    · rw [upd_other _ _ hi]
      clear h hm
      induction acc generalizing s with
      | nil => rfl
      | cons q r ih =>
        rw [List.map_cons, laid_cons, laid_cons]
        by_cases e : q.1 = p.1
        · rw [if_pos e, e]
          have hx : ∀ (t : PutL) (a b : List UInt8), laid (upd s p.1 a) t i = laid (upd s p.1 b) t i := by
            intro t
            induction t generalizing s with
            | nil => intro a b; show upd s p.1 a i = upd s p.1 b i; rw [upd_other _ _ hi, upd_other _ _ hi]
            | cons x y ihy =>
              intro a b
              rw [laid_cons, laid_cons]
              by_cases ex : x.1 = p.1
              · rw [ex]
                have : ∀ c, upd (upd s p.1 c) p.1 x.2 = upd s p.1 x.2 := fun c => by funext j; unfold upd; split <;> rfl
                rw [this, this]
              · have hc : ∀ c, upd (upd s p.1 c) x.1 x.2 = upd (upd s x.1 x.2) p.1 c := fun c => by
                  funext j; unfold upd; split
                  · rename_i e1; rw [if_neg (by rw [e1]; exact ex)]
                  · rfl
                rw [hc, hc]
                exact ihy _ _ _
          rw [ih, hx]
        · rw [if_neg e]
          exact ih _
  · rw [laid_snoc]
theorem lastL_snoc (l : PutL) (p : Nat × List UInt8) : lastL (l ++ [p]) = putIn (lastL l) p := by simp [lastL, List.foldl_append]
theorem rev_ind {α : Type} {P : List α → Prop} (h0 : P []) (h1 : ∀ l a, P l → P (l ++ [a])) (l : List α) : P l := by
  have : ∀ n (l : List α), l.length = n → P l := by
    intro n
    induction n with
    | zero => intro l hl; rw [List.length_eq_zero_iff.1 hl]; exact h0
    | succ n ih =>
      intro l hl
      rcases List.eq_nil_or_concat l with h | ⟨q, b, h⟩
      · rw [h]; exact h0
      · rw [List.concat_eq_append] at h
        subst h
        exact h1 q b (ih q (by simpa using hl))
  exact this _ l rfl
theorem lastL_nodup (l : PutL) : ((lastL l).map (·.1)).Nodup := by
  induction l using rev_ind with
  | h0 => simp [lastL]
  | h1 l p ih => rw [lastL_snoc]; exact putIn_nodup _ _ ih
theorem laid_lastL (s : Nat → List UInt8) (l : PutL) : laid s (lastL l) = laid s l := by
  induction l using rev_ind with
  | h0 => rfl
  | h1 l p ih => rw [lastL_snoc, laid_putIn _ _ _ (lastL_nodup l), ih, laid_snoc]
theorem putIn_mem (acc : PutL) (p q : Nat × List UInt8) (h : q ∈ putIn acc p) : q = p ∨ q ∈ acc := by
  unfold putIn at h
  split at h
  · obtain ⟨x, hx, rfl⟩ := List.mem_map.1 h
    split
    · exact .inl rfl
    · exact .inr hx
  · rcases List.mem_append.1 h with h | h
    · exact .inr h
    · exact .inl (by simpa using h)
theorem lastL_mem (l : PutL) (q : Nat × List UInt8) (h : q ∈ lastL l) : q ∈ l := by
  induction l using rev_ind with
  | h0 => cases h
  | h1 l p ih =>
    rw [lastL_snoc] at h
    rcases putIn_mem _ _ _ h with h | h
    · simp [h]
    · simp [ih h]
theorem putIn_length (acc : PutL) (p : Nat × List UInt8) : (putIn acc p).length ≤ acc.length + 1 := by
  unfold putIn
  split <;> simp
theorem lastL_length (l : PutL) : (lastL l).length ≤ l.length := by
  induction l using rev_ind with
  | h0 => exact Nat.le_refl _
  | h1 l p ih =>
    rw [lastL_snoc]
    have := putIn_length (lastL l) p
    simp only [List.length_append, List.length_cons, List.length_nil]
    omega
end Go.Proofs.YtnfiapjdkjbdhaaGreat
/- Layer 4 (journal): a device on which sectors are written in steps, and which crashes. -/
namespace Go.Proofs.YtnfiapjdkjbdhaaGreat
open Go.RowKit Go.Maps
set_option linter.unusedVariables false
set_option linter.unusedSimpArgs false
set_option maxRecDepth 10000
def PutsOk (n : Nat) (l : PutL) : Prop := ∀ p ∈ l, p.1 < n ∧ p.2.length = 64
def Dv.puts (M : Dv) (l : PutL) : Dv := l.foldl (fun M p => M.wrote (p.1 : Int) p.2) M
def Dv.fl (M : Dv) : Dv := if M.down then M else M.flush
def Dv.step (M : Dv) (l : PutL) : Dv := (M.puts l).fl
def Dv.runD (M : Dv) (ls : List PutL) : Dv := ls.foldl Dv.step M
theorem puts_cons (M : Dv) (p : Nat × List UInt8) (l : PutL) : M.puts (p :: l) = (M.wrote (p.1 : Int) p.2).puts l := rfl
theorem puts_snoc (M : Dv) (l : PutL) (p : Nat × List UInt8) : M.puts (l ++ [p]) = (M.puts l).wrote (p.1 : Int) p.2 := by simp [Dv.puts, List.foldl_append]
theorem runD_cons (M : Dv) (l : PutL) (ls : List PutL) : M.runD (l :: ls) = (M.step l).runD ls := rfl
theorem runD_snoc (M : Dv) (ls : List PutL) (l : PutL) : M.runD (ls ++ [l]) = (M.runD ls).step l := by simp [Dv.runD, List.foldl_append]
theorem wrote_down (M : Dv) (h : M.down = true) (i : Int) (s : List UInt8) : M.wrote i s = M := by
  unfold Dv.wrote
  rw [if_neg]
  unfold Dv.canWrite
  simp [h]
theorem wrote_up (M : Dv) (h : M.down = false) (i : Nat) (hi : i < M.n) (s : List UInt8) (hs : s.length = 64) : M.wrote (i : Int) s = M.write i s ∧ M.wroteE (i : Int) s = 0 := by
  have : M.canWrite (i : Int) s = true := by
    unfold Dv.canWrite
    simp [h, hs]; omega
  unfold Dv.wrote Dv.wroteE
  rw [if_pos this, if_neg (by simp [h]), if_pos this]
  exact ⟨rfl, rfl⟩
theorem wroteE_down (M : Dv) (h : M.down = true) (i : Int) (s : List UInt8) : M.wroteE i s = 30 := by
  unfold Dv.wroteE
  rw [if_pos h]
theorem puts_down (M : Dv) (h : M.down = true) (l : PutL) : M.puts l = M := by
  induction l with
  | nil => rfl
  | cons p r ih => rw [puts_cons, wrote_down M h, ih]
theorem step_down (M : Dv) (h : M.down = true) (l : PutL) : M.step l = M := by
  unfold Dv.step Dv.fl
  rw [puts_down M h, if_pos h]
theorem runD_down (M : Dv) (h : M.down = true) (ls : List PutL) : M.runD ls = M := by
  induction ls with
  | nil => rfl
  | cons l r ih => rw [runD_cons, step_down M h, ih]
theorem wrote_n (M : Dv) (i : Int) (s : List UInt8) : (M.wrote i s).n = M.n := by
  unfold Dv.wrote
  split <;> rfl
theorem puts_n (M : Dv) (l : PutL) : (M.puts l).n = M.n := by
  induction l generalizing M with
  | nil => rfl
  | cons p r ih => rw [puts_cons, ih, wrote_n]
theorem fl_n (M : Dv) : M.fl.n = M.n := by
  unfold Dv.fl
  split <;> rfl
theorem step_n (M : Dv) (l : PutL) : (M.step l).n = M.n := (fl_n _).trans (puts_n M l)
theorem runD_n (M : Dv) (ls : List PutL) : (M.runD ls).n = M.n := by
  induction ls generalizing M with
  | nil => rfl
  | cons l r ih => rw [runD_cons, ih, step_n]
theorem wrote_wr (M : Dv) (i : Int) (s : List UInt8) : (M.wrote i s).wr ≤ M.wr + 1 := by
  unfold Dv.wrote
  split
  · exact Nat.le_refl _
  · omega
theorem puts_wr (M : Dv) (l : PutL) : (M.puts l).wr ≤ M.wr + l.length := by
  induction l generalizing M with
  | nil => exact Nat.le_refl _
  | cons p r ih =>
    rw [puts_cons]
    have := ih (M.wrote (p.1 : Int) p.2)
    have := wrote_wr M (p.1 : Int) p.2
    rw [List.length_cons]
    omega
theorem fl_wr (M : Dv) : M.fl.wr = M.wr := by
  unfold Dv.fl
  split <;> rfl
theorem step_wr (M : Dv) (l : PutL) : (M.step l).wr ≤ M.wr + l.length := by
  unfold Dv.step
  rw [fl_wr]
  exact puts_wr M l
theorem runD_wr (M : Dv) (ls : List PutL) : (M.runD ls).wr ≤ M.wr + ls.flatten.length := by
  induction ls generalizing M with
  | nil => exact Nat.le_refl _
  | cons l r ih =>
    rw [runD_cons, List.flatten_cons, List.length_append]
    have := ih (M.step l)
    have := step_wr M l
    omega
def Dv.free (M : Dv) : Prop := M.down = false ∧ M.left = 0
theorem wrote_free (M : Dv) (h : M.free) (i : Int) (s : List UInt8) : (M.wrote i s).free := by
  unfold Dv.wrote
  split
  · refine ⟨?_, ?_⟩
    · show (M.down || M.left == 1) = false
      rw [h.1, h.2]; rfl
    · show M.left - 1 = 0
      rw [h.2]
  · exact h
theorem puts_free (M : Dv) (h : M.free) (l : PutL) : (M.puts l).free := by
  induction l generalizing M with
  | nil => exact h
  | cons p r ih => rw [puts_cons]; exact ih _ (wrote_free M h _ _)
theorem step_free (M : Dv) (h : M.free) (l : PutL) : (M.step l).free := by
  unfold Dv.step Dv.fl
  have := puts_free M h l
  rw [if_neg (by rw [this.1]; simp)]
  exact this
theorem runD_free (M : Dv) (h : M.free) (ls : List PutL) : (M.runD ls).free := by
  induction ls generalizing M with
  | nil => exact h
  | cons l r ih => rw [runD_cons]; exact ih _ (step_free M h l)
def Dv.calm (M : Dv) : Prop := ∀ i, M.row i = []
theorem calm_cur (M : Dv) (h : M.calm) (i : Nat) : M.cur i = M.dur i := by simp [Dv.cur, h i]
structure Within (M0 : Dv) (l : PutL) (M : Dv) : Prop where
  n : M.n = M0.n
  dur : M.dur = M0.dur
  row : ∀ i, ∀ x ∈ M.row i, ∃ p ∈ l, p.1 = i ∧ p.2 = x
  cur : M.down = false → ∀ i, M.cur i = laid M0.dur l i
theorem within_puts (M0 : Dv) (hc : M0.calm) (l : PutL) (hl : PutsOk M0.n l) : Within M0 l (M0.puts l) := by
  induction l using rev_ind with
  | h0 => exact ⟨rfl, rfl, fun i x hx => (by rw [show (M0.puts []).row i = [] from hc i] at hx; exact absurd hx (by simp)), fun _ i => calm_cur M0 hc i⟩
  | h1 l p ih =>
    have hI := ih (fun q hq => hl q (by simp [hq]))
    have hp := hl p (by simp)
    rw [puts_snoc]
    cases hd : (M0.puts l).down
    · obtain ⟨hw, _⟩ := wrote_up (M0.puts l) hd p.1 (by rw [puts_n]; exact hp.1) p.2 hp.2
      rw [hw]
      refine ⟨hI.n, hI.dur, fun i x hx => ?_, fun hd2 i => ?_⟩
      · unfold Dv.write at hx
        simp only at hx
        by_cases e : i = p.1
        · subst e
          rw [upd_same] at hx
          rcases List.mem_append.1 hx with hx | hx
          · obtain ⟨q, hq, h1⟩ := hI.row _ x hx
            exact ⟨q, by simp [hq], h1⟩
          · exact ⟨p, by simp, rfl, by simpa using (List.mem_singleton.1 hx).symm⟩
        · rw [upd_other _ _ e] at hx
          obtain ⟨q, hq, h1⟩ := hI.row _ x hx
          exact ⟨q, by simp [hq], h1⟩
      · rw [cur_write, laid_snoc]
        unfold upd
        split
        · rfl
        · exact hI.cur hd i
    · rw [wrote_down _ hd]
      refine ⟨hI.n, hI.dur, fun i x hx => ?_, fun hd2 i => ?_⟩
      · obtain ⟨q, hq, h1⟩ := hI.row _ x hx
        exact ⟨q, by simp [hq], h1⟩
      · rw [hd] at hd2; cases hd2
theorem step_calm (M0 : Dv) (hc : M0.calm) (l : PutL) (hl : PutsOk M0.n l) (h : (M0.step l).down = false) : (M0.step l).calm ∧ (M0.step l).dur = laid M0.dur l := by
  have hI := within_puts M0 hc l hl
  unfold Dv.step Dv.fl at h ⊢
  split at h
  · rename_i hd
    rw [hd] at h; cases h
  · rename_i hd
    rw [if_neg hd]
    refine ⟨fun i => rfl, funext fun i => hI.cur (by simpa using hd) i⟩
theorem runD_calm (M0 : Dv) (hc : M0.calm) (ls : List PutL) (hl : ∀ l ∈ ls, PutsOk M0.n l) (h : (M0.runD ls).down = false) : (M0.runD ls).calm ∧ (M0.runD ls).dur = laid M0.dur ls.flatten := by
  induction ls generalizing M0 with
  | nil => exact ⟨hc, rfl⟩
  | cons l r ih =>
    rw [runD_cons] at h ⊢
    cases hd : (M0.step l).down
    · obtain ⟨h1, h2⟩ := step_calm M0 hc l (hl l (by simp)) hd
      obtain ⟨h3, h4⟩ := ih (M0.step l) h1 (fun m hm => by rw [step_n]; exact hl m (by simp [hm])) h
      refine ⟨h3, ?_⟩
      rw [h4, h2, List.flatten_cons, laid_append]
    · rw [runD_down _ hd] at h
      rw [hd] at h; cases h
theorem crash_in (M : Dv) (keep : List UInt8) (i : Nat) : (M.crash keep).dur i = M.dur i ∨ (M.crash keep).dur i ∈ M.row i := by
  unfold Dv.crash
  simp only
  by_cases h : M.row i = []
  · rw [if_pos h]; exact .inl rfl
  · rw [if_neg h]
    unfold Dv.left_
    by_cases h0 : M.kept keep i = 0
    · rw [if_pos h0]; exact .inl rfl
    · rw [if_neg h0]
      have hlt : M.kept keep i < (M.row i).length + 1 := Nat.mod_lt _ (by omega)
      rw [List.getD_eq_getElem?_getD, List.getElem?_eq_getElem (by omega)]
      exact .inr (List.getElem_mem _)
theorem crash_dur (M : Dv) (h : M.calm) (keep : List UInt8) : (M.crash keep).dur = M.dur := by
  funext i
  unfold Dv.crash
  simp [h i]
theorem run_crash (M0 : Dv) (hc : M0.calm) (ls : List PutL) (hl : ∀ l ∈ ls, PutsOk M0.n l) (keep : List UInt8) :
    ((M0.runD ls).down = false ∧ ((M0.runD ls).crash keep).dur = laid M0.dur ls.flatten) ∨
    ((M0.runD ls).down = true ∧ (ls = [] ∧ ((M0.runD ls).crash keep).dur = M0.dur ∨ ∃ k, ∃ h : k < ls.length, ∀ i, ((M0.runD ls).crash keep).dur i = laid M0.dur (ls.take k).flatten i ∨ ∃ p ∈ ls[k], p.1 = i ∧ ((M0.runD ls).crash keep).dur i = p.2)) := by
  induction ls generalizing M0 with
  | nil =>
    show (M0.down = false ∧ _) ∨ (M0.down = true ∧ _)
    cases hd : M0.down
    · exact .inl ⟨rfl, crash_dur M0 hc keep⟩
    · exact .inr ⟨rfl, .inl ⟨rfl, crash_dur M0 hc keep⟩⟩
  | cons l r ih =>
    rw [runD_cons]
    cases hd : (M0.step l).down
    · obtain ⟨h1, h2⟩ := step_calm M0 hc l (hl l (by simp)) hd
      rcases ih (M0.step l) h1 (fun m hm => by rw [step_n]; exact hl m (by simp [hm])) with ⟨h3, h4⟩ | ⟨h3, ⟨rfl, h4⟩ | ⟨k, hk, h4⟩⟩
      · exact .inl ⟨h3, by rw [h4, h2, List.flatten_cons, laid_append]⟩
      · have h3' : (M0.step l).down = true := h3
        rw [hd] at h3'; cases h3'
      · refine .inr ⟨h3, .inr ⟨k + 1, by simpa using hk, fun i => ?_⟩⟩
        rcases h4 i with h5 | h5
        · left
          rw [h5, h2, List.take_succ_cons, List.flatten_cons, laid_append]
        · right
          simpa using h5
    · rw [runD_down _ hd]
      refine .inr ⟨hd, .inr ⟨0, by simp, fun i => ?_⟩⟩
      have hI := within_puts M0 hc l (hl l (by simp))
      have hs : M0.step l = M0.puts l := by
        unfold Dv.step Dv.fl at hd ⊢
        split
        · rfl
        · rename_i hx
          rw [if_neg hx] at hd
          exact absurd hd hx
      rw [hs]
      rcases crash_in (M0.puts l) keep i with h | h
      · left; rw [h, hI.dur]; rfl
      · right
        obtain ⟨p, hp, h1, h2⟩ := hI.row i _ h
        exact ⟨p, by simpa using hp, h1, h2.symm⟩
end Go.Proofs.YtnfiapjdkjbdhaaGreat
/- Layer 4 (journal): the states of an area between two crashes. -/
namespace Go.Proofs.YtnfiapjdkjbdhaaGreat
open Go.RowKit Go.Maps
set_option linter.unusedVariables false
set_option linter.unusedSimpArgs false
set_option maxRecDepth 10000
def keepP (F : Nat) (l : PutL) : PutL := (bodyL l).mapIdx fun k s => (F + 1 + k, s)
def markP (F g st c : Nat) : PutL := [(F, headL g st c)]
def redoP (F g : Nat) (l : PutL) : List PutL := [l, markP F g 0 0]
def commitP (F g : Nat) (l : PutL) : List PutL := [keepP F l, markP F g 1 l.length, l, markP F g 0 0]
theorem keepP_length (F : Nat) (l : PutL) : (keepP F l).length = (bodyL l).length := by simp [keepP]
theorem keepP_get (F : Nat) (l : PutL) (k : Nat) (h : k < (bodyL l).length) : (keepP F l)[k]'(by rw [keepP_length]; exact h) = (F + 1 + k, (bodyL l)[k]) := by simp [keepP]
theorem keepP_mem (F : Nat) (l : PutL) (p : Nat × List UInt8) (h : p ∈ keepP F l) : ∃ k, ∃ hk : k < (bodyL l).length, p = (F + 1 + k, (bodyL l)[k]) := by
  obtain ⟨k, hk, rfl⟩ := List.getElem_of_mem h
  rw [keepP_length] at hk
  exact ⟨k, hk, keepP_get F l k hk⟩
theorem keepP_in (F : Nat) (l : PutL) (k : Nat) (h : k < (bodyL l).length) : (F + 1 + k, (bodyL l)[k]) ∈ keepP F l := by
  rw [← keepP_get F l k h]
  exact List.getElem_mem _
theorem keepP_nodup (F : Nat) (l : PutL) : ((keepP F l).map (·.1)).Nodup := by
  rw [List.nodup_iff_pairwise_ne, List.pairwise_map, List.pairwise_iff_getElem]
  intro i j hi hj hij
  rw [keepP_length] at hi hj
  rw [keepP_get F l i hi, keepP_get F l j hj]
  simp only
  omega
theorem laid_keep (s : Nat → List UInt8) (F : Nat) (l : PutL) (k : Nat) (h : k < (bodyL l).length) : laid s (keepP F l) (F + 1 + k) = (bodyL l)[k] :=
  laid_mem s _ (keepP_nodup F l) _ (keepP_in F l k h)
theorem laid_keep_out (s : Nat → List UInt8) (F : Nat) (l : PutL) (i : Nat) (h : i ≤ F ∨ F + 1 + (bodyL l).length ≤ i) : laid s (keepP F l) i = s i := by
  refine laid_out s _ i fun hm => ?_
  obtain ⟨p, hp, rfl⟩ := List.mem_map.1 hm
  obtain ⟨k, hk, rfl⟩ := keepP_mem F l p hp
  simp only at h
  omega
theorem laid_mark (s : Nat → List UInt8) (F g st c i : Nat) : laid s (markP F g st c) i = if i = F then headL g st c else s i := rfl
def Out (N F n i : Nat) : Prop := i < N ∧ (i < F ∨ F + n ≤ i)
structure Tr (N F n : Nat) (l : PutL) : Prop where
  nd : (l.map (·.1)).Nodup
  ok : PutsOk N l
  out : ∀ p ∈ l, p.1 < F ∨ F + n ≤ p.1
  fits : (l.length + 31) / 32 + l.length + 1 ≤ n
  area : F + n ≤ N
  small : N ≤ 4096
structure StA (N F n g : Nat) (was d : Nat → List UInt8) : Prop where
  gen : (hd (d F)).gen = g
  pend : (hd (d F)).pend = false
  out : ∀ i, Out N F n i → d i = was i
structure StB (N F n g : Nat) (was : Nat → List UInt8) (l : PutL) (d : Nat → List UInt8) : Prop where
  head : hd (d F) = ⟨g, true, l.length⟩
  body : ∀ k (h : k < (bodyL l).length), d (F + 1 + k) = (bodyL l)[k]
  out : ∀ i, Out N F n i → d i = was i ∨ d i = laid was l i
section
variable {N F n g : Nat} {was : Nat → List UInt8} {l : PutL} (h : Tr N F n l)
include h
theorem Tr.len : l.length ≤ 4096 := by have := h.fits; have := h.area; have := h.small; omega
theorem Tr.noF (i : Nat) (hi : F ≤ i) (h2 : i < F + n) : i ∉ l.map (·.1) := by
  intro hm
  obtain ⟨p, hp, rfl⟩ := List.mem_map.1 hm
  have := h.out p hp
  omega
theorem Tr.keepOk : PutsOk N (keepP F l) := by
  intro p hp
  obtain ⟨k, hk, rfl⟩ := keepP_mem F l p hp
  refine ⟨?_, bodyL_each l (fun q hq => (h.ok q hq).2) _ (List.getElem_mem _)⟩
  have := h.fits; have := h.area
  rw [bodyL_length] at hk
  show F + 1 + k < N
  omega
theorem Tr.markOk (gg st c : Nat) : PutsOk N (markP F gg st c) := by
  intro p hp
  obtain rfl := List.mem_singleton.1 hp
  refine ⟨?_, headL_length gg st c⟩
  have := h.fits; have := h.area
  show F < N
  omega
theorem Tr.redoOk (gg : Nat) : ∀ m ∈ redoP F gg l, PutsOk N m := by
  intro m hm
  simp only [redoP, List.mem_cons, List.not_mem_nil, or_false] at hm
  rcases hm with rfl | rfl
  · exact h.ok
  · exact h.markOk _ _ _
theorem Tr.commitOk (gg : Nat) : ∀ m ∈ commitP F gg l, PutsOk N m := by
  intro m hm
  simp only [commitP, List.mem_cons, List.not_mem_nil, or_false] at hm
  rcases hm with rfl | rfl | rfl | rfl
  · exact h.keepOk
  · exact h.markOk _ _ _
  · exact h.ok
  · exact h.markOk _ _ _
theorem Tr.done (d : Nat → List UInt8) (hg : g < 18446744073709551616) (hd0 : ∀ i, Out N F n i → d i = was i ∨ d i = laid was l i) : StA N F n g (laid was l) (laid (laid d l) (markP F g 0 0)) := by
  have e : hd (headL g 0 0) = ⟨g, false, 0⟩ := hd_headL g 0 0 hg (by decide) (by decide)
  refine ⟨?_, ?_, fun i hi => ?_⟩
  · rw [laid_mark, if_pos rfl, e]
  · rw [laid_mark, if_pos rfl, e]
  · have hf := h.fits
    have hi2 := hi.2
    rw [laid_mark, if_neg (by omega)]
    by_cases hm : i ∈ l.map (·.1)
    · obtain ⟨p, hp, rfl⟩ := List.mem_map.1 hm
      rw [laid_mem _ _ h.nd p hp, laid_mem _ _ h.nd p hp]
    · rw [laid_out _ _ _ hm, laid_out _ _ _ hm]
      rcases hd0 i hi with e | e
      · exact e
      · rw [e, laid_out _ _ _ hm]
theorem redo_crash (M : Dv) (hM : M.n = N) (hc : M.calm) (hg : g < 18446744073709551616) (hB : StB N F n g was l M.dur) (keep : List UInt8) :
    let d := ((M.runD (redoP F g l)).crash keep).dur
    ((M.runD (redoP F g l)).down = false ∧ StA N F n g (laid was l) d) ∨ ((M.runD (redoP F g l)).down = true ∧ (StB N F n g was l d ∨ StA N F n g (laid was l) d)) := by
  intro d
  have hf := h.fits
  have hbl := bodyL_length l
  have hend := h.done (g := g) M.dur hg hB.out
  rcases run_crash M hc (redoP F g l) (by rw [hM]; exact h.redoOk g) keep with ⟨h1, h2⟩ | ⟨h1, ⟨h2, _⟩ | ⟨k, hk, h2⟩⟩
  · refine .inl ⟨h1, ?_⟩
    show StA N F n g (laid was l) ((M.runD (redoP F g l)).crash keep).dur
    rw [h2]
    have : (redoP F g l).flatten = l ++ markP F g 0 0 := by simp [redoP]
    rw [this, laid_append]
    exact hend
  · cases h2
  · refine .inr ⟨h1, ?_⟩
    have hk2 : k = 0 ∨ k = 1 := by simp only [redoP, List.length_cons, List.length_nil] at hk; omega
    rcases hk2 with rfl | rfl
    · left
      have key : ∀ i, F ≤ i → i < F + n → d i = M.dur i := by
        intro i h3 h4
        rcases h2 i with e | ⟨p, hp, e1, e2⟩
        · exact e
        · have : p ∈ l := hp
          have := h.out p this
          omega
      refine ⟨?_, fun k hk => ?_, fun i hi => ?_⟩
      · rw [key F (Nat.le_refl _) (by omega)]; exact hB.head
      · rw [key (F + 1 + k) (by omega) (by omega)]; exact hB.body k hk
      · rcases h2 i with e | ⟨p, hp, e1, e2⟩
        · rw [show d i = M.dur i from e]; exact hB.out i hi
        · right
          have hp : p ∈ l := hp
          rw [show d i = p.2 from e2, ← e1, laid_mem _ _ h.nd p hp]
    · have e0 : (List.take 1 (redoP F g l)).flatten = l := by simp [redoP]
      have hout : ∀ i, Out N F n i → d i = laid was l i := by
        intro i hi
        have hi2 := hi.2
        rcases h2 i with e | ⟨p, hp, e1, e2⟩
        · rw [e0] at e
          rw [show d i = _ from e, ← hend.out i hi, laid_mark, if_neg (by omega)]
        · have : p = (F, headL g 0 0) := List.mem_singleton.1 hp
          subst this
          simp only at e1
          omega
      rcases h2 F with e | ⟨p, hp, e1, e2⟩
      · left
        rw [e0] at e
        refine ⟨?_, fun k hk => ?_, fun i hi => .inr (hout i hi)⟩
        · rw [show d F = _ from e, laid_out _ _ _ (h.noF F (Nat.le_refl _) (by omega))]; exact hB.head
        · rcases h2 (F + 1 + k) with e | ⟨p, hp, e1, e2⟩
          · rw [e0] at e
            rw [show d (F + 1 + k) = _ from e, laid_out _ _ _ (h.noF _ (by omega) (by omega))]; exact hB.body k hk
          · have : p = (F, headL g 0 0) := List.mem_singleton.1 hp
            subst this
            simp only at e1
            omega
      · right
        have : p = (F, headL g 0 0) := List.mem_singleton.1 hp
        subst this
        have e : hd (headL g 0 0) = ⟨g, false, 0⟩ := hd_headL g 0 0 hg (by decide) (by decide)
        refine ⟨?_, ?_, hout⟩
        · rw [show d F = _ from e2, e]
        · rw [show d F = _ from e2, e]
theorem commit_crash (M : Dv) (hM : M.n = N) (hc : M.calm) (hg : g < 18446744073709551615) (hA : StA N F n g was M.dur) (keep : List UInt8) :
    let d := ((M.runD (commitP F (g + 1) l)).crash keep).dur
    ((M.runD (commitP F (g + 1) l)).down = false ∧ StA N F n (g + 1) (laid was l) d) ∨
    ((M.runD (commitP F (g + 1) l)).down = true ∧ (StA N F n g was d ∨ StB N F n (g + 1) was l d ∨ StA N F n (g + 1) (laid was l) d)) := by
  intro d
  have hf := h.fits
  have hbl := bodyL_length l
  have hlen := h.len
  have hsp : commitP F (g + 1) l = [keepP F l, markP F (g + 1) 1 l.length] ++ redoP F (g + 1) l := rfl
  -- behind the second step
  have e1 : hd (headL (g + 1) 1 l.length) = ⟨g + 1, true, l.length⟩ := hd_headL (g + 1) 1 l.length (by omega) (by decide) (by omega)
  have hB : StB N F n (g + 1) was l (laid (laid M.dur (keepP F l)) (markP F (g + 1) 1 l.length)) := by
    refine ⟨?_, fun k hk => ?_, fun i hi => .inl ?_⟩
    · rw [laid_mark, if_pos rfl, e1]
    · rw [laid_mark, if_neg (by omega), laid_keep _ _ _ k hk]
    · have hi2 := hi.2
      rw [laid_mark, if_neg (by omega), laid_keep_out _ _ _ _ (by omega)]
      exact hA.out i hi
  have hrun : M.runD (commitP F (g + 1) l) = (M.runD [keepP F l, markP F (g + 1) 1 l.length]).runD (redoP F (g + 1) l) := by rw [hsp]; simp [Dv.runD]
  have hok2 : ∀ m ∈ [keepP F l, markP F (g + 1) 1 l.length], PutsOk M.n m := by
    intro m hm
    rw [hM]
    exact h.commitOk (g + 1) m (by rw [hsp]; exact List.mem_append_left _ hm)
  cases hd2 : (M.runD [keepP F l, markP F (g + 1) 1 l.length]).down
  · obtain ⟨hc2, hdur2⟩ := runD_calm M hc _ hok2 hd2
    have hfl : [keepP F l, markP F (g + 1) 1 l.length].flatten = keepP F l ++ markP F (g + 1) 1 l.length := by simp
    rw [hfl, laid_append] at hdur2
    have := redo_crash h (M.runD [keepP F l, markP F (g + 1) 1 l.length]) ((runD_n _ _).trans hM) hc2 (g := g + 1) (was := was) (by omega) (by rw [hdur2]; exact hB) keep
    rw [← hrun] at this
    rcases this with ⟨h1, h2⟩ | ⟨h1, h2 | h2⟩
    · exact .inl ⟨h1, h2⟩
    · exact .inr ⟨h1, .inr (.inl h2)⟩
    · exact .inr ⟨h1, .inr (.inr h2)⟩
  · have hsame : M.runD (commitP F (g + 1) l) = M.runD [keepP F l, markP F (g + 1) 1 l.length] := by rw [hrun, runD_down _ hd2]
    have hdE : d = ((M.runD [keepP F l, markP F (g + 1) 1 l.length]).crash keep).dur := by rw [← hsame]
    refine .inr ⟨by rw [hsame]; exact hd2, ?_⟩
    rcases run_crash M hc _ hok2 keep with ⟨h1, h2⟩ | ⟨h1, ⟨h2, _⟩ | ⟨k, hk, h2⟩⟩
    · rw [hd2] at h1; cases h1
    · cases h2
    · rw [← hdE] at h2
      have hk2 : k = 0 ∨ k = 1 := by simp only [List.length_cons, List.length_nil] at hk; omega
      rcases hk2 with rfl | rfl
      · left
        have key : ∀ i, i ≤ F ∨ F + n ≤ i → d i = M.dur i := by
          intro i hi
          rcases h2 i with e | ⟨p, hp, e1, e2⟩
          · exact e
          · obtain ⟨k, hk, rfl⟩ := keepP_mem F l p hp
            simp only at e1
            omega
        refine ⟨?_, ?_, fun i hi => ?_⟩
        · rw [key F (by omega)]; exact hA.gen
        · rw [key F (by omega)]; exact hA.pend
        · have hi2 := hi.2
          rw [key i (by omega)]; exact hA.out i hi
      · have e0 : (List.take 1 [keepP F l, markP F (g + 1) 1 l.length]).flatten = keepP F l := by simp
        have hne : ∀ i, i ≠ F → d i = laid M.dur (keepP F l) i := by
          intro i hi
          rcases h2 i with e | ⟨p, hp, e1, e2⟩
          · rw [e0] at e; exact e
          · have : p = (F, headL (g + 1) 1 l.length) := List.mem_singleton.1 hp
            subst this
            exact absurd e1.symm hi
        have hout : ∀ i, Out N F n i → d i = was i := by
          intro i hi
          have hi2 := hi.2
          rw [hne i (by omega), laid_keep_out _ _ _ _ (by omega)]
          exact hA.out i hi
        rcases h2 F with e | ⟨p, hp, e1, e2⟩
        · left
          rw [e0, laid_keep_out _ _ _ _ (by omega)] at e
          exact ⟨by rw [e]; exact hA.gen, by rw [e]; exact hA.pend, hout⟩
        · right; left
          have : p = (F, headL (g + 1) 1 l.length) := List.mem_singleton.1 hp
          subst this
          refine ⟨?_, fun k hk => ?_, fun i hi => .inl (hout i hi)⟩
          · rw [e2]; exact hd_headL (g + 1) 1 l.length (by omega) (by decide) (by omega)
          · rw [hne _ (by omega), laid_keep _ _ _ k hk]
end
end Go.Proofs.YtnfiapjdkjbdhaaGreat
/- Layer 4 (journal): numbers, texts and heads. -/
namespace Go.Proofs.YtnfiapjdkjbdhaaGreat
open Go.RowKit Go.Maps
set_option linter.unusedVariables false
set_option linter.unusedSimpArgs false
set_option maxRecDepth 10000
theorem quot_none (v n : Nat) (h : v < 256 ^ n) : ((v : Int) / 2 ^ (8 * n) != 0) = false := by
  rw [pow256] at h
  have h1 : v / 2 ^ (8 * n) = 0 := Nat.div_eq_of_lt h
  have h2 : ((v : Int) / 2 ^ (8 * n)) = ((v / 2 ^ (8 * n) : Nat) : Int) := by simp
  rw [h2, h1]; rfl
set_option maxHeartbeats 400000 in
theorem number_any (u : Int) (v n : Nat) (w : World) (hu : u = v) (hv : v < 18446744073709551616) (hn : n ≤ 8) (h : v < 256 ^ n) (i : Int) (hi : i = n) :
    Calls Tryz.prog 216 #[.int .u64 u, .int .i64 i] w fun e w' => e = .returned (str (leB n v)) ∧ Below w.heap.size w w' := by
  subst hu hi
  have hq := quot_none v n h
  clear h
  go_enter Tryz.func216, Tryz.ntmps216
  go_wp2_with fail
  refine (num_ok v n _ hv hn hq).mono ?_
  rintro e w1 ⟨rfl, hb1⟩
  go_wp2_with fail
  go_ret
  exact ⟨rfl, hb1⟩
set_option maxHeartbeats 400000 in
theorem take_any (l : List UInt8) (n : Nat) (w : World) (hl : l.length ≤ 1048576) (hn : n ≤ 8) (h : n ≤ l.length) (i : Int) (hi : i = n) :
    Calls Tryz.prog 191 #[str l, .int .i64 i] w fun e w' => e = .returned (.tuple #[.int .u64 (leV (l.take n)), str (l.drop n)]) ∧ Below w.heap.size w w' := by
  subst hi
  go_enter Tryz.func191, Tryz.ntmps191
  go_wp2_with fail
  refine (cut_ok l n n _ (by simp only [maxLen]; omega) rfl h).mono ?_
  rintro e w1 ⟨rfl, hb1⟩
  go_wp2_with fail
  refine (get_ok (l.take n) _ (by rw [List.length_take]; omega)).mono ?_
  rintro e w2 ⟨rfl, hb2⟩
  go_wp2_with fail
  go_ret2
  exact ⟨rfl, chain hb1 hb2⟩
set_option maxHeartbeats 400000 in
theorem filled_any (l : List UInt8) (k : Nat) (n : Int) (w : World) (hn : n = ((l.length + k : Nat) : Int)) (hk : l.length + k ≤ 65536) :
    Calls Tryz.prog 217 #[str l, .int .i64 n] w fun e w' => e = .returned (str (l ++ List.replicate k 0)) ∧ Below w.heap.size w w' := by
  have HP := Lib.hid (pad_ok l k n w hn hk)
  clear hn hk
  generalize l ++ List.replicate k 0 = r at HP
  go_enter Tryz.func217, Tryz.ntmps217
  go_wp2_with fail
  refine HP.out.mono ?_
  rintro e w1 ⟨rfl, hb1⟩
  go_wp2_with fail
  go_ret
  exact ⟨rfl, hb1⟩
theorem parts_any (m : Nat) (size : Nat) (w : World) (hm : m ≤ 1048576) (hs : 0 < size) (hs2 : size ≤ 1048576) :
    Calls Tryz.prog 119 #[.int .i64 (m : Int), .int .i64 (size : Int)] w fun e w' => e = .returned (.int .i64 (((m : Int) + (size : Int) - 1) / (size : Int))) ∧ w = w' := by
  go_enter Tryz.func119, Tryz.ntmps119
  go_wp2_with fail
  go_ret
  exact ⟨rfl, rfl⟩
theorem bodySize_any (m : Nat) (w : World) (hm : m ≤ 65536) :
    Calls Tryz.prog 145 #[.int .i64 (m : Int)] w fun e w' => e = .returned (.int .i64 (((m : Int) + 31) / 32 + (m : Int))) ∧ w = w' := by
  have h := parts_any m 32 w (by omega) (by decide) (by decide)
  rw [show (m : Int) + ((32 : Nat) : Int) - 1 = (m : Int) + 31 by omega] at h
  have HP := Lib.hid h
  clear h
  go_enter Tryz.func145, Tryz.ntmps145
  go_wp2_with fail
  refine HP.out.mono ?_
  rintro e w1 ⟨rfl, rfl⟩
  clear HP
  go_wp2_with fail
  go_ret
  exact ⟨rfl, rfl⟩
def hdV (h : Hd) : Value := .agg #[.int .u64 (h.gen : Int), .bool h.pend, .int .i64 (h.cnt : Int)]
theorem cells3 (w : World) (a b c : Value) (t : TypeId) {W : World} (h : Below (w.alloc (.cells #[a, b, c] t)).heap.size (w.alloc (.cells #[a, b, c] t)) W) :
    W.cell? ⟨w.heap.size, 0, none⟩ = some a ∧ W.cell? ⟨w.heap.size, 1, none⟩ = some b ∧ W.cell? ⟨w.heap.size, 2, none⟩ = some c := by
  have hr := h.block w.heap.size (by simp)
  have h0 := heap_alloc_new w (.cells #[a, b, c] t)
  have h1 := hr.trans h0
  refine ⟨?_, ?_, ?_⟩
  all_goals
    unfold World.cell?
    rw [h1]
    rfl
theorem frozen3 (w : World) (a b c : Value) (t : TypeId) {W : World} (h : Below (w.alloc (.cells #[a, b, c] t)).heap.size (w.alloc (.cells #[a, b, c] t)) W) :
    W.frozen? ⟨w.heap.size, 0, none⟩ = false ∧ W.frozen? ⟨w.heap.size, 1, none⟩ = false ∧ W.frozen? ⟨w.heap.size, 2, none⟩ = false := by
  have hr := (h.block w.heap.size (by simp)).trans (heap_alloc_new w (.cells #[a, b, c] t))
  exact ⟨frozen_of_row W _ 0 _ t hr, frozen_of_row W _ 1 _ t hr, frozen_of_row W _ 2 _ t hr⟩
theorem set3 {W : World} {g : Nat} {a b c : Value} {t : TypeId} (h : W.heap[g]? = some (.cells #[a, b, c] t (0, 0))) (x y z : Value) :
    (((W.setCell ⟨g, 0, none⟩ x).setCell ⟨g, 1, none⟩ y).setCell ⟨g, 2, none⟩ z).heap[g]? = some (.cells #[x, y, z] t (0, 0)) := by
  have h1 := heap_setCell_same W g 0 _ t x h
  have h2 := heap_setCell_same _ g 1 _ t y h1
  have h3 := heap_setCell_same _ g 2 _ t z h2
  exact h3
set_option maxHeartbeats 1000000 in
theorem headSec_any (g c : Nat) (p : Bool) (w : World) (hg : g < 18446744073709551616) (hc : c < 65536) :
    Calls Tryz.prog 218 #[.agg #[.int .u64 (g : Int), .bool p, .int .i64 (c : Int)]] w fun e w' => e = .returned (str (headL g p.toNat c)) ∧ Below w.heap.size w w' := by
  have N8 := fun W => number_any (g : Int) g 8 W rfl hg (by decide) (by simpa using hg) 8 rfl
  have N1 := fun W (h : p = false) => number_any 0 p.toNat 1 W (by rw [h]; rfl) (by cases p <;> decide) (by decide) (by cases p <;> decide) 1 rfl
  have N3 := fun W (h : p = true) => number_any 1 p.toNat 1 W (by rw [h]; rfl) (by cases p <;> decide) (by decide) (by cases p <;> decide) 1 rfl
  have N2 := fun W => number_any (c : Int) c 2 W rfl (by omega) (by decide) (by simpa using hc) 2 rfl
  have F := fun W => filled_any (leB 8 g ++ (leB 1 p.toNat ++ leB 2 c)) 49 60 W (by simp [leB_length]) (by simp [leB_length])
  have SE := fun W => sealAll_any (headT g p.toNat c) W (by rw [headT_length]; decide)
  rw [show leB 8 g ++ (leB 1 p.toNat ++ leB 2 c) ++ List.replicate 49 0 = headT g p.toNat c by simp [headT]] at F
  rw [show headT g p.toNat c ++ sealL (headT g p.toNat c) = headL g p.toNat c from rfl] at SE
  generalize headT g p.toNat c = T at F SE
  generalize headL g p.toNat c = L at SE ⊢
  have HN8 := Lib.hid N8
  have HN1 := Lib.hid N1
  have HN3 := Lib.hid N3
  have HN2 := Lib.hid N2
  have HF := Lib.hid F
  have HSE := Lib.hid SE
  clear N8 N1 N3 N2 F SE
  have hcu : IntKind.u64.wrap (c : Int) = c := u64_wrap _ (by omega) (by omega)
  have l8 : (leB 8 g).length = 8 := leB_length 8 g
  have l1 : (leB 1 p.toNat).length = 1 := leB_length 1 _
  have l2 : (leB 2 c).length = 2 := leB_length 2 c
  generalize hx : leB 8 g = x8 at HN8 HF l8
  generalize hz : leB 1 p.toNat = x1 at HN1 HN3 HF l1
  generalize hy : leB 2 c = x2 at HN2 HF l2
  have B := Lib.hid (Below.refl (w.alloc (.cells #[.int .u64 (g : Int), .bool p, .int .i64 (c : Int)] 154)).heap.size (w.alloc (.cells #[.int .u64 (g : Int), .bool p, .int .i64 (c : Int)] 154))).drew
  obtain ⟨d0, d1, d2⟩ := cells3 w _ _ _ _ B.out
  cases p
  all_goals
    first | have HNx := Lib.hid (fun W => HN1.out W rfl) | have HNx := Lib.hid (fun W => HN3.out W rfl)
    go_enter Tryz.func218, Tryz.ntmps218
    go_wp2_with fail
    go_region_held3 (fun W => W.cell? ⟨w.heap.size, 0, none⟩ = some (.int .u64 (g : Int)) ∧ W.cell? ⟨w.heap.size, 2, none⟩ = some (.int .i64 (c : Int)))
      (exact ⟨d0, d2⟩)
      (first | (go_at_call 216; ((first | (with_reducible refine (HN8.out _).mono ?_) | (with_reducible refine (HNx.out _).mono ?_) | (with_reducible refine (HN2.out _).mono ?_)); rintro e w4 ⟨rfl, hb⟩; have B := Lib.hid (chain B.out hb); obtain ⟨d0, d1, d2⟩ := cells3 w _ _ _ _ B.out)))
    go_wp2_with fail
    with_reducible refine (HF.out _).mono ?_
    rintro e w5 ⟨rfl, hb⟩
    have B := Lib.hid (chain B.out hb)
    go_wp2_with fail
    with_reducible refine (HSE.out _).mono ?_
    rintro e w6 ⟨rfl, hb⟩
    have B := Lib.hid (chain B.out hb)
    clear d0 d1 d2 hb
    go_wp2_with fail
    go_ret
    exact ⟨rfl, ((Below.refl _ _).alloc (Nat.le_refl _) _).trans (B.out.mono (by simp))⟩
set_option maxHeartbeats 1000000 in
theorem readHead_any (s : List UInt8) (w : World) (hs : s.length = 64) :
    Calls Tryz.prog 144 #[str s] w fun e w' => e = .returned (hdV (hd s)) ∧ Below w.heap.size w w' := by
  have hst : s = s.take 60 ++ s.drop 60 := (List.take_append_drop _ _).symm
  have ht : (s.take 60).length = 60 := by rw [List.length_take]; omega
  have hq : (s.drop 60).length = 4 := by rw [List.length_drop]; omega
  unfold hd
  generalize s.take 60 = t at *
  generalize s.drop 60 = q at *
  subst hst
  by_cases h : q = sealL t
  · subst h
    rw [if_pos rfl]
    have HO := Lib.hid (open_ok t (w.alloc (.cells #[.int .u64 0, .bool false, .int .i64 0] 154)) (by omega))
    have H1 := Lib.hid fun W => take_any t 8 W (by omega) (by decide) (by omega) 8 rfl
    have H2 := Lib.hid fun W => take_any (t.drop 8) 1 W (by rw [List.length_drop]; omega) (by decide) (by rw [List.length_drop]; omega) 1 rfl
    have H3 := Lib.hid fun W => take_any ((t.drop 8).drop 1) 2 W (by rw [List.length_drop, List.length_drop]; omega) (by decide) (by rw [List.length_drop, List.length_drop]; omega) 2 rfl
    have hc := leV_lt ((t.drop 9).take 2)
    have hc2 : ((t.drop 9).take 2).length ≤ 2 := by rw [List.length_take]; omega
    have hc3 : leV ((t.drop 9).take 2) < 65536 := Nat.lt_of_lt_of_le hc (Nat.le_trans (Nat.pow_le_pow_right (by omega) hc2) (by decide))
    clear hc hc2
    rw [List.drop_drop] at H3
    generalize leV ((t.drop 9).take 2) = c at H3 hc3
    have hc4 : ((c : Int)) < 65536 := by omega
    go_enter Tryz.func144, Tryz.ntmps144
    go_wp2_with fail
    refine HO.out.mono ?_
    rintro e w1 ⟨rfl, hb⟩
    have B := Lib.hid hb
    clear hb
    go_wp2_with fail
    refine (H1.out _).mono ?_
    rintro e w2 ⟨rfl, hb⟩
    have B := Lib.hid (chain B.out hb)
    clear hb
    go_wp2_with fail
    refine (H2.out _).mono ?_
    rintro e w3 ⟨rfl, hb⟩
    have B := Lib.hid (chain B.out hb)
    clear hb
    go_wp2_with fail
    refine (H3.out _).mono ?_
    rintro e w4 ⟨rfl, hb⟩
    have B := Lib.hid (chain B.out hb)
    clear hb
    obtain ⟨d0, d1, d2⟩ := cells3 w _ _ _ _ B.out
    obtain ⟨f0, f1, f2⟩ := frozen3 w _ _ _ _ B.out
    go_wp2_with fail
    have hB := B.out
    have hbx : (((leV ((t.drop 8).take 1) : Nat) : Int) == 1) = (leV ((t.drop 8).take 1) == 1) := by
      rw [Bool.eq_iff_iff, beq_iff_eq, beq_iff_eq]; omega
    rw [hbx]
    have hfin := set3 ((hB.block w.heap.size (by simp)).trans (heap_alloc_new w _)) (.int .u64 (leV (t.take 8) : Int)) (.bool (leV ((t.drop 8).take 1) == 1)) (.int .i64 (c : Int))
    refine bodyPost_ret (v := hdV ⟨leV (t.take 8), leV ((t.drop 8).take 1) == 1, c⟩) ?_ rfl ⟨rfl, ((((Below.refl _ _).alloc (Nat.le_refl _) _).trans (hB.mono (by simp))).setCell (Nat.le_refl _) _ |>.setCell (Nat.le_refl _) _).setCell (Nat.le_refl _) _⟩
    exact results_cell_row rfl _ _ w.heap.size 154 _ (0, 0) _ rfl hfin Tryz.underlying154 rfl (by kernel_rfl)
  · rw [if_neg h]
    have HO := Lib.hid (open_bad t q (w.alloc (.cells #[.int .u64 0, .bool false, .int .i64 0] 154)) (by omega) hq h)
    go_enter Tryz.func144, Tryz.ntmps144
    go_wp2_with fail
    refine HO.out.mono ?_
    rintro e w1 ⟨rfl, hb⟩
    have B := Lib.hid hb
    clear hb
    obtain ⟨d0, d1, d2⟩ := cells3 w _ _ _ _ B.out
    obtain ⟨f0, f1, f2⟩ := frozen3 w _ _ _ _ B.out
    go_wp2_with fail
    have hB := B.out
    have hfin := set3 ((hB.block w.heap.size (by simp)).trans (heap_alloc_new w _)) (.int .u64 0) (.bool false) (.int .i64 0)
    refine bodyPost_ret (v := hdV ⟨0, false, 0⟩) ?_ rfl ⟨rfl, ((((Below.refl _ _).alloc (Nat.le_refl _) _).trans (hB.mono (by simp))).setCell (Nat.le_refl _) _ |>.setCell (Nat.le_refl _) _).setCell (Nat.le_refl _) _⟩
    exact results_cell_row rfl _ _ w.heap.size 154 _ (0, 0) _ rfl hfin Tryz.underlying154 rfl (by kernel_rfl)
end Go.Proofs.YtnfiapjdkjbdhaaGreat
/- Layer 4 (journal): rows of puts in memory. -/
namespace Go.Proofs.YtnfiapjdkjbdhaaGreat
open Go.RowKit Go.Maps
set_option linter.unusedVariables false
set_option linter.unusedSimpArgs false
set_option maxRecDepth 10000
abbrev PutI := List (Int × List UInt8)
def putC (l : PutI) : List Value := l.flatMap fun p => [.int .i64 p.1, str p.2]
theorem putC_append (l m : PutI) : putC (l ++ m) = putC l ++ putC m := by simp [putC]
theorem putC_one (p : Int × List UInt8) : putC [p] = [.int .i64 p.1, str p.2] := by simp [putC]
theorem putC_at (l : PutI) (k : Nat) (h : k < l.length) : (putC l)[k * 2]? = some (.int .i64 l[k].1) ∧ (putC l)[k * 2 + 1]? = some (str l[k].2) := by
  induction l generalizing k with
  | nil => simp at h
  | cons p r ih =>
    have hc : putC (p :: r) = .int .i64 p.1 :: str p.2 :: putC r := by simp [putC]
    rw [hc]
    cases k with
    | zero => exact ⟨rfl, rfl⟩
    | succ k =>
      have := ih k (by simpa using h)
      rw [show (k + 1) * 2 = k * 2 + 1 + 1 by omega]
      simpa using this
def Puts (W : World) (v : Value) (l : PutI) : Prop :=
  ∃ A c, v = .slice A l.length c ∧ ∀ j p, l[j]? = some p → ∃ a : Addr, A = some a ∧ W.cell? (a.add (j * 2)) = some (.int .i64 p.1) ∧ W.cell? (behind a (j * 2) 1) = some (str p.2)
theorem add_block (a : Addr) (k : Nat) : (a.add k).block = a.block := by unfold Addr.add; split <;> rfl
theorem Puts.kept {w W : World} {v : Value} {l : PutI} (h : Puts w v l) (hb : ∀ k, v.ownBlock = some k → W.heap[k]? = w.heap[k]?) : Puts W v l := by
  obtain ⟨A, c, rfl, hc⟩ := h
  refine ⟨A, c, rfl, fun j p hj => ?_⟩
  obtain ⟨a, rfl, h1, h2⟩ := hc j p hj
  have hk := hb a.block rfl
  refine ⟨a, rfl, ?_, ?_⟩
  · exact (World.cell?_of_block (a := a.add (j * 2)) (by rw [add_block]; exact hk)).trans h1
  · exact (World.cell?_of_block (a := behind a (j * 2) 1) (by show W.heap[(a.add (j * 2)).block]? = w.heap[(a.add (j * 2)).block]?; rw [add_block]; exact hk)).trans h2
theorem Puts.lt {w : World} {v : Value} {l : PutI} (h : Puts w v l) (hl : l ≠ []) (k : Nat) (hk : v.ownBlock = some k) : k < w.heap.size := by
  obtain ⟨A, c, rfl, hc⟩ := h
  obtain ⟨p, r, rfl⟩ := List.exists_cons_of_ne_nil hl
  obtain ⟨a, rfl, h1, _⟩ := hc 0 p rfl
  cases hk
  have := World.block_lt_of_cell? w _ h1
  rwa [add_block] at this
theorem Puts.below {w W : World} {v : Value} {l : PutI} (h : Puts w v l) (hb : Below w.heap.size w W) : Puts W v l := by
  by_cases hl : l = []
  · subst hl
    obtain ⟨A, c, rfl, hc⟩ := h
    exact ⟨A, c, rfl, fun j p hj => by simp at hj⟩
  · exact h.kept fun k hk => hb.block k (h.lt hl k hk)
abbrev OwnP (W : World) (base : Nat) (v : Value) (l : PutI) : Prop := W.ownsRow base 117 2 v l.length (putC l)
theorem OwnP.puts {W : World} {base : Nat} {v : Value} {l : PutI} (h : OwnP W base v l) : Puts W v l := by
  rcases h.2 with ⟨rfl, h0⟩ | ⟨g, cap, cur, hv, hrest⟩
  · exact ⟨none, 0, by rw [h0], fun j p hj => by rw [List.length_eq_zero_iff.1 h0] at hj; simp at hj⟩
  · refine ⟨some ⟨g, 0, none⟩, cap, hv, fun j p hj => ⟨_, rfl, ?_⟩⟩
    obtain ⟨hlt, rfl⟩ := List.getElem?_eq_some_iff.1 hj
    obtain ⟨h1, h2⟩ := putC_at l j hlt
    have hg : v.ownBlock = some g := by rw [hv]; rfl
    have c1 := h.cells hg _ _ h1
    have c2 := h.cells hg _ _ h2
    refine ⟨c1, ?_⟩
    rwa [behind_add _ _ _ (by decide)] at c2
def putAppend (args : Array Value) : Sem Value := Builtin.append_ #[114, 114] 114 args
@[go_sem ↓] theorem put_append_fold (args : Array Value) : Builtin.append_ #[114, 114] 114 args = putAppend args := rfl
theorem putInfo : (Tryz.prog.info? 117).map (fun i => (i.zero, i.size, i.bytes)) = some (some (.agg #[.int .i64 0, str []]), 2, 24) := by kernel_rfl
theorem append_put (W : World) (base B : Nat) (v : Value) (l : PutI) (p : Int × List UInt8) (h : OwnP W base v l) (a c : Nat) (hc0 : W.cell? ⟨a, 0, none⟩ = some (.int .i64 p.1)) (hc1 : W.cell? ⟨a, 1, none⟩ = some (str p.2)) (hl : l.length ≤ 1048576) (hb : base ≤ W.heap.size)
    (hB : B ≤ W.heap.size) (hv : ∀ k, v.ownBlock = some k → B ≤ k) :
    ∃ v' W', (putAppend #[v, .slice (some ⟨a, 0, none⟩) 1 c]).run Tryz.prog W = .ok v' W' ∧ OwnP W' base v' (l ++ [p]) ∧ Below B W W' ∧ (∀ k, v'.ownBlock = some k → B ≤ k) ∧ W.grownBy W' v.ownBlock ∧ (v'.ownBlock = v.ownBlock ∨ v'.ownBlock = some W.heap.size) := by
  obtain ⟨i, hi, hz, hsz, hby⟩ := info_parts putInfo
  obtain ⟨v', W', hap, hown, hg, _, hor⟩ := run_append_own_at (P := Tryz.prog) (w := W) base 114 114 117 i _ 2 24 Tryz.underlying114 hi hz hsz hby rfl (by decide) v l.length (putC l) h
    ⟨a, 0, none⟩ 1 c [.int .i64 p.1, str p.2] rfl (fun j u hj => by
      rw [Addr.add_lit]
      match j, hj with
      | 0, hj => simp at hj; subst hj; exact hc0
      | 1, hj => simp at hj; subst hj; exact hc1) (fun u hu => by simp at hu; rcases hu with rfl | rfl <;> rfl) (by unfold maxLen; omega) (by omega) hb
  refine ⟨v', W', hap, ?_, (Below.refl B W).grown hg hB hv, fun k hk => ?_, hg, hor⟩
  · rw [← putC_one, ← putC_append] at hown
    show W'.ownsRow base 117 2 v' (l ++ [p]).length (putC (l ++ [p]))
    rw [List.length_append]
    exact hown
  · rcases hor with e | e
    · rw [e] at hk; exact hv k hk
    · rw [e] at hk; cases hk; exact hB
section
variable {P : Program} {t k e : TypeId} {W : World} {m n : Nat} {f : Nat → Option Value}
theorem IMap.look2 (h : IMap P k W m n f) (hk : P.underlying k = some (.int .i64)) (ht : P.underlying t = some (.map k e)) {z : Value} (hz : (zeroValue e).run P W = .ok z W) (hn : n ≤ 9223372036854775807) {i : Nat} (hi : i < n) :
    (Instr.lookup t (.map (some m)) (.int .i64 (i : Int)) true).run P W = .ok (.tuple #[(f i).getD z, .bool (f i).isSome]) W := by
  obtain ⟨D, h1, h2, h3⟩ := h
  obtain ⟨v, ps, hrun, hv⟩ := h1.look_ok (int_keyed hk) ht hz (zd := .held z) (zp := []) rfl (keyOf_int_mk hk (key_wf (i := i) (by omega)))
  rw [hrun]
  simp only [heldR, Option.some.injEq, Prod.mk.injEq] at hv
  cases hf : f i with
  | some u =>
    rw [h3 i u hi hf] at hv
    cases hv.1
    have : Maps.has D (.int .i64 (i : Int)) = true := (h2 _).2 ⟨i, hi, rfl, by rw [hf]; rfl⟩
    rw [this]; rfl
  | none =>
    have hh : Maps.has D (.int .i64 (i : Int)) = false := by
      cases hc : Maps.has D (.int .i64 (i : Int)) with
      | false => rfl
      | true =>
        obtain ⟨j, _, hj, hs⟩ := (h2 _).1 hc
        simp only [Lit.int.injEq, true_and] at hj
        obtain rfl : i = j := by omega
        rw [hf] at hs; cases hs
    rw [Maps.atKey_of_not_has hh] at hv
    cases hv.1
    rw [hh]; rfl
end
end Go.Proofs.YtnfiapjdkjbdhaaGreat
