/- Layer 9 (bmap): what is asked of all, ahead of all else. -/
import Derived.Test.YtdddennhdbmolaaGreatBmap2
namespace Go.Proofs.YtdddennhdbmolaaGreat
open Go.RowKit Go.Lib
set_option linter.unusedVariables false
set_option linter.unusedSimpArgs false
set_option maxRecDepth 10000
theorem bref_nil (i b j : Int) (x : Im) (m : Bool) (pv : Value) (w : World) :
    Calls Tryz.prog 25 #[.pointer none, geoV i b j, x.v, .bool m, pv] w fun e w' => e = .returned (.int .i64 1) ∧ Below w.heap.size w w' := by
  go_enter Tryz.func25, Tryz.ntmps25
  go_wp2_with fail
  go_ret
  exact ⟨rfl, ((Below.refl _ _).alloc (Nat.le_refl _) _).alloc (by simp) _⟩
/-- What is asked of all. -/
def askB (i b j : Int) (x : Im) (m : Bool) (pl : List Nat) : Bool := decide (mayI i b j) && !((pl ++ x.bl).any (oddB i b j)) && m
theorem below_of_drew {w w' : World} (h : Below w.drew.heap.size w.drew w') : Below w.heap.size w w' := ⟨h.os, h.tape, h.output, h.size, h.block⟩
theorem heap_two (w : World) (o p : Obj) : ((w.alloc o).alloc p).heap[w.heap.size]? = some o ∧ ((w.alloc o).alloc p).heap[w.heap.size + 1]? = some p := by
  refine ⟨?_, by simpa using heap_alloc_new (w.alloc o) p⟩
  rw [heap_alloc_old _ _ (by simp)]
  exact heap_alloc_new w o
theorem refusal_cat (W : World) (A : Option Addr) (c : Nat) (pl : List Nat) (x : Im) (B : Nat) (k n z : Value) (hp : U16s W (.slice A pl.length c) pl) (hnil : A = none → c = 0) (hl : pl.length ≤ 1)
    (hh : W.heap[B]? = some (.cells #[k, n, z, w16 x.d0, w16 x.d1, w16 x.d2, w16 x.d3, w16 x.i] 28 (0, 0))) :
    Calls Tryz.prog 45 #[.slice (some ⟨W.heap.size + 1, 0, none⟩) 3 3]
      ((W.alloc (.cells #[w16 x.i] 24)).alloc (.cells #[.slice A pl.length c, .slice (some ⟨B, 3, none⟩) 4 4, .slice (some ⟨W.heap.size, 0, none⟩) 1 1] 37)).drew
      fun e w' => ∃ v, e = .returned v ∧ U16s w' v (pl ++ x.bl) ∧ Below W.heap.size W w' := by
  obtain ⟨h0, h1⟩ := heap_two W (.cells #[w16 x.i] 24) (.cells #[.slice A pl.length c, .slice (some ⟨B, 3, none⟩) 4 4, .slice (some ⟨W.heap.size, 0, none⟩) 1 1] 37)
  have hb : Below W.heap.size W ((W.alloc (.cells #[w16 x.i] 24)).alloc (.cells #[.slice A pl.length c, .slice (some ⟨B, 3, none⟩) 4 4, .slice (some ⟨W.heap.size, 0, none⟩) 1 1] 37)) := ((Below.refl _ W).alloc (Nat.le_refl _) _).alloc (by simp) _
  have hB := (hb.block B (Array.getElem?_eq_some_iff.1 hh).1).trans hh
  have hp2 := hp.below hb
  generalize ((W.alloc (.cells #[w16 x.i] 24)).alloc (.cells #[.slice A pl.length c, .slice (some ⟨B, 3, none⟩) 4 4, .slice (some ⟨W.heap.size, 0, none⟩) 1 1] 37)) = V at *
  refine (concat_any [(.slice A pl.length c, pl), (.slice (some ⟨B, 3, none⟩) 4 4, [x.d0, x.d1, x.d2, x.d3]), (.slice (some ⟨W.heap.size, 0, none⟩) 1 1, [x.i])] (W.heap.size + 1) 3 V.drew ?_ (by simp) ?_ (by simp)).mono ?_
  · intro j v l hj
    match j, hj with
    | 0, hj =>
      cases hj
      exact ⟨cell_of_row V _ 0 _ _ _ h1, hp2, fun m c' e => by cases e; exact hnil rfl⟩
    | 1, hj =>
      cases hj
      refine ⟨cell_of_row V _ 1 _ _ _ h1, ⟨_, _, rfl, fun j n hj => ⟨_, rfl, ?_⟩⟩, fun m c' e => by cases e⟩
      match j, hj with
      | 0, hj => cases hj; exact cell_of_row V B 3 _ _ _ hB
      | 1, hj => cases hj; exact cell_of_row V B 4 _ _ _ hB
      | 2, hj => cases hj; exact cell_of_row V B 5 _ _ _ hB
      | 3, hj => cases hj; exact cell_of_row V B 6 _ _ _ hB
    | 2, hj =>
      cases hj
      refine ⟨cell_of_row V _ 2 _ _ _ h1, ⟨_, _, rfl, fun j n hj => ⟨_, rfl, ?_⟩⟩, fun m c' e => by cases e⟩
      match j, hj with
      | 0, hj => cases hj; exact cell_of_row V W.heap.size 0 _ _ _ h0
  · intro p hp
    rcases List.mem_cons.1 hp with rfl | hp
    · show pl.length ≤ 100; omega
    rcases List.mem_cons.1 hp with rfl | hp
    · simp
    rcases List.mem_cons.1 hp with rfl | hp
    · simp
    cases hp
  · rintro e w' ⟨c2, rfl, hu, hb2⟩
    refine ⟨_, rfl, ?_, hb.trans ((below_of_drew hb2).mono hb.size)⟩
    have e : (List.flatMap (·.2) [(Value.slice A pl.length c, pl), (.slice (some ⟨B, 3, none⟩) 4 4, [x.d0, x.d1, x.d2, x.d3]), (.slice (some ⟨W.heap.size, 0, none⟩) 1 1, [x.i])]) = pl ++ x.bl := by
      simp [List.flatMap_cons, Im.bl]
    rw [e] at hu ⊢
    exact hu
set_option maxHeartbeats 1000000 in
theorem bref_any (tb : Nat) (i b j : Int) (x : Im) (hx : x.fits) (m : Bool) (pv : Value) (pl : List Nat) (w : World) (hp : U16s w pv pl) (hnil : ∀ m c, pv = .slice none m c → c = 0) (hl : pl.length ≤ 1) (hpl : ∀ n ∈ pl, n < 65536) :
    Calls Tryz.prog 25 #[.pointer (some ⟨tb, 0, none⟩), geoV i b j, x.v, .bool m, pv] w fun e w' => e = .returned (.int .i64 (if askB i b j x m pl then 0 else 2)) ∧ Below w.heap.size w w' := by
  obtain ⟨r, hr⟩ : ∃ r : Int, r = if askB i b j x m pl then 0 else 2 := ⟨_, rfl⟩
  rw [← hr]
  have HR2 := Lib.hid hr
  clear hr
  have HP := Lib.hid hp
  obtain ⟨A, c, rfl, -⟩ := hp
  have HNil := Lib.hid (fun e => hnil _ _ (by rw [e]) : A = none → c = 0)
  clear hnil
  go_enter Tryz.func25, Tryz.ntmps25
  go_wp2_with fail
  have hh : ((w.alloc (.cells #[.int .i64 i, .int .i64 b, .int .i64 j] 23)).alloc (.cells #[.int .u8 x.k, w16 x.n, .int .u32 x.z, w16 x.d0, w16 x.d1, w16 x.d2, w16 x.d3, w16 x.i] 28)).heap[w.heap.size + 1]? = some (.cells #[.int .u8 x.k, w16 x.n, .int .u32 x.z, w16 x.d0, w16 x.d1, w16 x.d2, w16 x.d3, w16 x.i] 28 (0, 0)) := by
    have := heap_alloc_new (w.alloc (.cells #[.int .i64 i, .int .i64 b, .int .i64 j] 23)) (.cells #[.int .u8 x.k, w16 x.n, .int .u32 x.z, w16 x.d0, w16 x.d1, w16 x.d2, w16 x.d3, w16 x.i] 28)
    simpa using this
  generalize hW : ((w.alloc (.cells #[.int .i64 i, .int .i64 b, .int .i64 j] 23)).alloc (.cells #[.int .u8 x.k, w16 x.n, .int .u32 x.z, w16 x.d0, w16 x.d1, w16 x.d2, w16 x.d3, w16 x.i] 28)) = W0 at *
  have k7 : W0.cell? ⟨w.heap.size + 1, 7, none⟩ = some (w16 x.i) := cell_of_row _ _ 7 _ _ _ hh
  have hG : GeoAt W0 w.heap.size i b j := by
    have := (heap_two w (.cells #[.int .i64 i, .int .i64 b, .int .i64 j] 23) (.cells #[.int .u8 x.k, w16 x.n, .int .u32 x.z, w16 x.d0, w16 x.d1, w16 x.d2, w16 x.d3, w16 x.i] 28)).1
    rw [hW] at this
    exact this
  have hB0 : Below w.heap.size w W0 := by rw [← hW]; exact ((Below.refl _ _).alloc (Nat.le_refl _) _).alloc (by simp) _
  have HC := Lib.hid (refusal_cat W0 A c pl x (w.heap.size + 1) _ _ _ (HP.out.below hB0) HNil.out hl hh)
  have HG := Lib.hid hG
  have HB0 := Lib.hid hB0
  clear hG hB0 hh hW
  have hlt7 : w.heap.size + 1 < W0.heap.size := World.block_lt_of_cell? W0 _ k7
  go_region_held3 (fun W' => W'.cell? ⟨w.heap.size + 1, 7, none⟩ = some (w16 x.i)) (first | exact k7 | go_keep) (first | (go_at_call 45; ((with_reducible refine (HC.out).mono ?_); rintro e w1 ⟨v, rfl, hu, hb⟩; have HU := Lib.hid hu; have k7 := (hb.cell (p := ⟨w.heap.size + 1, 7, none⟩) hlt7).trans k7; have HB := Lib.hid hb; clear hu hb)))
  have HG1 := Lib.hid (HG.out.below HB.out)
  clear k7
  have hbel : ∀ V, Below w1.heap.size w1 V → Below w.heap.size w V := fun V hV => (HB0.out.trans (HB.out.mono HB0.out.size)).trans (hV.mono (Nat.le_trans HB0.out.size HB.out.size))
  have HBel := Lib.hid hbel
  have HN := Lib.hid (show ∀ n ∈ pl ++ x.bl, n < 65536 by
    intro n hn
    rcases List.mem_append.1 hn with h | h
    · exact hpl n h
    · obtain ⟨-, -, -, h0, h1, h2, h3, h4⟩ := hx
      simp only [Im.bl, List.mem_cons, List.not_mem_nil, or_false] at h
      rcases h with rfl | rfl | rfl | rfl | rfl <;> assumption)
  have hlen : (pl ++ x.bl).length ≤ 1000 := by rw [List.length_append]; show pl.length + 5 ≤ 1000; omega
  have HCon := Lib.hid (fun V (hV : Below w1.heap.size w1 V) => oddContains_any w.heap.size i b j (pl ++ x.bl) v V (HG1.out.below hV) (HU.out.below hV) hlen HN.out)
  have c0 : w1.cell? ⟨w.heap.size, 0, none⟩ = some (.int .i64 i) := cell_of_row w1 _ 0 _ 23 (0, 0) HG1.out
  have c1 : w1.cell? ⟨w.heap.size, 1, none⟩ = some (.int .i64 b) := cell_of_row w1 _ 1 _ 23 (0, 0) HG1.out
  have c2 : w1.cell? ⟨w.heap.size, 2, none⟩ = some (.int .i64 j) := cell_of_row w1 _ 2 _ 23 (0, 0) HG1.out
  have hask : askB i b j x m pl = (decide (mayI i b j) && !((pl ++ x.bl).any (oddB i b j)) && m) := rfl
  have HR := Lib.hid hask
  clear hbel HC HG HU HB HB0 HP HNil hask hlen
  generalize (pl ++ x.bl).any (oddB i b j) = q at *
  by_cases hm : mayI i b j
  · have HM := Lib.hid fun V => may_ok i b j V hm
    rw [decide_eq_true hm] at HR
    clear hm
    cases q
    · cases m
      · go_wp2_with fail
        refine (HM.out _).mono ?_
        rintro e w2 ⟨rfl, hb2⟩
        have HB2 := Lib.hid hb2
        clear hb2
        go_wp2_with fail
        refine (HCon.out _ HB2.out).mono ?_
        rintro e w3 ⟨rfl, hb3⟩
        have HB3 := Lib.hid (HB2.out.trans (hb3.mono HB2.out.size))
        clear hb3
        go_wp2_with fail
        go_ret
        exact ⟨by rw [HR2.out, HR.out]; rfl, HBel.out _ HB3.out⟩
      · go_wp2_with fail
        refine (HM.out _).mono ?_
        rintro e w2 ⟨rfl, hb2⟩
        have HB2 := Lib.hid hb2
        clear hb2
        go_wp2_with fail
        refine (HCon.out _ HB2.out).mono ?_
        rintro e w3 ⟨rfl, hb3⟩
        have HB3 := Lib.hid (HB2.out.trans (hb3.mono HB2.out.size))
        clear hb3
        go_wp2_with fail
        go_ret
        exact ⟨by rw [HR2.out, HR.out]; rfl, HBel.out _ HB3.out⟩
    · go_wp2_with fail
      refine (HM.out _).mono ?_
      rintro e w2 ⟨rfl, hb2⟩
      have HB2 := Lib.hid hb2
      clear hb2
      go_wp2_with fail
      refine (HCon.out _ HB2.out).mono ?_
      rintro e w3 ⟨rfl, hb3⟩
      have HB3 := Lib.hid (HB2.out.trans (hb3.mono HB2.out.size))
      clear hb3
      go_wp2_with fail
      go_ret
      exact ⟨by rw [HR2.out, HR.out]; rfl, HBel.out _ HB3.out⟩
  · have HM := Lib.hid fun V => may_bad i b j V hm
    rw [decide_eq_false hm] at HR
    clear hm
    go_wp2_with fail
    refine (HM.out _).mono ?_
    rintro e w2 ⟨rfl, hb2⟩
    have HB2 := Lib.hid hb2
    clear hb2
    go_wp2_with fail
    go_ret
    exact ⟨by rw [HR2.out, HR.out]; rfl, HBel.out _ HB2.out⟩
end Go.Proofs.YtdddennhdbmolaaGreat
