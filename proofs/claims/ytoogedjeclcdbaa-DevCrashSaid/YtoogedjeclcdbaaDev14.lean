/- Layer 3 (dev): the chapter's examples, walked. -/
import Derived.Test.YtoogedjeclcdbaaDev13
namespace Go.Proofs.Ytoogedjeclcdbaa
open Go.RowKit Go.Maps
set_option linter.unusedVariables false
theorem row_lit (w : World) (xs : List Value) (e : TypeId) (n : Nat) (hn : xs.length = n) : Row (w.alloc (.cells xs.toArray e)) (.slice (some ⟨w.heap.size, 0, none⟩) n n) xs := by
  subst hn
  refine ⟨_, _, rfl, fun j u hj => ⟨_, rfl, ?_⟩⟩
  unfold World.cell?
  rw [heap_alloc_new]
  simpa using hj
set_option maxRecDepth 100000 in
set_option maxHeartbeats 2000000 in
theorem alive_any (w : World) : Calls Try.prog 7 #[] w fun e w' => e = .returned (.bool true) ∧ Below w.heap.size w w' := by
  have hf := ex_facts
  obtain ⟨f1, f2, f3, f4, f5, f6, f7, f8, f9, f10, f11⟩ := hf
  have g1 := Lib.hid f1
  have g2 := Lib.hid f2
  have g3 := Lib.hid f3
  have g4 := Lib.hid f4
  have g5 := Lib.hid f5
  have g6 := Lib.hid f6
  have g7 := Lib.hid f7
  have g8 := Lib.hid f8
  have g9 := Lib.hid f9
  have g10 := Lib.hid f10
  have g11 := Lib.hid f11
  clear f1 f2 f3 f4 f5 f6 f7 f8 f9 f10 f11
  go_enter Try.func7, Try.ntmps7
  go_wp2_with fail
  refine (held_new 8 (by decide) (by decide) (Keeps.start w)).mono ?_
  rintro e w1 ⟨b, rfl, hH, _⟩
  have H1 := Lib.hid hH
  clear hH
  go_wp2_with fail
  refine (new_no 7 _ (.inl (by decide))).mono ?_
  rintro e w2 ⟨rfl, rfl⟩
  go_wp2_with fail
  refine (sector_any [97] _ (by decide)).mono ?_
  rintro e w2 ⟨rfl, hb⟩
  have H2 := Lib.hid (H1.out.below hb)
  clear hb H1
  go_wp2_with fail
  have c := held_write H2.out (by decide) 3 (secOf [97])
  rw [g1.out] at c
  refine c.mono ?_
  clear c
  rintro e w3 ⟨rfl, hH⟩
  have H3 := Lib.hid hH
  clear hH H2
  go_wp2_with fail
  refine (sector_any [98] _ (by decide)).mono ?_
  rintro e w4 ⟨rfl, hb⟩
  have H4 := Lib.hid (H3.out.below hb)
  clear hb H3
  go_wp2_with fail
  have c := held_write H4.out (by decide +kernel) 3 (secOf [98])
  rw [g2.out] at c
  refine c.mono ?_
  clear c
  rintro e w5 ⟨rfl, hH⟩
  have H5 := Lib.hid hH
  clear hH H4
  go_wp2_with fail
  refine (sector_any [99] _ (by decide)).mono ?_
  rintro e w6 ⟨rfl, hb⟩
  have H6 := Lib.hid (H5.out.below hb)
  clear hb H5
  go_wp2_with fail
  have c := held_write H6.out (by decide +kernel) 5 (secOf [99])
  rw [g3.out] at c
  refine c.mono ?_
  clear c
  rintro e w7 ⟨rfl, hH⟩
  have h7 : Held (All w) w w7 b exM := hH
  have H7 := Lib.hid h7
  clear hH h7 H6
  go_wp2_with fail
  refine (held_loose H7.out).mono ?_
  rintro e w8 ⟨v, rfl, hrow, hK8, hH, _⟩
  rw [g4.out] at hrow
  have HR := Lib.hid hrow
  have HK := Lib.hid hK8
  have H8 := Lib.hid hH
  clear hrow hK8 hH H7
  go_wp2_with fail
  refine (held_crash H8.out (by decide +kernel) [1] (by decide)).mono ?_
  rintro e w9 ⟨rfl, hH⟩
  have h9 : Held (fun k => All w k ∨ v.ownBlock = some k) w8 w9 b exC := hH
  have H9 := Lib.hid h9
  clear hH h9 H8
  go_wp2_with fail
  have c := held_read H9.out (by decide +kernel) (by decide +kernel) 3 (by decide +kernel)
  rw [g5.out] at c
  refine c.mono ?_
  clear c
  rintro e w10 ⟨rfl, hH⟩
  have H10 := Lib.hid hH
  clear hH H9
  go_wp2_with fail
  have c := held_read H10.out (by decide +kernel) (by decide +kernel) 5 (by decide +kernel)
  rw [g6.out] at c
  refine c.mono ?_
  clear c
  rintro e w11 ⟨rfl, hH⟩
  have H11 := Lib.hid hH
  clear hH H10
  go_wp2_with fail
  refine (held_fuse H11.out 1 (by decide)).mono ?_
  rintro e w12 ⟨rfl, hH⟩
  have H12 := Lib.hid hH
  clear hH H11
  go_wp2_with fail
  refine (sector_any [97] _ (by decide)).mono ?_
  rintro e w13 ⟨rfl, hb⟩
  have H13 := Lib.hid (H12.out.below hb)
  clear hb H12
  go_wp2_with fail
  have c := held_write H13.out (by decide +kernel) 0 (secOf [97])
  rw [g7.out] at c
  refine c.mono ?_
  clear c
  rintro e w14 ⟨rfl, hH⟩
  have h14 : Held (fun k => All w k ∨ v.ownBlock = some k) w8 w14 b exF := hH
  have H14 := Lib.hid h14
  clear hH h14 H13
  go_wp2_with fail
  refine (sector_any [98] _ (by decide)).mono ?_
  rintro e w15 ⟨rfl, hb⟩
  have H15 := Lib.hid (H14.out.below hb)
  clear hb H14
  go_wp2_with fail
  have c := held_write H15.out (by decide +kernel) 0 (secOf [98])
  rw [g8.out] at c
  refine c.mono ?_
  clear c
  rintro e w16 ⟨rfl, hH⟩
  have H16 := Lib.hid hH
  clear hH H15
  go_wp2_with fail
  have c := held_down H16.out
  rw [g9.out] at c
  refine c.mono ?_
  clear c
  rintro e w17 ⟨rfl, rfl⟩
  go_wp2_with fail
  refine (held_crash H16.out (by decide +kernel) [] (by decide)).mono ?_
  rintro e w18 ⟨rfl, hH⟩
  have H18 := Lib.hid hH
  clear hH H16
  go_wp2_with fail
  have hr : Row w18 v ([3, 5].map encI) := HR.out.kept fun k hk => H18.out.keeps.same k (.inr hk)
  have hlt : ∀ k, v.ownBlock = some k → k < w18.heap.size := fun k hk => by
    have h := H18.out.keeps
    have := h.lt k (.inr hk); have := h.size; omega
  refine (same_any v _ [3, 5] _ (hr.kept fun k hk => Below.heap_alloc _ _ k (hlt k hk)) (row_lit w18 [encI 3, encI 5] _ 2 rfl) (by decide)).mono ?_
  clear hr hlt
  rintro e w19 ⟨rfl, hb⟩
  have H19 := Lib.hid ((H18.out.below ((Below.refl _ _).alloc (Nat.le_refl _) _)).below hb)
  clear hb H18
  go_wp2_with fail
  refine (sector_any [97] _ (by decide)).mono ?_
  rintro e w20 ⟨rfl, hb⟩
  have H20 := Lib.hid (H19.out.below hb)
  clear hb H19
  go_wp2_with fail
  refine (sector_any [] _ (by decide)).mono ?_
  rintro e w21 ⟨rfl, hb⟩
  have H21 := Lib.hid (H20.out.below hb)
  clear hb H20
  go_wp2_with fail
  have c := held_down H21.out
  rw [g10.out] at c
  refine c.mono ?_
  clear c
  rintro e w22 ⟨rfl, rfl⟩
  go_wp2_with fail
  have c := held_write H21.out (by decide +kernel) 0 [97]
  rw [g11.out] at c
  refine c.mono ?_
  clear c
  rintro e w23 ⟨rfl, hH⟩
  have H23 := Lib.hid hH
  clear hH H21
  go_wp2_with fail
  go_ret
  exact ⟨rfl, (HK.out.trans H23.out.keeps fun k hk => .inl hk).all⟩
end Go.Proofs.Ytoogedjeclcdbaa
