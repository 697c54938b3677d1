/- Layer 5: the walk of GeoTells. -/
import Derived.Test.YtoighnnjadmoiaaGeoAlive
import Derived.Test.YtoighnnjadmoiaaGeoR3
import Derived.Test.YtoighnnjadmoiaaBaseGeoEq
import Derived.Deep.RegionHeld3
namespace Go.Proofs.Ytoighnnjadmoiaa
open Go.RowKit
set_option linter.unusedVariables false
set_option linter.unusedSimpArgs false
set_option maxRecDepth 10000
theorem keep_call {W W' : World} {g : Nat} {o : Obj} (h : W.heap[g]? = some o) (hb : Below W.heap.size W W') : W'.heap[g]? = some o := (hb.block g (Array.getElem?_eq_some_iff.1 h).1).trans h
theorem keep_below {w W W' : World} (h : Below w.heap.size w W) (hb : Below W.heap.size W W') : Below w.heap.size w W' := h.trans (hb.mono h.size)
theorem row_lt {W : World} {g : Nat} {o : Obj} (h : W.heap[g]? = some o) : g < W.heap.size := (Array.getElem?_eq_some_iff.1 h).1
theorem heap_alloc_keep' {W : World} {p : Obj} {g : Nat} (h : W.heap[g]? = some p) (o : Obj) : (W.alloc o).heap[g]? = some p := by
  rw [heap_alloc_old _ _ (Array.getElem?_eq_some_iff.1 h).1]
  exact h
theorem scells {W : World} {g : Nat} {a b : Value} (h1 : W.heap[g]? = some (.cells #[a, b] 28 (0, 0))) : W.cell? ⟨g, 0, none⟩ = some a ∧ W.cell? ⟨g, 1, none⟩ = some b :=
  ⟨cell_of_row W g 0 _ _ (0, 0) h1, cell_of_row W g 1 _ _ (0, 0) h1⟩
set_option maxRecDepth 100000 in
set_option maxHeartbeats 4000000 in
theorem tells_bad (i b j part ino blk sec nn r1 r2 r3 re : Int) (s : List UInt8) (w : World) (hs : s.length ≤ 1000)
    (KP : Hid (∀ W, Calls Try.prog 8 #[geoV i b j, .int .i64 part] W fun e w' => e = .returned (.tuple #[spanV 0 0, .int .i64 2]) ∧ Below W.heap.size W w')) (KI : Hid (∀ W, Calls Try.prog 9 #[geoV i b j, .int .u32 ino] W fun e w' => e = .returned (.tuple #[.int .i64 0, .int .i64 0, .int .i64 2]) ∧ Below W.heap.size W w')) (KB : Hid (∀ W, Calls Try.prog 10 #[geoV i b j, .int .u16 blk] W fun e w' => e = .returned (.tuple #[.int .i64 0, .int .i64 2]) ∧ Below W.heap.size W w')) (KW : Hid (∀ W, Calls Try.prog 11 #[geoV i b j, .int .i64 sec] W fun e w' => e = .returned (.tuple #[.int .i64 0, .int .i64 0, .int .i64 2]) ∧ Below W.heap.size W w')) (KS : Hid (∀ W, Calls Try.prog 12 #[geoV i b j] W fun e w' => e = .returned (.tuple #[str [], .int .i64 2]) ∧ Below W.heap.size W w')) (KR : Hid (∀ W, Calls Try.prog 13 #[str s] W fun e w' => e = .returned (.tuple #[geoV r1 r2 r3, .int .i64 re]) ∧ Below W.heap.size W w')) (KRR : Hid (∀ W, Calls Try.prog 14 #[str s] W fun e w' => e = .returned (.tuple #[geoV r1 r2 r3, .int .i64 re]) ∧ Below W.heap.size W w')) (KM : Hid (∀ W, Calls Try.prog 15 #[geoV i b j] W fun e w' => e = .returned (.bool false) ∧ Below W.heap.size W w')) (KRM : Hid (∀ W, Calls Try.prog 16 #[geoV i b j] W fun e w' => e = .returned (.bool false) ∧ Below W.heap.size W w')) (KN : Hid (∀ W, Calls Try.prog 17 #[geoV i b j] W fun e w' => e = .returned (.int .i64 nn) ∧ Below W.heap.size W w')) (KRN : Hid (∀ W, Calls Try.prog 18 #[geoV i b j] W fun e w' => e = .returned (.int .i64 nn) ∧ Below W.heap.size W w')) :
    Calls Try.prog 3 #[geoV i b j, .int .i64 part, .int .u32 ino, .int .u16 blk, .int .i64 sec, str s] w fun e w' => e = .returned (.bool true) ∧ Below w.heap.size w w' := by
  go_enter Try.func3, Try.ntmps3
  go_wp2_with fail
  with_reducible refine (KP.out _).mono ?_
  rintro e w1 ⟨rfl, hb⟩
  have HA := Lib.hid (keep_call (heap_alloc_new w _) hb)
  have HD := Lib.hid (keep_below ((Below.refl _ _).alloc (Nat.le_refl w.heap.size) _) hb)
  clear hb
  obtain ⟨g0, g1, g2⟩ := gcells rfl HA.out
  have hlt := row_lt HA.out
  go_wp2_with fail
  with_reducible refine (KI.out _).mono ?_
  rintro e w2 ⟨rfl, hb⟩
  have HA := Lib.hid (keep_call (heap_alloc_keep' HA.out _) hb)
  have HD := Lib.hid (keep_below (HD.out.alloc HD.out.size _) hb)
  have HS := Lib.hid (keep_call (heap_alloc_new w1 _) hb)
  clear hb g0 g1 g2 hlt
  obtain ⟨g0, g1, g2⟩ := gcells rfl HA.out
  have hlt := row_lt HA.out
  go_wp2_with fail
  with_reducible refine (KB.out _).mono ?_
  rintro e w3 ⟨rfl, hb⟩
  have HA := Lib.hid (keep_call HA.out hb)
  have HS := Lib.hid (keep_call HS.out hb)
  have HD := Lib.hid (keep_below HD.out hb)
  clear hb g0 g1 g2 hlt
  obtain ⟨g0, g1, g2⟩ := gcells rfl HA.out
  have hlt := row_lt HA.out
  go_wp2_with fail
  with_reducible refine (KW.out _).mono ?_
  rintro e w4 ⟨rfl, hb⟩
  have HA := Lib.hid (keep_call HA.out hb)
  have HS := Lib.hid (keep_call HS.out hb)
  have HD := Lib.hid (keep_below HD.out hb)
  clear hb g0 g1 g2 hlt
  obtain ⟨g0, g1, g2⟩ := gcells rfl HA.out
  have hlt := row_lt HA.out
  go_wp2_with fail
  with_reducible refine (KS.out _).mono ?_
  rintro e w5 ⟨rfl, hb⟩
  have HA := Lib.hid (keep_call HA.out hb)
  have HS := Lib.hid (keep_call HS.out hb)
  have HD := Lib.hid (keep_below HD.out hb)
  clear hb g0 g1 g2 hlt
  obtain ⟨g0, g1, g2⟩ := gcells rfl HA.out
  have hlt := row_lt HA.out
  go_wp2_with fail
  with_reducible refine (KR.out _).mono ?_
  rintro e w6 ⟨rfl, hb⟩
  have HA := Lib.hid (keep_call HA.out hb)
  have HS := Lib.hid (keep_call HS.out hb)
  have HD := Lib.hid (keep_below HD.out hb)
  clear hb g0 g1 g2 hlt
  obtain ⟨g0, g1, g2⟩ := gcells rfl HA.out
  have hlt := row_lt HA.out
  go_wp2_with fail
  with_reducible refine (KRR.out _).mono ?_
  rintro e w7 ⟨rfl, hb⟩
  have HA := Lib.hid (keep_call (heap_alloc_keep' HA.out _) hb)
  have HS := Lib.hid (keep_call (heap_alloc_keep' HS.out _) hb)
  have HD := Lib.hid (keep_below (HD.out.alloc HD.out.size _) hb)
  have HX := Lib.hid (keep_call (heap_alloc_new w6 _) hb)
  clear hb g0 g1 g2 hlt
  obtain ⟨g0, g1, g2⟩ := gcells rfl HA.out
  obtain ⟨x0, x1, x2⟩ := gcells rfl HX.out
  have hlt := row_lt HA.out
  have hlt6 := row_lt HX.out
  go_wp2_with fail
  have HY := Lib.hid (heap_alloc_new w7 (.cells #[.int .i64 r1, .int .i64 r2, .int .i64 r3] 23))
  have C := Lib.hid (Below.refl (w7.alloc (.cells #[.int .i64 r1, .int .i64 r2, .int .i64 r3] 23)).heap.size (w7.alloc (.cells #[.int .i64 r1, .int .i64 r2, .int .i64 r3] 23))).drew
  have HA := Lib.hid (heap_alloc_keep' HA.out (.cells #[.int .i64 r1, .int .i64 r2, .int .i64 r3] 23))
  have HS := Lib.hid (heap_alloc_keep' HS.out (.cells #[.int .i64 r1, .int .i64 r2, .int .i64 r3] 23))
  have HX := Lib.hid (heap_alloc_keep' HX.out (.cells #[.int .i64 r1, .int .i64 r2, .int .i64 r3] 23))
  have HD := Lib.hid (HD.out.alloc HD.out.size (.cells #[.int .i64 r1, .int .i64 r2, .int .i64 r3] 23))
  clear g0 g1 g2 x0 x1 x2
  obtain ⟨g0, g1, g2⟩ := gcells rfl HA.out
  obtain ⟨x0, x1, x2⟩ := gcells rfl HX.out
  obtain ⟨y0, y1, y2⟩ := gcells rfl HY.out
  go_region_held3 (fun W => (W.cell? ⟨w.heap.size, 0, none⟩ = some (.int .i64 i) ∧ W.cell? ⟨w.heap.size, 1, none⟩ = some (.int .i64 b) ∧ W.cell? ⟨w.heap.size, 2, none⟩ = some (.int .i64 j)) ∧ (W.cell? ⟨w6.heap.size, 0, none⟩ = some (.int .i64 r1) ∧ W.cell? ⟨w6.heap.size, 1, none⟩ = some (.int .i64 r2) ∧ W.cell? ⟨w6.heap.size, 2, none⟩ = some (.int .i64 r3)) ∧ (W.cell? ⟨w7.heap.size, 0, none⟩ = some (.int .i64 r1) ∧ W.cell? ⟨w7.heap.size, 1, none⟩ = some (.int .i64 r2) ∧ W.cell? ⟨w7.heap.size, 2, none⟩ = some (.int .i64 r3)))
    (exact ⟨⟨g0, g1, g2⟩, ⟨x0, x1, x2⟩, ⟨y0, y1, y2⟩⟩)
    (first | (go_at_call 15; ((with_reducible refine (KM.out _).mono ?_); rintro e w8 ⟨rfl, hb⟩; have C := Lib.hid (C.out.trans (hb.mono C.out.size)); obtain ⟨g0, g1, g2⟩ := gcells (C.out.block _ (row_lt HA.out)) HA.out; obtain ⟨x0, x1, x2⟩ := gcells (C.out.block _ (row_lt HX.out)) HX.out; obtain ⟨y0, y1, y2⟩ := gcells (C.out.block _ (row_lt HY.out)) HY.out)) | (go_at_call 16; ((with_reducible refine (KRM.out _).mono ?_); rintro e w8 ⟨rfl, hb⟩; have C := Lib.hid (C.out.trans (hb.mono C.out.size)); obtain ⟨g0, g1, g2⟩ := gcells (C.out.block _ (row_lt HA.out)) HA.out; obtain ⟨x0, x1, x2⟩ := gcells (C.out.block _ (row_lt HX.out)) HX.out; obtain ⟨y0, y1, y2⟩ := gcells (C.out.block _ (row_lt HY.out)) HY.out)) | (go_at_call 17; ((with_reducible refine (KN.out _).mono ?_); rintro e w8 ⟨rfl, hb⟩; have C := Lib.hid (C.out.trans (hb.mono C.out.size)); obtain ⟨g0, g1, g2⟩ := gcells (C.out.block _ (row_lt HA.out)) HA.out; obtain ⟨x0, x1, x2⟩ := gcells (C.out.block _ (row_lt HX.out)) HX.out; obtain ⟨y0, y1, y2⟩ := gcells (C.out.block _ (row_lt HY.out)) HY.out)) | (go_at_call 18; ((with_reducible refine (KRN.out _).mono ?_); rintro e w8 ⟨rfl, hb⟩; have C := Lib.hid (C.out.trans (hb.mono C.out.size)); obtain ⟨g0, g1, g2⟩ := gcells (C.out.block _ (row_lt HA.out)) HA.out; obtain ⟨x0, x1, x2⟩ := gcells (C.out.block _ (row_lt HX.out)) HX.out; obtain ⟨y0, y1, y2⟩ := gcells (C.out.block _ (row_lt HY.out)) HY.out)))
  have HA := Lib.hid (keep_call HA.out C.out)
  have HS := Lib.hid (keep_call HS.out C.out)
  have HD := Lib.hid (keep_below HD.out C.out)
  clear g0 g1 g2 x0 x1 x2 y0 y1 y2 HX HY C hlt hlt6
  obtain ⟨g0, g1, g2⟩ := gcells rfl HA.out
  have hlt := row_lt HA.out
  go_wp2_with fail
  with_reducible refine (KRM.out _).mono ?_
  rintro e w9 ⟨rfl, hb⟩
  have HS := Lib.hid (keep_call HS.out hb)
  have HD := Lib.hid (keep_below HD.out hb)
  obtain ⟨s0, s1⟩ := scells HS.out
  clear hb g0 g1 g2 hlt
  go_wp2_with fail
  refine (alive_any _).mono ?_
  rintro e w10 ⟨rfl, hb⟩
  go_wp2_with fail
  go_ret
  exact ⟨rfl, keep_below HD.out hb⟩
set_option maxRecDepth 100000 in
set_option maxHeartbeats 4000000 in
theorem tells_ok (i b j part ino blk sec pa pn pe i1 i2 ie k1 ke u1 u2 ue r1 r2 r3 re nn : Int) (t s : List UInt8) (w : World) (hs : s.length ≤ 1000)
    (KP : Hid (∀ W, Calls Try.prog 8 #[geoV i b j, .int .i64 part] W fun e w' => e = .returned (.tuple #[spanV pa pn, .int .i64 pe]) ∧ Below W.heap.size W w')) (KI : Hid (∀ W, Calls Try.prog 9 #[geoV i b j, .int .u32 ino] W fun e w' => e = .returned (.tuple #[.int .i64 i1, .int .i64 i2, .int .i64 ie]) ∧ Below W.heap.size W w')) (KB : Hid (∀ W, Calls Try.prog 10 #[geoV i b j, .int .u16 blk] W fun e w' => e = .returned (.tuple #[.int .i64 k1, .int .i64 ke]) ∧ Below W.heap.size W w')) (KW : Hid (∀ W, Calls Try.prog 11 #[geoV i b j, .int .i64 sec] W fun e w' => e = .returned (.tuple #[.int .i64 u1, .int .i64 u2, .int .i64 ue]) ∧ Below W.heap.size W w')) (KS : Hid (∀ W, Calls Try.prog 12 #[geoV i b j] W fun e w' => e = .returned (.tuple #[str t, .int .i64 0]) ∧ Below W.heap.size W w')) (KR : Hid (∀ W, Calls Try.prog 13 #[str s] W fun e w' => e = .returned (.tuple #[geoV r1 r2 r3, .int .i64 re]) ∧ Below W.heap.size W w')) (KRR : Hid (∀ W, Calls Try.prog 14 #[str s] W fun e w' => e = .returned (.tuple #[geoV r1 r2 r3, .int .i64 re]) ∧ Below W.heap.size W w')) (KM : Hid (∀ W, Calls Try.prog 15 #[geoV i b j] W fun e w' => e = .returned (.bool true) ∧ Below W.heap.size W w')) (KRM : Hid (∀ W, Calls Try.prog 16 #[geoV i b j] W fun e w' => e = .returned (.bool true) ∧ Below W.heap.size W w')) (KN : Hid (∀ W, Calls Try.prog 17 #[geoV i b j] W fun e w' => e = .returned (.int .i64 nn) ∧ Below W.heap.size W w')) (KRN : Hid (∀ W, Calls Try.prog 18 #[geoV i b j] W fun e w' => e = .returned (.int .i64 nn) ∧ Below W.heap.size W w')) (QP : Hid (∀ W, Calls Try.prog 19 #[geoV i b j, .int .i64 part] W fun e w' => e = .returned (.tuple #[spanV pa pn, .int .i64 pe]) ∧ Below W.heap.size W w')) (QI : Hid (∀ W, Calls Try.prog 20 #[geoV i b j, .int .u32 ino] W fun e w' => e = .returned (.tuple #[.int .i64 i1, .int .i64 i2, .int .i64 ie]) ∧ Below W.heap.size W w')) (QB : Hid (∀ W, Calls Try.prog 21 #[geoV i b j, .int .u16 blk] W fun e w' => e = .returned (.tuple #[.int .i64 k1, .int .i64 ke]) ∧ Below W.heap.size W w')) (QW : Hid (∀ W, Calls Try.prog 22 #[geoV i b j, .int .i64 sec] W fun e w' => e = .returned (.tuple #[.int .i64 u1, .int .i64 u2, .int .i64 ue]) ∧ Below W.heap.size W w')) (QS : Hid (∀ W, Calls Try.prog 23 #[geoV i b j] W fun e w' => e = .returned (str t) ∧ Below W.heap.size W w')) :
    Calls Try.prog 3 #[geoV i b j, .int .i64 part, .int .u32 ino, .int .u16 blk, .int .i64 sec, str s] w fun e w' => e = .returned (.bool true) ∧ Below w.heap.size w w' := by
  go_enter Try.func3, Try.ntmps3
  go_wp2_with fail
  with_reducible refine (KP.out _).mono ?_
  rintro e w1 ⟨rfl, hb⟩
  have HA := Lib.hid (keep_call (heap_alloc_new w _) hb)
  have HD := Lib.hid (keep_below ((Below.refl _ _).alloc (Nat.le_refl w.heap.size) _) hb)
  clear hb
  obtain ⟨g0, g1, g2⟩ := gcells rfl HA.out
  have hlt := row_lt HA.out
  go_wp2_with fail
  with_reducible refine (KI.out _).mono ?_
  rintro e w2 ⟨rfl, hb⟩
  have HA := Lib.hid (keep_call (heap_alloc_keep' HA.out _) hb)
  have HD := Lib.hid (keep_below (HD.out.alloc HD.out.size _) hb)
  have HS := Lib.hid (keep_call (heap_alloc_new w1 _) hb)
  clear hb g0 g1 g2 hlt
  obtain ⟨g0, g1, g2⟩ := gcells rfl HA.out
  have hlt := row_lt HA.out
  go_wp2_with fail
  with_reducible refine (KB.out _).mono ?_
  rintro e w3 ⟨rfl, hb⟩
  have HA := Lib.hid (keep_call HA.out hb)
  have HS := Lib.hid (keep_call HS.out hb)
  have HD := Lib.hid (keep_below HD.out hb)
  clear hb g0 g1 g2 hlt
  obtain ⟨g0, g1, g2⟩ := gcells rfl HA.out
  have hlt := row_lt HA.out
  go_wp2_with fail
  with_reducible refine (KW.out _).mono ?_
  rintro e w4 ⟨rfl, hb⟩
  have HA := Lib.hid (keep_call HA.out hb)
  have HS := Lib.hid (keep_call HS.out hb)
  have HD := Lib.hid (keep_below HD.out hb)
  clear hb g0 g1 g2 hlt
  obtain ⟨g0, g1, g2⟩ := gcells rfl HA.out
  have hlt := row_lt HA.out
  go_wp2_with fail
  with_reducible refine (KS.out _).mono ?_
  rintro e w5 ⟨rfl, hb⟩
  have HA := Lib.hid (keep_call HA.out hb)
  have HS := Lib.hid (keep_call HS.out hb)
  have HD := Lib.hid (keep_below HD.out hb)
  clear hb g0 g1 g2 hlt
  obtain ⟨g0, g1, g2⟩ := gcells rfl HA.out
  have hlt := row_lt HA.out
  go_wp2_with fail
  with_reducible refine (KR.out _).mono ?_
  rintro e w6 ⟨rfl, hb⟩
  have HA := Lib.hid (keep_call HA.out hb)
  have HS := Lib.hid (keep_call HS.out hb)
  have HD := Lib.hid (keep_below HD.out hb)
  clear hb g0 g1 g2 hlt
  obtain ⟨g0, g1, g2⟩ := gcells rfl HA.out
  have hlt := row_lt HA.out
  go_wp2_with fail
  with_reducible refine (KRR.out _).mono ?_
  rintro e w7 ⟨rfl, hb⟩
  have HA := Lib.hid (keep_call (heap_alloc_keep' HA.out _) hb)
  have HS := Lib.hid (keep_call (heap_alloc_keep' HS.out _) hb)
  have HD := Lib.hid (keep_below (HD.out.alloc HD.out.size _) hb)
  have HX := Lib.hid (keep_call (heap_alloc_new w6 _) hb)
  clear hb g0 g1 g2 hlt
  obtain ⟨g0, g1, g2⟩ := gcells rfl HA.out
  obtain ⟨x0, x1, x2⟩ := gcells rfl HX.out
  have hlt := row_lt HA.out
  have hlt6 := row_lt HX.out
  go_wp2_with fail
  have HY := Lib.hid (heap_alloc_new w7 (.cells #[.int .i64 r1, .int .i64 r2, .int .i64 r3] 23))
  have C := Lib.hid (Below.refl (w7.alloc (.cells #[.int .i64 r1, .int .i64 r2, .int .i64 r3] 23)).heap.size (w7.alloc (.cells #[.int .i64 r1, .int .i64 r2, .int .i64 r3] 23))).drew
  have HA := Lib.hid (heap_alloc_keep' HA.out (.cells #[.int .i64 r1, .int .i64 r2, .int .i64 r3] 23))
  have HS := Lib.hid (heap_alloc_keep' HS.out (.cells #[.int .i64 r1, .int .i64 r2, .int .i64 r3] 23))
  have HX := Lib.hid (heap_alloc_keep' HX.out (.cells #[.int .i64 r1, .int .i64 r2, .int .i64 r3] 23))
  have HD := Lib.hid (HD.out.alloc HD.out.size (.cells #[.int .i64 r1, .int .i64 r2, .int .i64 r3] 23))
  clear g0 g1 g2 x0 x1 x2
  obtain ⟨g0, g1, g2⟩ := gcells rfl HA.out
  obtain ⟨x0, x1, x2⟩ := gcells rfl HX.out
  obtain ⟨y0, y1, y2⟩ := gcells rfl HY.out
  go_region_held3 (fun W => (W.cell? ⟨w.heap.size, 0, none⟩ = some (.int .i64 i) ∧ W.cell? ⟨w.heap.size, 1, none⟩ = some (.int .i64 b) ∧ W.cell? ⟨w.heap.size, 2, none⟩ = some (.int .i64 j)) ∧ (W.cell? ⟨w6.heap.size, 0, none⟩ = some (.int .i64 r1) ∧ W.cell? ⟨w6.heap.size, 1, none⟩ = some (.int .i64 r2) ∧ W.cell? ⟨w6.heap.size, 2, none⟩ = some (.int .i64 r3)) ∧ (W.cell? ⟨w7.heap.size, 0, none⟩ = some (.int .i64 r1) ∧ W.cell? ⟨w7.heap.size, 1, none⟩ = some (.int .i64 r2) ∧ W.cell? ⟨w7.heap.size, 2, none⟩ = some (.int .i64 r3)))
    (exact ⟨⟨g0, g1, g2⟩, ⟨x0, x1, x2⟩, ⟨y0, y1, y2⟩⟩)
    (first | (go_at_call 15; ((with_reducible refine (KM.out _).mono ?_); rintro e w8 ⟨rfl, hb⟩; have C := Lib.hid (C.out.trans (hb.mono C.out.size)); obtain ⟨g0, g1, g2⟩ := gcells (C.out.block _ (row_lt HA.out)) HA.out; obtain ⟨x0, x1, x2⟩ := gcells (C.out.block _ (row_lt HX.out)) HX.out; obtain ⟨y0, y1, y2⟩ := gcells (C.out.block _ (row_lt HY.out)) HY.out)) | (go_at_call 16; ((with_reducible refine (KRM.out _).mono ?_); rintro e w8 ⟨rfl, hb⟩; have C := Lib.hid (C.out.trans (hb.mono C.out.size)); obtain ⟨g0, g1, g2⟩ := gcells (C.out.block _ (row_lt HA.out)) HA.out; obtain ⟨x0, x1, x2⟩ := gcells (C.out.block _ (row_lt HX.out)) HX.out; obtain ⟨y0, y1, y2⟩ := gcells (C.out.block _ (row_lt HY.out)) HY.out)) | (go_at_call 17; ((with_reducible refine (KN.out _).mono ?_); rintro e w8 ⟨rfl, hb⟩; have C := Lib.hid (C.out.trans (hb.mono C.out.size)); obtain ⟨g0, g1, g2⟩ := gcells (C.out.block _ (row_lt HA.out)) HA.out; obtain ⟨x0, x1, x2⟩ := gcells (C.out.block _ (row_lt HX.out)) HX.out; obtain ⟨y0, y1, y2⟩ := gcells (C.out.block _ (row_lt HY.out)) HY.out)) | (go_at_call 18; ((with_reducible refine (KRN.out _).mono ?_); rintro e w8 ⟨rfl, hb⟩; have C := Lib.hid (C.out.trans (hb.mono C.out.size)); obtain ⟨g0, g1, g2⟩ := gcells (C.out.block _ (row_lt HA.out)) HA.out; obtain ⟨x0, x1, x2⟩ := gcells (C.out.block _ (row_lt HX.out)) HX.out; obtain ⟨y0, y1, y2⟩ := gcells (C.out.block _ (row_lt HY.out)) HY.out)))
  have HA := Lib.hid (keep_call HA.out C.out)
  have HS := Lib.hid (keep_call HS.out C.out)
  have HD := Lib.hid (keep_below HD.out C.out)
  clear g0 g1 g2 x0 x1 x2 y0 y1 y2 HX HY C hlt hlt6
  obtain ⟨g0, g1, g2⟩ := gcells rfl HA.out
  have hlt := row_lt HA.out
  go_wp2_with fail
  with_reducible refine (KRM.out _).mono ?_
  rintro e w9 ⟨rfl, hb⟩
  have HA := Lib.hid (keep_call HA.out hb)
  have HS := Lib.hid (keep_call HS.out hb)
  have HD := Lib.hid (keep_below HD.out hb)
  clear hb g0 g1 g2 hlt
  obtain ⟨g0, g1, g2⟩ := gcells rfl HA.out
  have hlt := row_lt HA.out
  go_wp2_with fail
  with_reducible refine (QP.out _).mono ?_
  rintro e w10 ⟨rfl, hb⟩
  have HA := Lib.hid (keep_call HA.out hb)
  have HS := Lib.hid (keep_call HS.out hb)
  have HD := Lib.hid (keep_below HD.out hb)
  clear hb g0 g1 g2 hlt
  obtain ⟨g0, g1, g2⟩ := gcells rfl HA.out
  have hlt := row_lt HA.out
  go_wp2_with fail
  with_reducible refine (QI.out _).mono ?_
  rintro e w11 ⟨rfl, hb⟩
  have HA := Lib.hid (keep_call (heap_alloc_keep' HA.out _) hb)
  have HS := Lib.hid (keep_call (heap_alloc_keep' HS.out _) hb)
  have HD := Lib.hid (keep_below (HD.out.alloc HD.out.size _) hb)
  have HX := Lib.hid (keep_call (heap_alloc_new w10 _) hb)
  clear hb g0 g1 g2 hlt
  obtain ⟨g0, g1, g2⟩ := gcells rfl HA.out
  have hlt := row_lt HA.out
  go_wp2_with fail
  with_reducible refine (QB.out _).mono ?_
  rintro e w12 ⟨rfl, hb⟩
  have HA := Lib.hid (keep_call HA.out hb)
  have HS := Lib.hid (keep_call HS.out hb)
  have HX := Lib.hid (keep_call HX.out hb)
  have HD := Lib.hid (keep_below HD.out hb)
  clear hb g0 g1 g2 hlt
  obtain ⟨g0, g1, g2⟩ := gcells rfl HA.out
  have hlt := row_lt HA.out
  go_wp2_with fail
  with_reducible refine (QW.out _).mono ?_
  rintro e w13 ⟨rfl, hb⟩
  have HA := Lib.hid (keep_call HA.out hb)
  have HS := Lib.hid (keep_call HS.out hb)
  have HX := Lib.hid (keep_call HX.out hb)
  have HD := Lib.hid (keep_below HD.out hb)
  clear hb g0 g1 g2 hlt
  obtain ⟨g0, g1, g2⟩ := gcells rfl HA.out
  have hlt := row_lt HA.out
  obtain ⟨s0, s1⟩ := scells HS.out
  obtain ⟨x0, x1⟩ := scells HX.out
  go_wp2_with fail
  with_reducible refine (QS.out _).mono ?_
  rintro e w14 ⟨rfl, hb⟩
  have HD := Lib.hid (keep_below HD.out hb)
  clear hb g0 g1 g2 hlt s0 s1 x0 x1
  go_wp2_with fail
  refine (alive_any _).mono ?_
  rintro e w15 ⟨rfl, hb⟩
  go_wp2_with fail
  go_ret
  exact ⟨rfl, keep_below HD.out hb⟩
set_option maxRecDepth 100000 in
set_option maxHeartbeats 1000000 in
theorem tells_far (i b j part ino blk sec : Int) (s : List UInt8) (w : World) (hs : 1000 < s.length) (hs2 : s.length ≤ 140737488351232) :
    Calls Try.prog 3 #[geoV i b j, .int .i64 part, .int .u32 ino, .int .u16 blk, .int .i64 sec, str s] w fun e w' => e = .returned (.bool true) ∧ Below w.heap.size w w' := by
  have h1 : (1000 : Int) < (s.length : Int) := by omega
  go_enter Try.func3, Try.ntmps3
  go_wp2_with fail
  refine (alive_any _).mono ?_
  rintro e w1 ⟨rfl, hb⟩
  go_wp2_with fail
  go_ret
  exact ⟨rfl, keep_below ((Below.refl _ _).alloc (Nat.le_refl w.heap.size) _) hb⟩
theorem readV_any (R : Option Gm) : ∃ r1 r2 r3 re : Int, readV R = .tuple #[geoV r1 r2 r3, .int .i64 re] := by
  cases R with
  | none => exact ⟨_, _, _, _, rfl⟩
  | some G => exact ⟨_, _, _, _, rfl⟩
theorem refRead_all (s : List UInt8) (w : World) (hs : s.length ≤ maxLen) :
    Calls Try.prog 14 #[str s] w fun e w' => e = .returned (readV (readL s)) ∧ Below w.heap.size w w' := by
  by_cases h : s.length = 64
  · exact refRead_any s w h
  · rw [readL_short h]; exact refRead_short s w hs h
theorem tells_any (i b j part ino blk sec : Int) (s : List UInt8) (w : World) (hi : 0 ≤ ino) (hi2 : ino < 4294967296) (hb : 0 ≤ blk) (hb2 : blk < 65536) (hs : s.length ≤ 140737488351232) :
    Calls Try.prog 3 #[geoV i b j, .int .i64 part, .int .u32 ino, .int .u16 blk, .int .i64 sec, str s] w fun e w' => e = .returned (.bool true) ∧ Below w.heap.size w w' := by
  by_cases h1000 : s.length ≤ 1000
  · have hm : s.length ≤ maxLen := by unfold maxLen; omega
    obtain ⟨r1, r2, r3, re, hR⟩ := readV_any (readL s)
    have KR := Lib.hid fun W => read_any s W hm
    have KRR := Lib.hid fun W => refRead_all s W hm
    rw [hR] at KR KRR
    by_cases h : mayI i b j
    · obtain ⟨G, hG, rfl, rfl, rfl⟩ := mayI_gm h
      have hP : ∃ pa pn pe : Int, (∀ W, Calls Try.prog 8 #[gv G, .int .i64 part] W fun e w' => e = .returned (.tuple #[spanV pa pn, .int .i64 pe]) ∧ Below W.heap.size W w') ∧
          (∀ W, Calls Try.prog 19 #[gv G, .int .i64 part] W fun e w' => e = .returned (.tuple #[spanV pa pn, .int .i64 pe]) ∧ Below W.heap.size W w') := by
        by_cases hp : part < 0 ∨ 5 < part
        · exact ⟨0, 0, 2, fun W => part_bad _ _ _ _ W (.inr hp), fun W => refPart_bad _ _ _ _ W hp⟩
        · exact ⟨_, _, 0, fun W => part_ok G part.toNat part (by omega) W hG (by omega), fun W => refPart_ok G part.toNat part (by omega) W hG (by omega)⟩
      have hI : ∃ i1 i2 ie : Int, (∀ W, Calls Try.prog 9 #[gv G, .int .u32 ino] W fun e w' => e = .returned (.tuple #[.int .i64 i1, .int .i64 i2, .int .i64 ie]) ∧ Below W.heap.size W w') ∧
          (∀ W, Calls Try.prog 20 #[gv G, .int .u32 ino] W fun e w' => e = .returned (.tuple #[.int .i64 i1, .int .i64 i2, .int .i64 ie]) ∧ Below W.heap.size W w') := by
        by_cases hp : ino < 1 ∨ (G.i : Int) < ino
        · exact ⟨0, 0, 2, fun W => inode_bad _ _ _ _ W (.inr hp) hi hi2, fun W => refInode_bad G _ W hG hp hi hi2⟩
        · exact ⟨_, _, 0, fun W => inode_ok G (ino.toNat - 1) ino (by omega) W hG (by omega), fun W => refInode_ok G (ino.toNat - 1) ino (by omega) W hG (by omega)⟩
      have hB : ∃ k1 ke : Int, (∀ W, Calls Try.prog 10 #[gv G, .int .u16 blk] W fun e w' => e = .returned (.tuple #[.int .i64 k1, .int .i64 ke]) ∧ Below W.heap.size W w') ∧
          (∀ W, Calls Try.prog 21 #[gv G, .int .u16 blk] W fun e w' => e = .returned (.tuple #[.int .i64 k1, .int .i64 ke]) ∧ Below W.heap.size W w') := by
        by_cases hp : blk < 1 ∨ (G.b : Int) < blk
        · exact ⟨0, 2, fun W => block_bad _ _ _ _ W (.inr hp) hb hb2, fun W => refBlock_bad G _ W hG hp hb hb2⟩
        · exact ⟨_, 0, fun W => block_ok G (blk.toNat - 1) blk (by omega) W hG (by omega), fun W => refBlock_ok G (blk.toNat - 1) blk (by omega) W hG (by omega)⟩
      have hW : ∃ u1 u2 ue : Int, (∀ W, Calls Try.prog 11 #[gv G, .int .i64 sec] W fun e w' => e = .returned (.tuple #[.int .i64 u1, .int .i64 u2, .int .i64 ue]) ∧ Below W.heap.size W w') ∧
          (∀ W, Calls Try.prog 22 #[gv G, .int .i64 sec] W fun e w' => e = .returned (.tuple #[.int .i64 u1, .int .i64 u2, .int .i64 ue]) ∧ Below W.heap.size W w') := by
        by_cases hp : sec < 0 ∨ (G.all : Int) ≤ sec
        · exact ⟨0, 0, 2, fun W => where_out G _ W hG hp, fun W => refWhere_out G _ W hG hp⟩
        · obtain ⟨q, hq, h1, h2⟩ := G.part_at (x := sec.toNat) 6 (by unfold Gm.all at hp; omega)
          exact ⟨_, _, 0, fun W => where_ok G q sec.toNat sec (by omega) W hG hq h1 h2, fun W => refWhere_ok G q sec.toNat sec (by omega) W hG hq h1 h2⟩
      obtain ⟨pa, pn, pe, p1, p2⟩ := hP
      obtain ⟨i1, i2, ie, n1, n2⟩ := hI
      obtain ⟨k1, ke, b1, b2⟩ := hB
      obtain ⟨u1, u2, ue, w1, w2⟩ := hW
      exact tells_ok G.i G.b G.j part ino blk sec pa pn pe i1 i2 ie k1 ke u1 u2 ue r1 r2 r3 re G.all (superL G) s w h1000 (Lib.hid p1) (Lib.hid n1) (Lib.hid b1) (Lib.hid w1) (Lib.hid fun W => super_ok G W hG) KR KRR (Lib.hid fun W => may_ok _ _ _ W h) (Lib.hid fun W => refMay_ok _ _ _ W h) (Lib.hid fun W => sectors_ok G W hG) (Lib.hid fun W => refSectors_ok G W hG)
        (Lib.hid p2) (Lib.hid n2) (Lib.hid b2) (Lib.hid w2) (Lib.hid fun W => refSuper_any G W hG)
    · exact tells_bad i b j part ino blk sec 0 r1 r2 r3 re s w h1000 (Lib.hid fun W => part_bad _ _ _ _ W (.inl h)) (Lib.hid fun W => inode_bad _ _ _ _ W (.inl h) hi hi2) (Lib.hid fun W => block_bad _ _ _ _ W (.inl h) hb hb2) (Lib.hid fun W => where_bad _ _ _ _ W h) (Lib.hid fun W => super_bad _ _ _ W h) KR KRR (Lib.hid fun W => may_bad _ _ _ W h) (Lib.hid fun W => refMay_bad _ _ _ W h) (Lib.hid fun W => sectors_bad _ _ _ W h) (Lib.hid fun W => refSectors_bad _ _ _ W h)
  · exact tells_far i b j part ino blk sec s w (by omega) hs
theorem walk_GeoTells (i b j part ino blk sec : Int) (a : ByteArray) (wp : (Lit.int .i64 part).wf = true) (wi : (Lit.int .u32 ino).wf = true) (wb : (Lit.int .u16 blk).wf = true) (wc : (Lit.int .i64 sec).wf = true) (za : a.size ≤ 140737488351232) (w : World) :
    Calls Try.prog 3 #[geoV i b j, .int .i64 part, .int .u32 ino, .int .u16 blk, .int .i64 sec, .string a] w fun e w' => e = .returned (.bool true) ∧ Below w.heap.size w w' := by
  obtain ⟨s, rfl⟩ : ∃ l : List UInt8, a = ⟨l.toArray⟩ := ⟨a.data.toList, rfl⟩
  have hs2 : s.length ≤ 140737488351232 := by simpa [ByteArray.size] using za
  simp [Lit.wf, IntKind.min, IntKind.max, IntKind.bits, IntKind.signed] at wi wb
  exact tells_any i b j part ino blk sec s w (by omega) (by omega) (by omega) (by omega) hs2
end Go.Proofs.Ytoighnnjadmoiaa
