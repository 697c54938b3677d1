/- Layer 3 (dev): a fuse is set; a sector is read. -/
import Derived.Test.YtoogedjeclcdbaaDev2
import Derived.Deep.WholeRow
import Derived.Test.YtoogedjeclcdbaaBaseBytes
namespace Go.Proofs.Ytoogedjeclcdbaa
open Go.RowKit Go.Maps
set_option linter.unusedVariables false
theorem fuse_any {S : Nat → Prop} {W : World} {b g c m : Nat} {vals : Nat → Value} {M : Dv} (h : DevIn S W b g c m vals M) (n : Nat) (hn : n ≤ 9223372036854775807) :
    Calls Try.prog 17 #[devp b, .int .i64 (n : Int)] W fun e w' => e = .returned (.int .i64 0) ∧ DevIn S w' b g c m vals (M.fuse n) ∧ Only S W w' := by
  have h0 := h.head.c0
  have h1 := h.head.c1
  have f0 := h.head.f0
  have f1 := h.head.f1
  have hA : ∀ (x : Bool) (v : Value), x = (M.down || n == 0) → v = .int .i64 (n : Int) → DevIn S ((W.setCell ⟨b, 0, none⟩ v).setCell ⟨b, 1, none⟩ (.bool x)) b g c m vals (M.fuse n) ∧ Only S W ((W.setCell ⟨b, 0, none⟩ v).setCell ⟨b, 1, none⟩ (.bool x)) := by
    rintro x v rfl rfl
    exact ⟨h.headed (by simp [World.setCell]) (fun k hk hne => by rw [set_other _ _ _ _ _ hne, set_other _ _ _ _ _ hne]) ((h.head.set0 n).set1 (M.down || n == 0)) hn (Nat.le_refl _),
      (Only.setCell S W ⟨b, 0, none⟩ _ h.sb).trans (Only.setCell S _ ⟨b, 1, none⟩ _ h.sb) (fun _ e => .inl e)⟩
  have HA := Lib.hid hA
  clear hA h
  have hb0 : ((n : Int) == 0) = (n == 0) := by rw [Bool.eq_iff_iff]; simp
  cases hd : M.down
  · rw [hd] at h1 HA
    have HD := Lib.hid hd
    by_cases hz : n = 0
    · subst hz
      clear hd hb0
      go_enter Try.func17, Try.ntmps17
      go_wp2
      go_ret
      exact ⟨rfl, HA.out _ _ rfl rfl⟩
    · have hf : (n == 0) = false := by simpa using hz
      rw [hf] at HA hb0
      clear hd hf
      go_enter Try.func17, Try.ntmps17
      go_wp2
      go_ret
      exact ⟨rfl, HA.out _ _ rfl rfl⟩
  · rw [hd] at h1 HA
    have HD := Lib.hid hd
    clear hd hb0
    go_enter Try.func17, Try.ntmps17
    go_wp2
    go_ret
    exact ⟨rfl, HA.out _ _ rfl rfl⟩
/-- An array of 64 bytes, as a type. -/
theorem secInfo : (Try.prog.info? 64).map (fun i => (i.zero, i.size, i.bytes)) = some (some (.agg (Array.replicate 64 (.int .u8 0))), 64, 64) := by kernel_rfl
theorem sec_at (W : World) (g o : Nat) (l : List UInt8) (hl : l.length = 64) (h : W.rangeAt g o (bc l)) : (Instr.loadAt 64 (.pointer (some ⟨g, o, none⟩))).run Try.prog W = .ok (.agg (bc l).toArray) W :=
  run_loadAt_mid W g o 64 (bc l) _ h Try.underlying64 rfl (by rw [List.length_map, hl]; kernel_rfl)
theorem sec_store (W : World) (g o : Nat) (l : List UInt8) (hl : l.length = 64) (h : W.there g o 64) : (Instr.storeAt 64 (.pointer (some ⟨g, o, none⟩)) (.agg (bc l).toArray)).run Try.prog W = .ok () (W.setCells g o (bc l)) := by
  have := run_storeAt_mid (P := Try.prog) W g o 64 (bc l).toArray (by simpa [hl] using h) (by simp only [List.size_toArray, List.length_map, hl]; kernel_rfl) (all_oneCell_toArray (bc_one l))
  simpa using this
/-- Loads and stores of sectors: the walk doesn't open them. -/
def secLoad (x : Value) : Sem Value := Instr.loadAt 64 x
def secStore (x v : Value) : Sem Unit := Instr.storeAt 64 x v
@[go_sem ↓] theorem sec_load_fold (x : Value) : Instr.loadAt 64 x = secLoad x := rfl
@[go_sem ↓] theorem sec_store_fold (x v : Value) : Instr.storeAt 64 x v = secStore x v := rfl
theorem sec_load (W : World) (g o : Nat) (l : List UInt8) (hl : l.length = 64) (h : W.rangeAt g o (bc l)) : (secLoad (.pointer (some ⟨g, o, none⟩))).run Try.prog W = .ok (.agg (bc l).toArray) W := sec_at W g o l hl h
theorem sec_put (W : World) (g o : Nat) (l : List UInt8) (hl : l.length = 64) (h : W.there g o 64) : (secStore (.pointer (some ⟨g, o, none⟩)) (.agg (bc l).toArray)).run Try.prog W = .ok () (W.setCells g o (bc l)) := sec_store W g o l hl h
theorem sec_new (W : World) (l : List UInt8) (hl : l.length = 64) (c : Array Value) (hc : c.size = 64) : (secStore (.pointer (some ⟨W.heap.size, 0, none⟩)) (.agg (bc l).toArray)).run Try.prog (W.alloc (.cells c 64)) = .ok () (W.alloc (.cells (bc l).toArray 64)) :=
  run_storeAt_new W 64 c (bc l).toArray (by simp only [List.size_toArray, List.length_map, hl]; kernel_rfl) (by rw [hc]; simp [hl]) (all_oneCell_toArray (bc_one l))
/-- A sector out of memory, and into a new variable: the walk's steps. -/
theorem wpList_load_sec {ops : Array Oper} {rest : List Oper} {op : Oper} {a : Act} {w : World} {Q : Exit → Act → World → Prop} (hgd : op.guard = none) (x : Operand) (ho : op.op = .load 64 x)
    (g o : Nat) (hx : a.eval x = .pointer (some ⟨g, o, none⟩)) (l : List UInt8) (hl : l.length = 64) (h : w.rangeAt g o (bc l)) (hk : wpList Try.prog ops Q rest (a.put op.dst (.agg (bc l).toArray)) w) : wpList Try.prog ops Q (op :: rest) a w :=
  wpList_load_mid hgd 64 x ho g o hx (bc l) _ h Try.underlying64 rfl (by rw [List.length_map, hl]; kernel_rfl) hk
theorem wpList_store_new {P : Program} {ops : Array Oper} {rest : List Oper} {op : Oper} {a : Act} {w : World} {Q : Exit → Act → World → Prop} (hgd : op.guard = none) (t : TypeId) (x y : Operand) (ho : op.op = .store t x y)
    (c c' : Array Value) (hx : a.eval x = .pointer (some ⟨w.heap.size, 0, none⟩)) (hy : a.eval y = .agg c') (hi : (P.info? t).map (·.size) = some c'.size) (hc : c.size = c'.size) (h1 : c'.all (·.oneCell') = true)
    (h : wpList P ops Q rest (a.put op.dst undef) (w.alloc (.cells c' t))) : wpList P ops Q (op :: rest) a (w.alloc (.cells c t)) := by
  refine wpList_plain hgd fun K hK => ?_
  unfold Oper.wp execOp
  simp only [ho, hx, hy, run_storeAt_new w t c c' hi hc h1, Sem.run_bind, Sem.run_pure, Result.andThen_ok]
  exact hK _ _ h
theorem wpList_store_sec {ops : Array Oper} {rest : List Oper} {op : Oper} {a : Act} {w : World} {Q : Exit → Act → World → Prop} (hgd : op.guard = none) (x y : Operand) (ho : op.op = .store 64 x y)
    (c : Array Value) (hc : c.size = 64) (l : List UInt8) (hl : l.length = 64) (hx : a.eval x = .pointer (some ⟨w.heap.size, 0, none⟩)) (hy : a.eval y = .agg (bc l).toArray)
    (h : wpList Try.prog ops Q rest (a.put op.dst undef) (w.alloc (.cells (bc l).toArray 64))) : wpList Try.prog ops Q (op :: rest) a (w.alloc (.cells c 64)) :=
  wpList_store_new hgd 64 x y ho c _ hx hy (by simp only [List.size_toArray, List.length_map, hl]; kernel_rfl) (by rw [hc]; simp [hl]) (all_oneCell_toArray (bc_one l)) h
theorem sec_init (W : World) (l : List UInt8) (hl : l.length = 64) (c : Array Value) (hc : c.size = 64) : (storeCells ⟨W.heap.size, 0, none⟩ (bc l) 0).run Try.prog (W.alloc (.cells c 64)) = .ok () (W.alloc (.cells (bc l).toArray 64)) := by
  have := run_storeCells_new (P := Try.prog) W 64 c (bc l).toArray (by simp only [List.size_toArray, List.length_map, hl]; kernel_rfl) (by rw [hc]; simp [hl]) (all_oneCell_toArray (bc_one l))
  simpa using this
theorem sec_bytes (W : World) (l : List UInt8) : Bytes (W.alloc (.cells (bc l).toArray 64)) W.heap.size l :=
  bytes_made (e := 64) (heap_alloc_new W _)
set_option maxHeartbeats 1000000 in
set_option maxRecDepth 100000 in
theorem read_new (b g c m n i : Nat) (W : World) (l : List UInt8) (hn : n ≤ 4096) (hi : i < n) (h1 : W.cell? ⟨b, 1, none⟩ = some (.bool false)) (h2 : W.cell? ⟨b, 2, none⟩ = some (.slice (some ⟨g, 0, none⟩) n c)) (h3 : W.cell? ⟨b, 3, none⟩ = some (.map (some m)))
    (hl : l.length = 64) (hr : W.rangeAt g (i * 64) (bc l)) (k : Nat) (A : Option Addr) (cap : Nat) (hlk2 : ∀ cs, (Instr.lookup 54 (.map (some m)) (.int .i64 (i : Int)) false).run Try.prog (W.alloc (.cells cs 64)) = .ok (.agg #[.slice A k cap]) (W.alloc (.cells cs 64)))
    (t : List UInt8) (ht : t.length = 64) (hcur : (k = 0 ∧ t = l) ∨ ∃ g' off, A = some ⟨g', off, none⟩ ∧ 0 < k ∧ k ≤ 1099511627776 ∧ W.rangeAt g' (off + (k - 1) * 64) (bc t)) :
    Calls Try.prog 14 #[devp b, .int .i64 (i : Int)] W fun e w' => e = .returned (.tuple #[str t, .int .i64 0]) ∧ Below W.heap.size W w' := by
  have hconv : (convert 47 9 (.slice (some ⟨W.heap.size, 0, none⟩) 64 64)).run Try.prog (W.alloc (.cells (bc t).toArray 64)) = .ok (str t) (W.alloc (.cells (bc t).toArray 64)) := by
    have := string_of_bytes (P := Try.prog) 47 9 5 Try.underlying47 Try.underlying5 Try.underlying9 _ W.heap.size 64 t (sec_bytes W t)
    rwa [ht] at this
  have hf := row_field A k cap
  have hbl : b < W.heap.size := World.block_lt_of_cell? W _ h1
  have hsl := sec_new W l hl
  have hst := sec_new W t ht
  have hld := sec_load W g (i * 64) l hl hr
  have hB : Below W.heap.size W (W.alloc (.cells (bc t).toArray 64)) := (Below.refl _ _).alloc (Nat.le_refl _) _
  clear hr
  rcases hcur with ⟨rfl, rfl⟩ | ⟨g', off, rfl, hk0, hk1, hrt⟩
  · go_enter Try.func14, Try.ntmps14
    go_wp2_with fail
    refine (works_any _ _ _ h1).mono ?_
    rintro e w1 ⟨rfl, rfl⟩
    go_wp2_with fail
    refine (has_yes _ _ _ _ _ _ hn hi h2).mono ?_
    rintro e w1 ⟨rfl, rfl⟩
    go_wp2_with fail
    go_ret2
    exact ⟨rfl, hB⟩
  · have hlt : ∀ cs, (secLoad (.pointer (some ⟨g', off + (k - 1) * 64, none⟩))).run Try.prog (W.alloc (.cells cs 64)) = .ok (.agg (bc t).toArray) (W.alloc (.cells cs 64)) := fun cs => sec_load _ _ _ t ht (World.rangeAt_alloc hrt _)
    clear hrt
    have hk2 : 0 < (k : Int) := by omega
    go_enter Try.func14, Try.ntmps14
    go_wp2_with fail
    refine (works_any _ _ _ h1).mono ?_
    rintro e w1 ⟨rfl, rfl⟩
    go_wp2_with fail
    refine (has_yes _ _ _ _ _ _ hn hi h2).mono ?_
    rintro e w1 ⟨rfl, rfl⟩
    go_wp2_with fail
    go_ret2
    exact ⟨rfl, hB⟩
theorem Dv.cur_nil {M : Dv} {i : Nat} (h : M.row i = []) : M.cur i = M.dur i := by simp [Dv.cur, h]
theorem Dv.cur_row {M : Dv} {i : Nat} (h : M.row i ≠ []) : M.cur i = (M.row i)[(M.row i).length - 1]'(by have := List.length_pos_iff.2 h; omega) := by
  unfold Dv.cur
  rw [List.getLast?_eq_getElem?, List.getElem?_eq_getElem (by have := List.length_pos_iff.2 h; omega)]
  rfl
theorem Fine.cur {M : Dv} (h : Fine M) {i : Nat} (hi : i < M.n) : (M.cur i).length = 64 := by
  by_cases hr : M.row i = []
  · rw [Dv.cur_nil hr]; exact h.dur i hi
  · rw [Dv.cur_row hr]; exact h.row i _ (List.getElem_mem _)
theorem read_any {S : Nat → Prop} {W : World} {b : Nat} {M : Dv} (h : DevAt S W b M) (hd : M.down = false) (hw : M.wr ≤ 1099511627776) (i : Nat) (hi : i < M.n) :
    Calls Try.prog 14 #[devp b, .int .i64 (i : Int)] W fun e w' => e = .returned (.tuple #[str (M.cur i), .int .i64 0]) ∧ Below W.heap.size W w' := by
  obtain ⟨g, c, m, vals, h⟩ := h
  obtain ⟨A, cap, _, hA⟩ := look_row h i hi
  have h1 := h.head.c1
  rw [hd] at h1
  refine read_new b g c m M.n i W (M.dur i) h.fine.n hi h1 h.head.c2 h.head.c3 (h.fine.dur i hi) (h.du.at_ i hi) (M.row i).length A cap (fun cs => ?_) (M.cur i) (h.fine.cur hi) ?_
  · obtain ⟨A', cap', hl', hA'⟩ := look_row (h.kept (W' := W.alloc (.cells cs 64)) (by simp) (fun k hk => Below.heap_alloc W _ k (h.lt k hk))) i hi
    rw [hl']
    rcases hA with ⟨_, rfl, rfl⟩ | ⟨hr, hv⟩
    · rcases hA' with ⟨_, rfl, rfl⟩ | ⟨hr, _⟩
      · rfl
      · contradiction
    · rcases hA' with ⟨hr', _, _⟩ | ⟨_, hv'⟩
      · contradiction
      · rw [hv', hv]
  · rcases hA with ⟨hr, rfl, rfl⟩ | ⟨hr, hv⟩
    · exact .inl ⟨by rw [hr]; rfl, Dv.cur_nil hr⟩
    · have hrow := h.ro.at_ i hr
      rw [← hv] at hrow
      have hrow' := hrow
      obtain ⟨g', off, cap', he, _⟩ := hrow'
      cases he
      have hlen := List.length_pos_iff.2 hr
      have hs := hrow.sector (h.fine.row i) ((M.row i).length - 1) (by omega)
      rw [← Dv.cur_row hr] at hs
      exact .inr ⟨g', off, rfl, hlen, Nat.le_trans (h.fine.rows i) hw, hs⟩
end Go.Proofs.Ytoogedjeclcdbaa
