/- Layer 3 (dev): Loose. -/
import Derived.Test.YtdddennhdbmolaaGreatM14
import Derived.Maps.AppendAt
import Derived.RangeFuncBox
import Derived.Deep.RegionHeld3
namespace Go.Proofs.YtdddennhdbmolaaGreat
open Go.RowKit Go.Maps Go.Shelf
set_option linter.unusedVariables false
set_option linter.unusedSimpArgs false
set_option maxRecDepth 10000
attribute [local go_sem] Oper.semAt_some
/-- An append of ints: the walk doesn't open it. -/
def intAppend (args : Array Value) : Sem Value := Builtin.append_ #[205, 205] 205 args
@[go_sem ↓] theorem int_append_fold (args : Array Value) : Builtin.append_ #[205, 205] 205 args = intAppend args := rfl
theorem intInfo : (Tryz.prog.info? 3).map (fun i => (i.zero, i.size, i.bytes)) = some (some (.int .i64 0), 1, 8) := by kernel_rfl
abbrev encI (i : Nat) : Value := .int .i64 (i : Int)
structure LooseI (S : Nat → Prop) (w : World) (b g c m Bl p : Nat) (xs : List Nat) (M : Dv) (V : World) : Prop where
  dev : ∃ vals, DevIn S V b g c m vals M
  only : Only (fun k => k = Bl) w V
  row : ∃ v, V.cell? ⟨Bl, 0, none⟩ = some v ∧ V.frozen? ⟨Bl, 0, none⟩ = false ∧ V.ownsRow (w.heap.size + 2) 3 1 v xs.length (xs.map encI) ∧ ∀ k, v.ownBlock = some k → k ≠ p
theorem LooseI.same {S : Nat → Prop} {w : World} {b g c m Bl p : Nat} {xs : List Nat} {M : Dv} {V V' : World} (h : LooseI S w b g c m Bl p xs M V) (hlt : ∀ k, S k → k < w.heap.size) (hB : Bl < w.heap.size)
    (ho : V'.os = V.os) (ht : V'.tape = V.tape) (hu : V'.output = V.output) (hs : V.heap.size ≤ V'.heap.size) (hk : ∀ k, k < V.heap.size → k ≠ w.heap.size → k ≠ w.heap.size + 1 → V'.heap[k]? = V.heap[k]?) : LooseI S w b g c m Bl p xs M V' := by
  obtain ⟨⟨vals, hd⟩, hO, v, hc, hf, hw, hp⟩ := h
  have hsz := hO.size
  refine ⟨⟨vals, hd.kept hs (fun k hS => hk k (hd.lt k hS) (by have := hlt k hS; omega) (by have := hlt k hS; omega))⟩, ⟨ho.trans hO.os, ht.trans hO.tape, hu.trans hO.output, Nat.le_trans hO.size hs, fun k hkl hn => (hk k (by omega) (by omega) (by omega)).trans (hO.block k hkl hn)⟩,
    v, (cell_same 0 (hk Bl (by omega) (by omega) (by omega))).trans hc, (World.frozen?_of_block (a := ⟨Bl, 0, none⟩) (hk Bl (by omega) (by omega) (by omega))).trans hf, ?_, hp⟩
  refine ⟨hw.1, ?_⟩
  rcases hw.2 with h0 | ⟨g', cap, cur, hv, hb, hg, hr⟩
  · exact .inl h0
  · exact .inr ⟨g', cap, cur, hv, hb, (hk g' (Array.getElem?_eq_some_iff.1 hg).1 (by omega) (by omega)).trans hg, hr⟩
theorem LooseI.put {S : Nat → Prop} {w : World} {b g c m Bl p : Nat} {xs : List Nat} {M : Dv} {V : World} (h : LooseI S w b g c m Bl p xs M V) (hlt : ∀ k, S k → k < w.heap.size) (hB : Bl < w.heap.size) (l : Nat) (o : Obj) (h1 : w.heap.size ≤ l) (h2 : l ≤ w.heap.size + 1) : LooseI S w b g c m Bl p xs M (V.putObj l o) :=
  h.same hlt hB rfl rfl rfl (by simp) (fun k _ h3 h4 => World.putObj_heap_other (by omega))
theorem LooseI.below {S : Nat → Prop} {w : World} {b g c m Bl p : Nat} {xs : List Nat} {M : Dv} {V V' : World} (h : LooseI S w b g c m Bl p xs M V) (hlt : ∀ k, S k → k < w.heap.size) (hB : Bl < w.heap.size) (hb : Below V.heap.size V V') : LooseI S w b g c m Bl p xs M V' :=
  h.same hlt hB hb.os hb.tape hb.output hb.size (fun k hk _ _ => hb.block k hk)
end Go.Proofs.YtdddennhdbmolaaGreat
/- Layer 3 (dev): what the laws use: a text as a sector's bytes, lists of ints, a device that is held. -/
namespace Go.Proofs.YtdddennhdbmolaaGreat
open Go.RowKit Go.Maps
set_option linter.unusedVariables false
set_option linter.unusedSimpArgs false
set_option maxRecDepth 10000
theorem make_noughts (k : Nat) (hk : k ≤ 65536) (w : World) :
    (Instr.makeSlice 89 (.int .i64 (k : Int)) (.int .i64 (k : Int))).run Tryz.prog w = .ok (.slice (some ⟨w.heap.size, 0, none⟩) k k) (w.alloc (.cells (byteCells (List.replicate k 0)) 5)) := by
  have hinfo : (Tryz.prog.info? 5).map (fun i => (i.zero, i.size, i.bytes)) = some (some (.int .u8 0), 1, 1) := by kernel_rfl
  obtain ⟨i, hi, hz, hsz, hby⟩ := info_parts hinfo
  have hr := run_make (P := Tryz.prog) w 89 5 i _ Tryz.underlying89 hi hz .i64 .i64 k k (by omega) (by omega) (by rw [hby]; omega) (by omega)
  simp only [Int.toNat_natCast] at hr
  rw [hr, hsz, Nat.mul_one]
  have := made_bytes k
  simp only [Value.cells] at *
  rw [this]
/-- A text as a sector's bytes. -/
def secOf (s : List UInt8) : List UInt8 := s.take 64 ++ List.replicate (64 - (s.take 64).length) 0
theorem secOf_len (s : List UInt8) : (secOf s).length = 64 := by
  unfold secOf
  rw [List.length_append, List.length_replicate, List.length_take]
  omega
end Go.Proofs.YtdddennhdbmolaaGreat
/- Layer 3 (dev): a device that a call holds; the chapter's examples. -/
namespace Go.Proofs.YtdddennhdbmolaaGreat
open Go.RowKit Go.Maps
set_option linter.unusedVariables false
set_option linter.unusedSimpArgs false
set_option maxRecDepth 10000
/-- The blocks of K lie as they lay in w. -/
structure Keeps (K : Nat → Prop) (w W : World) : Prop where
  lt : ∀ k, K k → k < w.heap.size
  os : W.os = w.os
  tape : W.tape = w.tape
  output : W.output = w.output
  size : w.heap.size ≤ W.heap.size
  same : ∀ k, K k → W.heap[k]? = w.heap[k]?
theorem Keeps.refl {K : Nat → Prop} {w : World} (h : ∀ k, K k → k < w.heap.size) : Keeps K w w := ⟨h, rfl, rfl, rfl, Nat.le_refl _, fun _ _ => rfl⟩
theorem Keeps.trans {K K' : Nat → Prop} {a b c : World} (h : Keeps K a b) (k : Keeps K' b c) (hk : ∀ q, K q → K' q) : Keeps K a c :=
  ⟨h.lt, k.os.trans h.os, k.tape.trans h.tape, k.output.trans h.output, Nat.le_trans h.size k.size, fun q hq => (k.same q (hk q hq)).trans (h.same q hq)⟩
theorem Keeps.below {K : Nat → Prop} {w W W' : World} (h : Keeps K w W) (hb : Below W.heap.size W W') : Keeps K w W' :=
  ⟨h.lt, hb.os.trans h.os, hb.tape.trans h.tape, hb.output.trans h.output, Nat.le_trans h.size hb.size, fun k hk => (hb.block k (Nat.lt_of_lt_of_le (h.lt k hk) h.size)).trans (h.same k hk)⟩
theorem Keeps.only {K S : Nat → Prop} {w W W' : World} (h : Keeps K w W) (ho : Only S W W') (hs : ∀ k, S k → ¬ K k) : Keeps K w W' :=
  ⟨h.lt, ho.os.trans h.os, ho.tape.trans h.tape, ho.output.trans h.output, Nat.le_trans h.size ho.size, fun k hk => (ho.block k (Nat.lt_of_lt_of_le (h.lt k hk) h.size) (fun e => hs k e hk)).trans (h.same k hk)⟩
/-- All that was there. -/
def All (w : World) (k : Nat) : Prop := k < w.heap.size
theorem Keeps.all {w W : World} (h : Keeps (All w) w W) : Below w.heap.size w W := ⟨h.os, h.tape, h.output, h.size, fun k hk => h.same k hk⟩
theorem Keeps.start (w : World) : Keeps (All w) w w := .refl fun _ h => h
/-- The device M lies at b, apart from K's blocks; these lie as they lay in w. -/
def Held (K : Nat → Prop) (w W : World) (b : Nat) (M : Dv) : Prop := Keeps K w W ∧ ∃ S, DevAt S W b M ∧ ∀ k, S k → ¬ K k
theorem Held.keeps {K : Nat → Prop} {w W : World} {b : Nat} {M : Dv} (h : Held K w W b M) : Keeps K w W := h.1
theorem Held.below {K : Nat → Prop} {w W W' : World} {b : Nat} {M : Dv} (h : Held K w W b M) (hb : Below W.heap.size W W') : Held K w W' b M := by
  obtain ⟨h1, S, h3, h4⟩ := h
  exact ⟨h1.below hb, S, h3.below hb, h4⟩
theorem Held.fine {K : Nat → Prop} {w W : World} {b : Nat} {M : Dv} (h : Held K w W b M) : Fine M := h.2.elim fun _ h => h.1.fine
/-- From here on more is kept: what lies behind the device's blocks. -/
theorem Held.more {K K' : Nat → Prop} {w W W' : World} {b : Nat} {M : Dv} (h : Held K w W b M) (hb : Below W.heap.size W W') (hk : ∀ k, K' k → K k ∨ (W.heap.size ≤ k ∧ k < W'.heap.size)) : Held K' W' W' b M := by
  obtain ⟨h1, S, h3, h4⟩ := h
  refine ⟨.refl fun k hk' => ?_, S, h3.below hb, fun k hs hk' => ?_⟩
  · rcases hk k hk' with e | e
    · exact Nat.lt_of_lt_of_le (Nat.lt_of_lt_of_le (h1.lt k e) h1.size) hb.size
    · exact e.2
  · rcases hk k hk' with e | e
    · exact h4 k hs e
    · have := h3.lt k hs; omega
theorem held_new {K : Nat → Prop} {w : World} (n : Nat) (h8 : 8 ≤ n) (hn : n ≤ 4096) {W : World} (h : Keeps K w W) :
    Calls Tryz.prog 32 #[.int .i64 (n : Int)] W fun e w' => ∃ b, e = .returned (.tuple #[devp b, .int .i64 0]) ∧ Held K w w' b (dev0 n) ∧ Below W.heap.size W w' := by
  refine (new_any n h8 hn W).mono ?_
  rintro e w' ⟨rfl, rfl⟩
  have hb := newW_below n W
  exact ⟨_, rfl, ⟨h.below hb, newS W, new_in n h8 hn W, fun k hk hK => by have := newS_from W k hk; have := h.lt k hK; have := h.size; omega⟩, hb⟩
theorem calls_step {f : FuncId} {args : Array Value} {W : World} {b : Nat} {M N : Dv} {r : Value} {K : Nat → Prop} {w : World} (h : Held K w W b M) (hc : ∀ S, DevAt S W b M → Calls Tryz.prog f args W fun e w' => e = .returned r ∧ Step S W b N w') :
    Calls Tryz.prog f args W fun e w' => e = .returned r ∧ Held K w w' b N := by
  obtain ⟨h1, S, h3, h4⟩ := h
  refine (hc S h3).mono ?_
  rintro e w' ⟨he, S', hd, ho, hk⟩
  refine ⟨he, h1.only ho h4, S', hd, fun k e hK => ?_⟩
  rcases hk k e with e | e
  · exact h4 k e hK
  · have := h1.lt k hK; have := h1.size; omega
section
variable {K : Nat → Prop} {w W : World} {b : Nat} {M : Dv}
theorem held_write (h : Held K w W b M) (hw : M.wr < 1099511627776) (i : Int) (s : List UInt8) :
    Calls Tryz.prog 83 #[devp b, .int .i64 i, str s] W fun e w' => e = .returned (.int .i64 (M.wroteE i s)) ∧ Held K w w' b (M.wrote i s) :=
  calls_step h fun S hS => write_all hS hw i s
theorem held_flush (h : Held K w W b M) (hd : M.down = false) (hw : M.wr ≤ 1099511627776) :
    Calls Tryz.prog 84 #[devp b] W fun e w' => e = .returned (.int .i64 0) ∧ Held K w w' b M.flush :=
  calls_step h fun S hS => flush_any hS hd hw
theorem held_read (h : Held K w W b M) (hd : M.down = false) (hw : M.wr ≤ 1099511627776) (i : Nat) (hi : i < M.n) :
    Calls Tryz.prog 69 #[devp b, .int .i64 (i : Int)] W fun e w' => e = .returned (.tuple #[str (M.cur i), .int .i64 0]) ∧ Held K w w' b M := by
  have h' := h
  obtain ⟨h1, S, h3, h4⟩ := h'
  refine (read_any h3 hd hw i hi).mono ?_
  rintro e w' ⟨rfl, hb⟩
  exact ⟨rfl, h.below hb⟩
theorem held_down (h : Held K w W b M) : Calls Tryz.prog 53 #[devp b] W fun e w' => e = .returned (.bool M.down) ∧ W = w' := by
  obtain ⟨h1, S, h3, h4⟩ := h
  exact downFn_any b _ W (h3.down_cell rfl)
end
theorem Row.kept {w W : World} {v : Value} {xs : List Value} (h : Row w v xs) (hb : ∀ k, v.ownBlock = some k → W.heap[k]? = w.heap[k]?) : Row W v xs := by
  obtain ⟨A, c, rfl, hc⟩ := h
  refine ⟨A, c, rfl, fun j u hu => ?_⟩
  obtain ⟨g, rfl, hcell⟩ := hc j u hu
  exact ⟨g, rfl, (cell_same j (hb g rfl)).trans hcell⟩
/-- The examples' devices. -/
def exM : Dv := (((dev0 8).wrote 3 (secOf [97])).wrote 3 (secOf [98])).wrote 5 (secOf [99])
def exC : Dv := exM.crash [1]
def exF : Dv := (exC.fuse 1).wrote 0 (secOf [97])
theorem ex_facts : (dev0 8).wroteE 3 (secOf [97]) = 0 ∧ ((dev0 8).wrote 3 (secOf [97])).wroteE 3 (secOf [98]) = 0 ∧ (((dev0 8).wrote 3 (secOf [97])).wrote 3 (secOf [98])).wroteE 5 (secOf [99]) = 0 ∧ exM.loose = [3, 5] ∧
    exC.cur 3 = secOf [97] ∧ exC.cur 5 = secOf [] ∧ (exC.fuse 1).wroteE 0 (secOf [97]) = 0 ∧ exF.wroteE 0 (secOf [98]) = 30 ∧ (exF.wrote 0 (secOf [98])).down = true ∧ ((exF.wrote 0 (secOf [98])).crash []).down = false ∧ ((exF.wrote 0 (secOf [98])).crash []).wroteE 0 [97] = 2 := by
  decide +kernel
end Go.Proofs.YtdddennhdbmolaaGreat
/- Layer 3 (dev): the chapter's examples, walked. -/
namespace Go.Proofs.YtdddennhdbmolaaGreat
open Go.RowKit Go.Maps
set_option linter.unusedVariables false
set_option linter.unusedSimpArgs false
set_option maxRecDepth 10000
theorem row_lit (w : World) (xs : List Value) (e : TypeId) (n : Nat) (hn : xs.length = n) : Row (w.alloc (.cells xs.toArray e)) (.slice (some ⟨w.heap.size, 0, none⟩) n n) xs := by
  subst hn
  refine ⟨_, _, rfl, fun j u hj => ⟨_, rfl, ?_⟩⟩
  unfold World.cell?
  rw [heap_alloc_new]
  simpa using hj
end Go.Proofs.YtdddennhdbmolaaGreat
/- Layer 3 (dev): the scripts of the statements. -/
namespace Go.Proofs.YtdddennhdbmolaaGreat
open Go.RowKit Go.Maps
set_option linter.unusedVariables false
set_option linter.unusedSimpArgs false
set_option maxRecDepth 10000
/-- A step. -/
structure St where
  op : Int
  at_ : Int
  num : Int
  s : List UInt8
  raw : Bool
deriving Inhabited
/-- What it writes. -/
def St.text (x : St) : List UInt8 := if x.raw then x.s else secOf x.s
def St.val (x : St) : Value := .agg #[.int .i64 x.op, .int .i64 x.at_, .int .i64 x.num, str x.s, .bool x.raw]
/-- The cell behind an element's first. -/
def behind (a : Addr) (k q : Nat) : Addr := ⟨(a.add k).block, (a.add k).off + q, none⟩
theorem behind_add (a : Addr) (k q : Nat) (hq : q ≠ 0) : a.add (k + q) = behind a k q := by
  unfold behind Addr.add
  rw [if_neg (by omega)]
  by_cases h : k = 0
  · subst h; simp
  · simp [h]; omega
/-- The slice v is the script l. -/
def Steps (w : World) (v : Value) (l : List St) : Prop :=
  ∃ A c, v = .slice A l.length c ∧ ∀ j x, l[j]? = some x → ∃ a : Addr, A = some a ∧ w.cell? (a.add (j * 5)) = some (.int .i64 x.op) ∧ w.cell? (behind a (j * 5) 1) = some (.int .i64 x.at_) ∧ w.cell? (behind a (j * 5) 2) = some (.int .i64 x.num) ∧ w.cell? (behind a (j * 5) 3) = some (str x.s) ∧ w.cell? (behind a (j * 5) 4) = some (.bool x.raw)
/-- What long counts. -/
def textSum (l : List St) (k : Nat) : Nat := ((l.take k).map fun x => x.s.length).sum
theorem textSum_succ (l : List St) (k : Nat) (h : k < l.length) : textSum l (k + 1) = textSum l k + l[k].s.length := by
  unfold textSum
  rw [List.take_add_one, List.getElem?_eq_getElem h]
  simp only [Option.toList_some, List.map_append, List.sum_append, List.map_cons, List.map_nil, List.sum_cons, List.sum_nil, Nat.add_zero]
theorem textSum_le (l : List St) (hs : ∀ x ∈ l, x.s.length ≤ 140737488351232) (k : Nat) (h : k ≤ l.length) : textSum l k ≤ k * 140737488351232 := by
  induction k with
  | zero => simp [textSum]
  | succ k ih =>
    rw [textSum_succ l k h]
    have := ih (by omega); have := hs l[k] (List.getElem_mem _); omega
def longFlag (l : List St) : Bool := decide (150 < l.length) || decide (8192 < textSum l (min l.length 300))
end Go.Proofs.YtdddennhdbmolaaGreat
/- Layer 3 (dev): texts in a row; a fuse's writes. -/
namespace Go.Proofs.YtdddennhdbmolaaGreat
open Go.RowKit Go.Maps
set_option linter.unusedVariables false
set_option linter.unusedSimpArgs false
set_option maxRecDepth 10000
theorem flush_down (b : Nat) (W : World) (h1 : W.cell? ⟨b, 1, none⟩ = some (.bool true)) :
    Calls Tryz.prog 84 #[devp b] W fun e w' => e = .returned (.int .i64 30) ∧ Below W.heap.size W w' := by
  refine (callsIn_wide (n := 8)).1 ?_
  refine callsIn_of_wp_marks Tryz.func84 rfl trivial ?_ rfl
  simp only [Tryz.ntmps84, List.size_toArray, List.length_cons, List.length_nil, Nat.reduceAdd, Nat.reduceSub, Array.replicate_succ, Array.replicate_zero, List.push_toArray, List.append_toArray, List.nil_append, List.cons_append]
  have h1a : (W.alloc (.cells #[devp b] 43)).cell? ⟨b, 1, none⟩ = some (.bool true) := by
    rw [World.cell?_alloc_lt _ _ _ (World.block_lt_of_cell? W _ h1)]; exact h1
  gi_wp2_with fail
  refine ⟨trivial, (callsIn_wide.2 (works_any b true _ h1a)).mono ?_⟩
  rintro e w1 ⟨rfl, rfl⟩
  gi_wp2_with fail
  refine ⟨_, results_tmp rfl _ _ _, ?_⟩
  exact ⟨rfl, (Below.refl _ _).alloc (Nat.le_refl _) _⟩
section
variable {K : Nat → Prop} {w W : World} {b : Nat} {M : Dv}
theorem held_flush_down (h : Held K w W b M) (hd : M.down = true) :
    Calls Tryz.prog 84 #[devp b] W fun e w' => e = .returned (.int .i64 30) ∧ Held K w w' b M := by
  have h' := h
  obtain ⟨h1, S, h3, h4⟩ := h'
  refine (flush_down b W (h3.down_cell hd)).mono ?_
  rintro e w' ⟨rfl, hb⟩
  exact ⟨rfl, h.below hb⟩
theorem held_read_down (h : Held K w W b M) (hd : M.down = true) (i : Int) :
    Calls Tryz.prog 69 #[devp b, .int .i64 i] W fun e w' => e = .returned (.tuple #[str [], .int .i64 30]) ∧ W = w' := by
  obtain ⟨h1, S, h3, h4⟩ := h
  exact read_down b _ W (h3.down_cell hd)
end
/-- The slice v is the texts l. -/
def Strings (w : World) (v : Value) (l : List (List UInt8)) : Prop :=
  ∃ A c, v = .slice A l.length c ∧ ∀ j s, l[j]? = some s → ∃ a : Addr, A = some a ∧ w.cell? (a.add j) = some (str s)
/-- Behind k writes of a fuse of n. -/
structure FuseI (n k : Nat) (M : Dv) : Prop where
  n8 : M.n = 8
  wr : M.wr = min k n
  down : M.down = decide (n ≤ k)
  left : k < n → M.left = n - k
theorem FuseI.start (n : Nat) : FuseI n 0 ((dev0 8).fuse n) := by
  refine ⟨rfl, by simp [Dv.fuse, dev0], ?_, fun _ => rfl⟩
  cases n <;> simp [Dv.fuse, dev0]
theorem FuseI.next {n k : Nat} {M : Dv} (h : FuseI n k M) (i : Nat) (hi : i < 8) (s : List UInt8) :
    FuseI n (k + 1) (M.wrote (i : Int) (secOf s)) ∧ M.wroteE (i : Int) (secOf s) = if k < n then 0 else 30 := by
  have hd := h.down
  by_cases hk : k < n
  · have hd : M.down = false := by rw [hd]; simpa using hk
    have hc : M.canWrite (i : Int) (secOf s) = true := by
      unfold Dv.canWrite
      rw [hd, h.n8, secOf_len]
      simp; omega
    unfold Dv.wrote Dv.wroteE
    rw [hc, hd, if_pos rfl, if_neg (by simp), if_pos rfl, if_pos hk]
    refine ⟨⟨h.n8, ?_, ?_, ?_⟩, rfl⟩
    · show M.wr + 1 = _
      rw [h.wr]; omega
    · show (M.down || M.left == 1) = _
      rw [hd, h.left hk, Bool.false_or]
      have : (n - k == 1) = decide (n - k = 1) := rfl
      rw [this]
      exact decide_eq_decide.2 (by omega)
    · intro hk1
      show M.left - 1 = _
      rw [h.left hk]; omega
  · have hd : M.down = true := by rw [hd]; simpa using hk
    have hc : M.canWrite (i : Int) (secOf s) = false := by
      unfold Dv.canWrite
      rw [hd]; simp
    unfold Dv.wrote Dv.wroteE
    rw [hc, hd, if_neg (by simp), if_pos rfl, if_neg hk]
    exact ⟨⟨h.n8, by rw [h.wr]; omega, by rw [hd]; simp; omega, fun hx => by omega⟩, rfl⟩
theorem back_zero {M : Dv} (hn : M.n = 8) (hd : M.down = false) : M.backE 0 0 = 0 := by
  unfold Dv.backE Dv.canBack
  simp [hd, hn]
theorem back_zero_down {M : Dv} (hd : M.down = true) (i k : Int) : M.backE i k = 30 := by
  unfold Dv.backE
  simp [hd]
end Go.Proofs.YtdddennhdbmolaaGreat
/- Layer 3 (dev): what stays while no fuse is set. -/
namespace Go.Proofs.YtdddennhdbmolaaGreat
open Go.RowKit Go.Maps
set_option linter.unusedVariables false
set_option linter.unusedSimpArgs false
set_option maxRecDepth 10000
/-- What stays true while no fuse is set. -/
structure LastI (k : Nat) (M : Dv) : Prop where
  n : M.n = 16
  down : M.down = false
  left : M.left = 0
  wr : M.wr ≤ k
theorem LastI.start : LastI 0 (dev0 16) := ⟨rfl, rfl, rfl, Nat.le_refl _⟩
theorem cur_write (M : Dv) (i : Nat) (s : List UInt8) (j : Nat) : (M.write i s).cur j = if j = i then s else M.cur j := by
  unfold Dv.cur Dv.write
  by_cases h : j = i
  · subst h; simp
  · simp [upd_other _ _ h, h]
theorem cur_wrote (M : Dv) (i : Int) (s : List UInt8) (j : Nat) : (M.wrote i s).cur j = if M.wroteE i s = 0 ∧ i = (j : Int) then s else M.cur j := by
  unfold Dv.wrote Dv.wroteE
  cases hd : M.down
  · cases hc : M.canWrite i s
    · simp
    · rw [if_pos rfl, cur_write]
      unfold Dv.canWrite at hc
      simp at hc
      by_cases h : i = (j : Int)
      · subst h; simp
      · rw [if_neg (by omega), if_neg (by simp [h])]
  · have : M.canWrite i s = false := by unfold Dv.canWrite; simp [hd]
    simp [this]
theorem cur_settle (M : Dv) (i k : Nat) (hk : k ≤ (M.row i).length) (j : Nat) : (M.settle i k).cur j = M.cur j := by
  unfold Dv.cur Dv.settle
  by_cases h : j = i
  · subst h
    simp only [upd_same]
    by_cases h0 : k = 0
    · subst h0; simp
    · rw [if_neg h0]
      by_cases he : k = (M.row j).length
      · subst he
        rw [List.drop_length, List.getLast?_nil, Option.getD_none, List.getLast?_eq_getElem?, List.getD_eq_getElem?_getD, List.getElem?_eq_getElem (by omega)]
        rfl
      · rw [List.getLast?_drop, if_neg (by omega)]
        cases hl : (M.row j).getLast? with
        | none => rw [List.getLast?_eq_none_iff] at hl; rw [hl] at hk; simp at hk; omega
        | some x => rfl
  · simp [upd_other _ _ h]
theorem cur_backed (M : Dv) (i k : Int) (j : Nat) : (M.backed i k).cur j = M.cur j := by
  unfold Dv.backed
  split
  · rename_i h
    unfold Dv.canBack at h
    simp at h
    exact cur_settle M _ _ (by omega) j
  · rfl
theorem cur_flush (M : Dv) (j : Nat) : M.flush.cur j = M.cur j := rfl
theorem LastI.wrote {k : Nat} {M : Dv} (h : LastI k M) (i : Int) (s : List UInt8) : LastI (k + 1) (M.wrote i s) := by
  unfold Dv.wrote
  split
  · exact ⟨h.n, by show (M.down || M.left == 1) = false; rw [h.down, h.left]; rfl, by show M.left - 1 = 0; rw [h.left], by show M.wr + 1 ≤ _; have := h.wr; omega⟩
  · exact ⟨h.n, h.down, h.left, Nat.le_succ_of_le h.wr⟩
theorem LastI.backed {k : Nat} {M : Dv} (h : LastI k M) (i j : Int) : LastI (k + 1) (M.backed i j) := by
  unfold Dv.backed
  split
  · exact ⟨h.n, h.down, h.left, Nat.le_succ_of_le h.wr⟩
  · exact ⟨h.n, h.down, h.left, Nat.le_succ_of_le h.wr⟩
theorem LastI.flush {k : Nat} {M : Dv} (h : LastI k M) : LastI (k + 1) M.flush := ⟨h.n, h.down, h.left, Nat.le_succ_of_le h.wr⟩
theorem LastI.next {k : Nat} {M : Dv} (h : LastI k M) : LastI (k + 1) M := ⟨h.n, h.down, h.left, Nat.le_succ_of_le h.wr⟩
theorem flush_loose (M : Dv) : M.flush.loose = [] := by
  unfold Dv.loose Dv.flush
  simp
theorem flush_crash_cur (M : Dv) (keep : List UInt8) (j : Nat) : (M.flush.crash keep).cur j = M.cur j := by
  unfold Dv.crash Dv.flush Dv.cur
  simp
end Go.Proofs.YtdddennhdbmolaaGreat
/- Layer 4 (journal): heads, bodies, and what is left of a commit, as mathematics. -/
namespace Go.Proofs.YtdddennhdbmolaaGreat
open Go.RowKit Go.Maps
set_option linter.unusedVariables false
set_option linter.unusedSimpArgs false
set_option maxRecDepth 10000
/-- A transaction: sectors, with their contents. -/
abbrev PutL := List (Nat × List UInt8)
/-! Heads. -/
def headT (g st c : Nat) : List UInt8 := leB 8 g ++ leB 1 st ++ leB 2 c ++ List.replicate 49 0
def headL (g st c : Nat) : List UInt8 := headT g st c ++ sealL (headT g st c)
theorem headT_length (g st c : Nat) : (headT g st c).length = 60 := by
  unfold headT
  simp [leB_length]
theorem headL_length (g st c : Nat) : (headL g st c).length = 64 := by
  unfold headL
  rw [List.length_append, headT_length, sealL_length]
structure Hd where
  gen : Nat
  pend : Bool
  cnt : Nat
deriving DecidableEq
/-- What a sector tells as a head. -/
def hd (s : List UInt8) : Hd := if s.drop 60 = sealL (s.take 60) then ⟨leV ((s.take 60).take 8), leV (((s.take 60).drop 8).take 1) == 1, leV (((s.take 60).drop 9).take 2)⟩ else ⟨0, false, 0⟩
theorem hd_headL (g st c : Nat) (hg : g < 18446744073709551616) (hs : st < 256) (hc : c < 65536) : hd (headL g st c) = ⟨g, st == 1, c⟩ := by
  have h60 : (headL g st c).take 60 = headT g st c := by
    unfold headL
    rw [List.take_append_of_le_length (by rw [headT_length]; omega), List.take_of_length_le (by rw [headT_length]; omega)]
  have hd60 : (headL g st c).drop 60 = sealL (headT g st c) := by
    unfold headL
    rw [List.drop_append, List.drop_eq_nil_of_le (by rw [headT_length]; omega), headT_length]
    simp
  unfold hd
  rw [h60, hd60, if_pos rfl]
  have t8 : (headT g st c).take 8 = leB 8 g := by
    unfold headT
    simp [List.append_assoc, List.take_append, leB_length, List.take_of_length_le]
  have t1 : ((headT g st c).drop 8).take 1 = leB 1 st := by
    unfold headT
    simp [List.append_assoc, List.drop_append, List.take_append, leB_length, List.take_of_length_le, List.drop_eq_nil_of_le]
  have t2 : ((headT g st c).drop 9).take 2 = leB 2 c := by
    unfold headT
    simp [List.append_assoc, List.drop_append, List.take_append, leB_length, List.take_of_length_le, List.drop_eq_nil_of_le]
  rw [t8, t1, t2, leV_leB _ _ (by simpa using hg), leV_leB _ _ (by simpa using hs), leV_leB _ _ (by simpa using hc)]
theorem hd_zero : hd (List.replicate 64 0) = ⟨0, false, 0⟩ := by decide +kernel
theorem hd_gen_lt (s : List UInt8) : (hd s).gen < 18446744073709551616 := by
  unfold hd
  split
  · have := leV_lt ((s.take 60).take 8)
    refine Nat.lt_of_lt_of_le this ?_
    exact Nat.le_trans (Nat.pow_le_pow_right (by omega) (by simp; omega : _ ≤ 8)) (by decide)
  · decide
theorem hd_cnt_lt (s : List UInt8) : (hd s).cnt < 65536 := by
  unfold hd
  split
  · have := leV_lt (((s.take 60).drop 9).take 2)
    refine Nat.lt_of_lt_of_le this ?_
    exact Nat.le_trans (Nat.pow_le_pow_right (by omega) (by simp; omega : _ ≤ 2)) (by decide)
  · decide
/-! Bodies. -/
def numRow (l : PutL) : List UInt8 := l.flatMap fun p => leB 2 p.1
def pad64 (s : List UInt8) : List UInt8 := s ++ List.replicate (64 - s.length) 0
def group (l : PutL) (k : Nat) : PutL := (l.drop (32 * k)).take 32
def numSecs (l : PutL) : List (List UInt8) := (List.range ((l.length + 31) / 32)).map fun k => pad64 (numRow (group l k))
def bodyL (l : PutL) : List (List UInt8) := numSecs l ++ l.map (·.2)
theorem numRow_length (l : PutL) : (numRow l).length = 2 * l.length := by
  induction l with
  | nil => rfl
  | cons p r ih =>
    unfold numRow at ih ⊢
    rw [List.flatMap_cons, List.length_append, ih, leB_length, List.length_cons]
    omega
theorem group_length (l : PutL) (k : Nat) : (group l k).length ≤ 32 := by simp [group]; omega
theorem pad64_length (s : List UInt8) (h : s.length ≤ 64) : (pad64 s).length = 64 := by
  unfold pad64
  rw [List.length_append, List.length_replicate]
  omega
theorem numSecs_length (l : PutL) : (numSecs l).length = (l.length + 31) / 32 := by simp [numSecs]
theorem bodyL_length (l : PutL) : (bodyL l).length = (l.length + 31) / 32 + l.length := by simp [bodyL, numSecs_length]
theorem bodyL_each (l : PutL) (h : ∀ p ∈ l, p.2.length = 64) : ∀ s ∈ bodyL l, s.length = 64 := by
  intro s hs
  unfold bodyL at hs
  rcases List.mem_append.1 hs with hs | hs
  · obtain ⟨k, _, rfl⟩ := List.mem_map.1 hs
    refine pad64_length _ ?_
    rw [numRow_length]
    have := group_length l k
    omega
  · obtain ⟨p, hp, rfl⟩ := List.mem_map.1 hs
    exact h p hp
theorem numRow_at (l : PutL) (j : Nat) (h : j < l.length) : ((numRow l).drop (2 * j)).take 2 = leB 2 l[j].1 := by
  induction l generalizing j with
  | nil => simp at h
  | cons p r ih =>
    have hc : numRow (p :: r) = leB 2 p.1 ++ numRow r := by simp [numRow]
    rw [hc]
    cases j with
    | zero =>
      rw [Nat.mul_zero, List.drop_zero, List.take_append_of_le_length (by rw [leB_length]; omega), List.take_of_length_le (by rw [leB_length]; omega)]
      rfl
    | succ j =>
      rw [List.drop_append, List.drop_eq_nil_of_le (by rw [leB_length]; omega), List.nil_append, leB_length, show 2 * (j + 1) - 2 = 2 * j by omega]
      simpa using ih j (by simpa using h)
theorem numSecs_at (l : PutL) (k : Nat) (h : k < (l.length + 31) / 32) : (numSecs l)[k]'(by rw [numSecs_length]; exact h) = pad64 (numRow (group l k)) := by simp [numSecs]
/-- The number of sector k, as the body has it. -/
theorem body_num (l : PutL) (k : Nat) (h : k < l.length) (hn : l[k].1 < 65536) (hb : k / 32 < (bodyL l).length) :
    leV ((((bodyL l)[k / 32]).drop (k % 32 * 2)).take 2) = l[k].1 := by
  have hk : k / 32 < (l.length + 31) / 32 := by omega
  have h1 : (bodyL l)[k / 32] = pad64 (numRow (group l (k / 32))) := by
    have : (bodyL l)[k / 32]? = some (pad64 (numRow (group l (k / 32)))) := by
      unfold bodyL
      rw [List.getElem?_append_left (by rw [numSecs_length]; exact hk), List.getElem?_eq_getElem (by rw [numSecs_length]; exact hk), numSecs_at l _ hk]
    rw [List.getElem?_eq_getElem hb] at this
    exact Option.some.inj this
  have hg : k % 32 < (group l (k / 32)).length := by
    unfold group
    rw [List.length_take, List.length_drop]
    omega
  have hgk : (group l (k / 32))[k % 32] = l[k] := by
    have : (group l (k / 32))[k % 32]? = some l[k] := by
      unfold group
      rw [List.getElem?_take, if_pos (by omega), List.getElem?_drop, show 32 * (k / 32) + k % 32 = k by omega, List.getElem?_eq_getElem h]
    rw [List.getElem?_eq_getElem hg] at this
    exact Option.some.inj this
  have h2 := numRow_at _ _ hg
  rw [h1]
  unfold pad64
  have hl := numRow_length (group l (k / 32))
  rw [List.drop_append_of_le_length (by omega), List.take_append_of_le_length (by rw [List.length_drop]; omega), Nat.mul_comm, h2, hgk, leV_leB _ _ (by simpa using hn)]
theorem body_rest (l : PutL) : (bodyL l).drop ((bodyL l).length - l.length) = l.map (·.2) := by
  rw [bodyL_length]
  unfold bodyL
  rw [List.drop_append, List.drop_eq_nil_of_le (by rw [numSecs_length]; omega), numSecs_length]
  simp
/-! Sectors, each once. -/
def putIn (acc : PutL) (p : Nat × List UInt8) : PutL := if p.1 ∈ acc.map (·.1) then acc.map (fun q => if q.1 = p.1 then p else q) else acc ++ [p]
def lastL (l : PutL) : PutL := l.foldl putIn []
def laid (s : Nat → List UInt8) (l : PutL) : Nat → List UInt8 := l.foldl (fun s p => upd s p.1 p.2) s
theorem laid_append (s : Nat → List UInt8) (l m : PutL) : laid s (l ++ m) = laid (laid s l) m := by simp [laid, List.foldl_append]
theorem laid_snoc (s : Nat → List UInt8) (l : PutL) (p : Nat × List UInt8) : laid s (l ++ [p]) = upd (laid s l) p.1 p.2 := laid_append s l [p]
theorem laid_cons (s : Nat → List UInt8) (l : PutL) (p : Nat × List UInt8) : laid s (p :: l) = laid (upd s p.1 p.2) l := rfl
theorem laid_out (s : Nat → List UInt8) (l : PutL) (i : Nat) (h : i ∉ l.map (·.1)) : laid s l i = s i := by
  induction l generalizing s with
  | nil => rfl
  | cons p r ih =>
    rw [laid_cons, ih _ (fun hm => h (by simp only [List.map_cons, List.mem_cons]; exact .inr hm)), upd_other _ _ (fun e => h (by simp [e]))]
theorem laid_mem (s : Nat → List UInt8) (l : PutL) (hn : (l.map (·.1)).Nodup) (p : Nat × List UInt8) (hp : p ∈ l) : laid s l p.1 = p.2 := by
  induction l generalizing s with
  | nil => cases hp
  | cons q r ih =>
    rw [laid_cons]
    rw [List.map_cons, List.nodup_cons] at hn
    rcases List.mem_cons.1 hp with rfl | hp
    · rw [laid_out _ _ _ hn.1, upd_same]
    · exact ih _ hn.2 hp
theorem putIn_keys (acc : PutL) (p : Nat × List UInt8) : (putIn acc p).map (·.1) = if p.1 ∈ acc.map (·.1) then acc.map (·.1) else acc.map (·.1) ++ [p.1] := by
  unfold putIn
  split
  · rw [List.map_map]
    apply List.map_congr_left
    intro q _
    simp only [Function.comp]
    split <;> simp_all
  · simp
theorem putIn_nodup (acc : PutL) (p : Nat × List UInt8) (h : (acc.map (·.1)).Nodup) : ((putIn acc p).map (·.1)).Nodup := by
  rw [putIn_keys]
  split
  · exact h
  · rename_i hm
    rw [List.nodup_append]
    refine ⟨h, by simp, ?_⟩
    intro a ha b hb e
    simp at hb
    subst hb e
    exact hm ha
theorem laid_putIn (s : Nat → List UInt8) (acc : PutL) (p : Nat × List UInt8) (h : (acc.map (·.1)).Nodup) : laid s (putIn acc p) = upd (laid s acc) p.1 p.2 := by
  unfold putIn
  split
  · rename_i hm
    funext i
    by_cases hi : i = p.1
    · subst hi
      rw [upd_same]
      have hp : p ∈ acc.map (fun q => if q.1 = p.1 then p else q) := by
        obtain ⟨q, hq, he⟩ := List.mem_map.1 hm
        exact List.mem_map.2 ⟨q, hq, by rw [if_pos he]⟩
      have hk : (acc.map (fun q => if q.1 = p.1 then p else q)).map (·.1) = acc.map (·.1) := by
        have := putIn_keys acc p
        unfold putIn at this
        rwa [if_pos hm, if_pos hm] at this
      exact laid_mem s _ (by rw [hk]; exact h) p hp
    · rw [upd_other _ _ hi]
      clear h hm
      induction acc generalizing s with
      | nil => rfl
      | cons q r ih =>
        rw [List.map_cons, laid_cons, laid_cons]
        by_cases e : q.1 = p.1
        · rw [if_pos e, e]
          have hx : ∀ (t : PutL) (a b : List UInt8), laid (upd s p.1 a) t i = laid (upd s p.1 b) t i := by
            intro t
            induction t generalizing s with
            | nil => intro a b; show upd s p.1 a i = upd s p.1 b i; rw [upd_other _ _ hi, upd_other _ _ hi]
            | cons x y ihy =>
              intro a b
              rw [laid_cons, laid_cons]
              by_cases ex : x.1 = p.1
              · rw [ex]
                have : ∀ c, upd (upd s p.1 c) p.1 x.2 = upd s p.1 x.2 := fun c => by funext j; unfold upd; split <;> rfl
                rw [this, this]
              · have hc : ∀ c, upd (upd s p.1 c) x.1 x.2 = upd (upd s x.1 x.2) p.1 c := fun c => by
                  funext j; unfold upd; split
                  · rename_i e1; rw [if_neg (by rw [e1]; exact ex)]
                  · rfl
                rw [hc, hc]
                exact ihy _ _ _
          rw [ih, hx]
        · rw [if_neg e]
          exact ih _
  · rw [laid_snoc]
theorem lastL_snoc (l : PutL) (p : Nat × List UInt8) : lastL (l ++ [p]) = putIn (lastL l) p := by simp [lastL, List.foldl_append]
theorem rev_ind {α : Type} {P : List α → Prop} (h0 : P []) (h1 : ∀ l a, P l → P (l ++ [a])) (l : List α) : P l := by
  have : ∀ n (l : List α), l.length = n → P l := by
    intro n
    induction n with
    | zero => intro l hl; rw [List.length_eq_zero_iff.1 hl]; exact h0
    | succ n ih =>
      intro l hl
      rcases List.eq_nil_or_concat l with h | ⟨q, b, h⟩
      · rw [h]; exact h0
      · rw [List.concat_eq_append] at h
        subst h
        exact h1 q b (ih q (by simpa using hl))
  exact this _ l rfl
theorem lastL_nodup (l : PutL) : ((lastL l).map (·.1)).Nodup := by
  induction l using rev_ind with
  | h0 => simp [lastL]
  | h1 l p ih => rw [lastL_snoc]; exact putIn_nodup _ _ ih
theorem laid_lastL (s : Nat → List UInt8) (l : PutL) : laid s (lastL l) = laid s l := by
  induction l using rev_ind with
  | h0 => rfl
  | h1 l p ih => rw [lastL_snoc, laid_putIn _ _ _ (lastL_nodup l), ih, laid_snoc]
theorem putIn_mem (acc : PutL) (p q : Nat × List UInt8) (h : q ∈ putIn acc p) : q = p ∨ q ∈ acc := by
  unfold putIn at h
  split at h
  · obtain ⟨x, hx, rfl⟩ := List.mem_map.1 h
    split
    · exact .inl rfl
    · exact .inr hx
  · rcases List.mem_append.1 h with h | h
    · exact .inr h
    · exact .inl (by simpa using h)
theorem lastL_mem (l : PutL) (q : Nat × List UInt8) (h : q ∈ lastL l) : q ∈ l := by
  induction l using rev_ind with
  | h0 => cases h
  | h1 l p ih =>
    rw [lastL_snoc] at h
    rcases putIn_mem _ _ _ h with h | h
    · simp [h]
    · simp [ih h]
theorem putIn_length (acc : PutL) (p : Nat × List UInt8) : (putIn acc p).length ≤ acc.length + 1 := by
  unfold putIn
  split <;> simp
theorem lastL_length (l : PutL) : (lastL l).length ≤ l.length := by
  induction l using rev_ind with
  | h0 => exact Nat.le_refl _
  | h1 l p ih =>
    rw [lastL_snoc]
    have := putIn_length (lastL l) p
    simp only [List.length_append, List.length_cons, List.length_nil]
    omega
end Go.Proofs.YtdddennhdbmolaaGreat
/- Layer 4 (journal): a device on which sectors are written in steps, and which crashes. -/
namespace Go.Proofs.YtdddennhdbmolaaGreat
open Go.RowKit Go.Maps
set_option linter.unusedVariables false
set_option linter.unusedSimpArgs false
set_option maxRecDepth 10000
/-- Sectors that may be written. -/
def PutsOk (n : Nat) (l : PutL) : Prop := ∀ p ∈ l, p.1 < n ∧ p.2.length = 64
def Dv.puts (M : Dv) (l : PutL) : Dv := l.foldl (fun M p => M.wrote (p.1 : Int) p.2) M
def Dv.fl (M : Dv) : Dv := if M.down then M else M.flush
def Dv.step (M : Dv) (l : PutL) : Dv := (M.puts l).fl
def Dv.runD (M : Dv) (ls : List PutL) : Dv := ls.foldl Dv.step M
theorem puts_cons (M : Dv) (p : Nat × List UInt8) (l : PutL) : M.puts (p :: l) = (M.wrote (p.1 : Int) p.2).puts l := rfl
theorem puts_snoc (M : Dv) (l : PutL) (p : Nat × List UInt8) : M.puts (l ++ [p]) = (M.puts l).wrote (p.1 : Int) p.2 := by simp [Dv.puts, List.foldl_append]
theorem runD_cons (M : Dv) (l : PutL) (ls : List PutL) : M.runD (l :: ls) = (M.step l).runD ls := rfl
theorem runD_snoc (M : Dv) (ls : List PutL) (l : PutL) : M.runD (ls ++ [l]) = (M.runD ls).step l := by simp [Dv.runD, List.foldl_append]
theorem wrote_down (M : Dv) (h : M.down = true) (i : Int) (s : List UInt8) : M.wrote i s = M := by
  unfold Dv.wrote
  rw [if_neg]
  unfold Dv.canWrite
  simp [h]
theorem wrote_up (M : Dv) (h : M.down = false) (i : Nat) (hi : i < M.n) (s : List UInt8) (hs : s.length = 64) : M.wrote (i : Int) s = M.write i s ∧ M.wroteE (i : Int) s = 0 := by
  have : M.canWrite (i : Int) s = true := by
    unfold Dv.canWrite
    simp [h, hs]; omega
  unfold Dv.wrote Dv.wroteE
  rw [if_pos this, if_neg (by simp [h]), if_pos this]
  exact ⟨rfl, rfl⟩
theorem wroteE_down (M : Dv) (h : M.down = true) (i : Int) (s : List UInt8) : M.wroteE i s = 30 := by
  unfold Dv.wroteE
  rw [if_pos h]
theorem puts_down (M : Dv) (h : M.down = true) (l : PutL) : M.puts l = M := by
  induction l with
  | nil => rfl
  | cons p r ih => rw [puts_cons, wrote_down M h, ih]
theorem step_down (M : Dv) (h : M.down = true) (l : PutL) : M.step l = M := by
  unfold Dv.step Dv.fl
  rw [puts_down M h, if_pos h]
theorem runD_down (M : Dv) (h : M.down = true) (ls : List PutL) : M.runD ls = M := by
  induction ls with
  | nil => rfl
  | cons l r ih => rw [runD_cons, step_down M h, ih]
theorem wrote_n (M : Dv) (i : Int) (s : List UInt8) : (M.wrote i s).n = M.n := by
  unfold Dv.wrote
  split <;> rfl
theorem puts_n (M : Dv) (l : PutL) : (M.puts l).n = M.n := by
  induction l generalizing M with
  | nil => rfl
  | cons p r ih => rw [puts_cons, ih, wrote_n]
theorem fl_n (M : Dv) : M.fl.n = M.n := by
  unfold Dv.fl
  split <;> rfl
theorem step_n (M : Dv) (l : PutL) : (M.step l).n = M.n := (fl_n _).trans (puts_n M l)
theorem runD_n (M : Dv) (ls : List PutL) : (M.runD ls).n = M.n := by
  induction ls generalizing M with
  | nil => rfl
  | cons l r ih => rw [runD_cons, ih, step_n]
theorem wrote_wr (M : Dv) (i : Int) (s : List UInt8) : (M.wrote i s).wr ≤ M.wr + 1 := by
  unfold Dv.wrote
  split
  · exact Nat.le_refl _
  · omega
theorem puts_wr (M : Dv) (l : PutL) : (M.puts l).wr ≤ M.wr + l.length := by
  induction l generalizing M with
  | nil => exact Nat.le_refl _
  | cons p r ih =>
    rw [puts_cons]
    have := ih (M.wrote (p.1 : Int) p.2)
    have := wrote_wr M (p.1 : Int) p.2
    rw [List.length_cons]
    omega
theorem fl_wr (M : Dv) : M.fl.wr = M.wr := by
  unfold Dv.fl
  split <;> rfl
theorem step_wr (M : Dv) (l : PutL) : (M.step l).wr ≤ M.wr + l.length := by
  unfold Dv.step
  rw [fl_wr]
  exact puts_wr M l
theorem runD_wr (M : Dv) (ls : List PutL) : (M.runD ls).wr ≤ M.wr + ls.flatten.length := by
  induction ls generalizing M with
  | nil => exact Nat.le_refl _
  | cons l r ih =>
    rw [runD_cons, List.flatten_cons, List.length_append]
    have := ih (M.step l)
    have := step_wr M l
    omega
/-- No fuse, and it works. -/
def Dv.free (M : Dv) : Prop := M.down = false ∧ M.left = 0
theorem wrote_free (M : Dv) (h : M.free) (i : Int) (s : List UInt8) : (M.wrote i s).free := by
  unfold Dv.wrote
  split
  · refine ⟨?_, ?_⟩
    · show (M.down || M.left == 1) = false
      rw [h.1, h.2]; rfl
    · show M.left - 1 = 0
      rw [h.2]
  · exact h
theorem puts_free (M : Dv) (h : M.free) (l : PutL) : (M.puts l).free := by
  induction l generalizing M with
  | nil => exact h
  | cons p r ih => rw [puts_cons]; exact ih _ (wrote_free M h _ _)
theorem step_free (M : Dv) (h : M.free) (l : PutL) : (M.step l).free := by
  unfold Dv.step Dv.fl
  have := puts_free M h l
  rw [if_neg (by rw [this.1]; simp)]
  exact this
theorem runD_free (M : Dv) (h : M.free) (ls : List PutL) : (M.runD ls).free := by
  induction ls generalizing M with
  | nil => exact h
  | cons l r ih => rw [runD_cons]; exact ih _ (step_free M h l)
/-- Nothing is cached. -/
def Dv.calm (M : Dv) : Prop := ∀ i, M.row i = []
theorem calm_cur (M : Dv) (h : M.calm) (i : Nat) : M.cur i = M.dur i := by simp [Dv.cur, h i]
/-- Within a step that began where nothing was cached. -/
structure Within (M0 : Dv) (l : PutL) (M : Dv) : Prop where
  n : M.n = M0.n
  dur : M.dur = M0.dur
  row : ∀ i, ∀ x ∈ M.row i, ∃ p ∈ l, p.1 = i ∧ p.2 = x
  cur : M.down = false → ∀ i, M.cur i = laid M0.dur l i
theorem within_puts (M0 : Dv) (hc : M0.calm) (l : PutL) (hl : PutsOk M0.n l) : Within M0 l (M0.puts l) := by
  induction l using rev_ind with
  | h0 => exact ⟨rfl, rfl, fun i x hx => (by rw [show (M0.puts []).row i = [] from hc i] at hx; exact absurd hx (by simp)), fun _ i => calm_cur M0 hc i⟩
  | h1 l p ih =>
    have hI := ih (fun q hq => hl q (by simp [hq]))
    have hp := hl p (by simp)
    rw [puts_snoc]
    cases hd : (M0.puts l).down
    · obtain ⟨hw, _⟩ := wrote_up (M0.puts l) hd p.1 (by rw [puts_n]; exact hp.1) p.2 hp.2
      rw [hw]
      refine ⟨hI.n, hI.dur, fun i x hx => ?_, fun hd2 i => ?_⟩
      · unfold Dv.write at hx
        simp only at hx
        by_cases e : i = p.1
        · subst e
          rw [upd_same] at hx
          rcases List.mem_append.1 hx with hx | hx
          · obtain ⟨q, hq, h1⟩ := hI.row _ x hx
            exact ⟨q, by simp [hq], h1⟩
          · exact ⟨p, by simp, rfl, by simpa using (List.mem_singleton.1 hx).symm⟩
        · rw [upd_other _ _ e] at hx
          obtain ⟨q, hq, h1⟩ := hI.row _ x hx
          exact ⟨q, by simp [hq], h1⟩
      · rw [cur_write, laid_snoc]
        unfold upd
        split
        · rfl
        · exact hI.cur hd i
    · rw [wrote_down _ hd]
      refine ⟨hI.n, hI.dur, fun i x hx => ?_, fun hd2 i => ?_⟩
      · obtain ⟨q, hq, h1⟩ := hI.row _ x hx
        exact ⟨q, by simp [hq], h1⟩
      · rw [hd] at hd2; cases hd2
theorem step_calm (M0 : Dv) (hc : M0.calm) (l : PutL) (hl : PutsOk M0.n l) (h : (M0.step l).down = false) : (M0.step l).calm ∧ (M0.step l).dur = laid M0.dur l := by
  have hI := within_puts M0 hc l hl
  unfold Dv.step Dv.fl at h ⊢
  split at h
  · rename_i hd
    rw [hd] at h; cases h
  · rename_i hd
    rw [if_neg hd]
    refine ⟨fun i => rfl, funext fun i => hI.cur (by simpa using hd) i⟩
theorem runD_calm (M0 : Dv) (hc : M0.calm) (ls : List PutL) (hl : ∀ l ∈ ls, PutsOk M0.n l) (h : (M0.runD ls).down = false) : (M0.runD ls).calm ∧ (M0.runD ls).dur = laid M0.dur ls.flatten := by
  induction ls generalizing M0 with
  | nil => exact ⟨hc, rfl⟩
  | cons l r ih =>
    rw [runD_cons] at h ⊢
    cases hd : (M0.step l).down
    · obtain ⟨h1, h2⟩ := step_calm M0 hc l (hl l (by simp)) hd
      obtain ⟨h3, h4⟩ := ih (M0.step l) h1 (fun m hm => by rw [step_n]; exact hl m (by simp [hm])) h
      refine ⟨h3, ?_⟩
      rw [h4, h2, List.flatten_cons, laid_append]
    · rw [runD_down _ hd] at h
      rw [hd] at h; cases h
theorem crash_in (M : Dv) (keep : List UInt8) (i : Nat) : (M.crash keep).dur i = M.dur i ∨ (M.crash keep).dur i ∈ M.row i := by
  unfold Dv.crash
  simp only
  by_cases h : M.row i = []
  · rw [if_pos h]; exact .inl rfl
  · rw [if_neg h]
    unfold Dv.left_
    by_cases h0 : M.kept keep i = 0
    · rw [if_pos h0]; exact .inl rfl
    · rw [if_neg h0]
      have hlt : M.kept keep i < (M.row i).length + 1 := Nat.mod_lt _ (by omega)
      rw [List.getD_eq_getElem?_getD, List.getElem?_eq_getElem (by omega)]
      exact .inr (List.getElem_mem _)
theorem crash_calm (M : Dv) (keep : List UInt8) : (M.crash keep).calm := fun _ => rfl
theorem crash_dur (M : Dv) (h : M.calm) (keep : List UInt8) : (M.crash keep).dur = M.dur := by
  funext i
  unfold Dv.crash
  simp [h i]
/-- What a crash leaves of a run: it came to its end, or it stood still in step k. -/
theorem run_crash (M0 : Dv) (hc : M0.calm) (ls : List PutL) (hl : ∀ l ∈ ls, PutsOk M0.n l) (keep : List UInt8) :
    ((M0.runD ls).down = false ∧ ((M0.runD ls).crash keep).dur = laid M0.dur ls.flatten) ∨
    ((M0.runD ls).down = true ∧ (ls = [] ∧ ((M0.runD ls).crash keep).dur = M0.dur ∨ ∃ k, ∃ h : k < ls.length, ∀ i, ((M0.runD ls).crash keep).dur i = laid M0.dur (ls.take k).flatten i ∨ ∃ p ∈ ls[k], p.1 = i ∧ ((M0.runD ls).crash keep).dur i = p.2)) := by
  induction ls generalizing M0 with
  | nil =>
    show (M0.down = false ∧ _) ∨ (M0.down = true ∧ _)
    cases hd : M0.down
    · exact .inl ⟨rfl, crash_dur M0 hc keep⟩
    · exact .inr ⟨rfl, .inl ⟨rfl, crash_dur M0 hc keep⟩⟩
  | cons l r ih =>
    rw [runD_cons]
    cases hd : (M0.step l).down
    · obtain ⟨h1, h2⟩ := step_calm M0 hc l (hl l (by simp)) hd
      rcases ih (M0.step l) h1 (fun m hm => by rw [step_n]; exact hl m (by simp [hm])) with ⟨h3, h4⟩ | ⟨h3, ⟨rfl, h4⟩ | ⟨k, hk, h4⟩⟩
      · exact .inl ⟨h3, by rw [h4, h2, List.flatten_cons, laid_append]⟩
      · have h3' : (M0.step l).down = true := h3
        rw [hd] at h3'; cases h3'
      · refine .inr ⟨h3, .inr ⟨k + 1, by simpa using hk, fun i => ?_⟩⟩
        rcases h4 i with h5 | h5
        · left
          rw [h5, h2, List.take_succ_cons, List.flatten_cons, laid_append]
        · right
          simpa using h5
    · rw [runD_down _ hd]
      refine .inr ⟨hd, .inr ⟨0, by simp, fun i => ?_⟩⟩
      have hI := within_puts M0 hc l (hl l (by simp))
      have hs : M0.step l = M0.puts l := by
        unfold Dv.step Dv.fl at hd ⊢
        split
        · rfl
        · rename_i hx
          rw [if_neg hx] at hd
          exact absurd hd hx
      rw [hs]
      rcases crash_in (M0.puts l) keep i with h | h
      · left; rw [h, hI.dur]; rfl
      · right
        obtain ⟨p, hp, h1, h2⟩ := hI.row i _ h
        exact ⟨p, by simpa using hp, h1, h2.symm⟩
end Go.Proofs.YtdddennhdbmolaaGreat
/- Layer 4 (journal): the states of an area between two crashes. -/
namespace Go.Proofs.YtdddennhdbmolaaGreat
open Go.RowKit Go.Maps
set_option linter.unusedVariables false
set_option linter.unusedSimpArgs false
set_option maxRecDepth 10000
def keepP (F : Nat) (l : PutL) : PutL := (bodyL l).mapIdx fun k s => (F + 1 + k, s)
def markP (F g st c : Nat) : PutL := [(F, headL g st c)]
def redoP (F g : Nat) (l : PutL) : List PutL := [l, markP F g 0 0]
def commitP (F g : Nat) (l : PutL) : List PutL := [keepP F l, markP F g 1 l.length, l, markP F g 0 0]
theorem keepP_length (F : Nat) (l : PutL) : (keepP F l).length = (bodyL l).length := by simp [keepP]
theorem keepP_get (F : Nat) (l : PutL) (k : Nat) (h : k < (bodyL l).length) : (keepP F l)[k]'(by rw [keepP_length]; exact h) = (F + 1 + k, (bodyL l)[k]) := by simp [keepP]
theorem keepP_mem (F : Nat) (l : PutL) (p : Nat × List UInt8) (h : p ∈ keepP F l) : ∃ k, ∃ hk : k < (bodyL l).length, p = (F + 1 + k, (bodyL l)[k]) := by
  obtain ⟨k, hk, rfl⟩ := List.getElem_of_mem h
  rw [keepP_length] at hk
  exact ⟨k, hk, keepP_get F l k hk⟩
theorem keepP_in (F : Nat) (l : PutL) (k : Nat) (h : k < (bodyL l).length) : (F + 1 + k, (bodyL l)[k]) ∈ keepP F l := by
  rw [← keepP_get F l k h]
  exact List.getElem_mem _
theorem keepP_nodup (F : Nat) (l : PutL) : ((keepP F l).map (·.1)).Nodup := by
  rw [List.nodup_iff_pairwise_ne, List.pairwise_map, List.pairwise_iff_getElem]
  intro i j hi hj hij
  rw [keepP_length] at hi hj
  rw [keepP_get F l i hi, keepP_get F l j hj]
  simp only
  omega
theorem laid_keep (s : Nat → List UInt8) (F : Nat) (l : PutL) (k : Nat) (h : k < (bodyL l).length) : laid s (keepP F l) (F + 1 + k) = (bodyL l)[k] :=
  laid_mem s _ (keepP_nodup F l) _ (keepP_in F l k h)
theorem laid_keep_out (s : Nat → List UInt8) (F : Nat) (l : PutL) (i : Nat) (h : i ≤ F ∨ F + 1 + (bodyL l).length ≤ i) : laid s (keepP F l) i = s i := by
  refine laid_out s _ i fun hm => ?_
  obtain ⟨p, hp, rfl⟩ := List.mem_map.1 hm
  obtain ⟨k, hk, rfl⟩ := keepP_mem F l p hp
  simp only at h
  omega
theorem laid_at (s t : Nat → List UInt8) (l : PutL) (i : Nat) (h : s i = t i) : laid s l i = laid t l i := by
  induction l generalizing s t with
  | nil => exact h
  | cons p r ih =>
    rw [laid_cons, laid_cons]
    refine ih _ _ ?_
    unfold upd
    split
    · rfl
    · exact h
theorem laid_mark (s : Nat → List UInt8) (F g st c i : Nat) : laid s (markP F g st c) i = if i = F then headL g st c else s i := rfl
/-- A sector outside the area. -/
def Out (N F n i : Nat) : Prop := i < N ∧ (i < F ∨ F + n ≤ i)
/-- A transaction that may be, each sector once. -/
structure Tr (N F n : Nat) (l : PutL) : Prop where
  nd : (l.map (·.1)).Nodup
  ok : PutsOk N l
  out : ∀ p ∈ l, p.1 < F ∨ F + n ≤ p.1
  fits : (l.length + 31) / 32 + l.length + 1 ≤ n
  area : F + n ≤ N
  small : N ≤ 4096
structure StA (N F n g : Nat) (was d : Nat → List UInt8) : Prop where
  gen : (hd (d F)).gen = g
  pend : (hd (d F)).pend = false
  out : ∀ i, Out N F n i → d i = was i
structure StB (N F n g : Nat) (was : Nat → List UInt8) (l : PutL) (d : Nat → List UInt8) : Prop where
  head : hd (d F) = ⟨g, true, l.length⟩
  body : ∀ k (h : k < (bodyL l).length), d (F + 1 + k) = (bodyL l)[k]
  out : ∀ i, Out N F n i → d i = was i ∨ d i = laid was l i
section
variable {N F n g : Nat} {was : Nat → List UInt8} {l : PutL} (h : Tr N F n l)
include h
theorem Tr.len : l.length ≤ 4096 := by have := h.fits; have := h.area; have := h.small; omega
theorem Tr.noF (i : Nat) (hi : F ≤ i) (h2 : i < F + n) : i ∉ l.map (·.1) := by
  intro hm
  obtain ⟨p, hp, rfl⟩ := List.mem_map.1 hm
  have := h.out p hp
  omega
theorem Tr.keepOk : PutsOk N (keepP F l) := by
  intro p hp
  obtain ⟨k, hk, rfl⟩ := keepP_mem F l p hp
  refine ⟨?_, bodyL_each l (fun q hq => (h.ok q hq).2) _ (List.getElem_mem _)⟩
  have := h.fits; have := h.area
  rw [bodyL_length] at hk
  show F + 1 + k < N
  omega
theorem Tr.markOk (gg st c : Nat) : PutsOk N (markP F gg st c) := by
  intro p hp
  obtain rfl := List.mem_singleton.1 hp
  refine ⟨?_, headL_length gg st c⟩
  have := h.fits; have := h.area
  show F < N
  omega
theorem Tr.redoOk (gg : Nat) : ∀ m ∈ redoP F gg l, PutsOk N m := by
  intro m hm
  simp only [redoP, List.mem_cons, List.not_mem_nil, or_false] at hm
  rcases hm with rfl | rfl
  · exact h.ok
  · exact h.markOk _ _ _
theorem Tr.commitOk (gg : Nat) : ∀ m ∈ commitP F gg l, PutsOk N m := by
  intro m hm
  simp only [commitP, List.mem_cons, List.not_mem_nil, or_false] at hm
  rcases hm with rfl | rfl | rfl | rfl
  · exact h.keepOk
  · exact h.markOk _ _ _
  · exact h.ok
  · exact h.markOk _ _ _
/-- The end of all steps. -/
theorem Tr.done (d : Nat → List UInt8) (hg : g < 18446744073709551616) (hd0 : ∀ i, Out N F n i → d i = was i ∨ d i = laid was l i) : StA N F n g (laid was l) (laid (laid d l) (markP F g 0 0)) := by
  have e : hd (headL g 0 0) = ⟨g, false, 0⟩ := hd_headL g 0 0 hg (by decide) (by decide)
  refine ⟨?_, ?_, fun i hi => ?_⟩
  · rw [laid_mark, if_pos rfl, e]
  · rw [laid_mark, if_pos rfl, e]
  · have hf := h.fits
    have hi2 := hi.2
    rw [laid_mark, if_neg (by omega)]
    by_cases hm : i ∈ l.map (·.1)
    · obtain ⟨p, hp, rfl⟩ := List.mem_map.1 hm
      rw [laid_mem _ _ h.nd p hp, laid_mem _ _ h.nd p hp]
    · rw [laid_out _ _ _ hm, laid_out _ _ _ hm]
      rcases hd0 i hi with e | e
      · exact e
      · rw [e, laid_out _ _ _ hm]
/-- What recovery leaves. -/
theorem redo_crash (M : Dv) (hM : M.n = N) (hc : M.calm) (hg : g < 18446744073709551616) (hB : StB N F n g was l M.dur) (keep : List UInt8) :
    let d := ((M.runD (redoP F g l)).crash keep).dur
    ((M.runD (redoP F g l)).down = false ∧ StA N F n g (laid was l) d) ∨ ((M.runD (redoP F g l)).down = true ∧ (StB N F n g was l d ∨ StA N F n g (laid was l) d)) := by
  intro d
  have hf := h.fits
  have hbl := bodyL_length l
  have hend := h.done (g := g) M.dur hg hB.out
  rcases run_crash M hc (redoP F g l) (by rw [hM]; exact h.redoOk g) keep with ⟨h1, h2⟩ | ⟨h1, ⟨h2, _⟩ | ⟨k, hk, h2⟩⟩
  · refine .inl ⟨h1, ?_⟩
    show StA N F n g (laid was l) ((M.runD (redoP F g l)).crash keep).dur
    rw [h2]
    have : (redoP F g l).flatten = l ++ markP F g 0 0 := by simp [redoP]
    rw [this, laid_append]
    exact hend
  · cases h2
  · refine .inr ⟨h1, ?_⟩
    have hk2 : k = 0 ∨ k = 1 := by simp only [redoP, List.length_cons, List.length_nil] at hk; omega
    rcases hk2 with rfl | rfl
    · left
      have key : ∀ i, F ≤ i → i < F + n → d i = M.dur i := by
        intro i h3 h4
        rcases h2 i with e | ⟨p, hp, e1, e2⟩
        · exact e
        · have : p ∈ l := hp
          have := h.out p this
          omega
      refine ⟨?_, fun k hk => ?_, fun i hi => ?_⟩
      · rw [key F (Nat.le_refl _) (by omega)]; exact hB.head
      · rw [key (F + 1 + k) (by omega) (by omega)]; exact hB.body k hk
      · rcases h2 i with e | ⟨p, hp, e1, e2⟩
        · rw [show d i = M.dur i from e]; exact hB.out i hi
        · right
          have hp : p ∈ l := hp
          rw [show d i = p.2 from e2, ← e1, laid_mem _ _ h.nd p hp]
    · have e0 : (List.take 1 (redoP F g l)).flatten = l := by simp [redoP]
      have hout : ∀ i, Out N F n i → d i = laid was l i := by
        intro i hi
        have hi2 := hi.2
        rcases h2 i with e | ⟨p, hp, e1, e2⟩
        · rw [e0] at e
          rw [show d i = _ from e, ← hend.out i hi, laid_mark, if_neg (by omega)]
        · have : p = (F, headL g 0 0) := List.mem_singleton.1 hp
          subst this
          simp only at e1
          omega
      rcases h2 F with e | ⟨p, hp, e1, e2⟩
      · left
        rw [e0] at e
        refine ⟨?_, fun k hk => ?_, fun i hi => .inr (hout i hi)⟩
        · rw [show d F = _ from e, laid_out _ _ _ (h.noF F (Nat.le_refl _) (by omega))]; exact hB.head
        · rcases h2 (F + 1 + k) with e | ⟨p, hp, e1, e2⟩
          · rw [e0] at e
            rw [show d (F + 1 + k) = _ from e, laid_out _ _ _ (h.noF _ (by omega) (by omega))]; exact hB.body k hk
          · have : p = (F, headL g 0 0) := List.mem_singleton.1 hp
            subst this
            simp only at e1
            omega
      · right
        have : p = (F, headL g 0 0) := List.mem_singleton.1 hp
        subst this
        have e : hd (headL g 0 0) = ⟨g, false, 0⟩ := hd_headL g 0 0 hg (by decide) (by decide)
        refine ⟨?_, ?_, hout⟩
        · rw [show d F = _ from e2, e]
        · rw [show d F = _ from e2, e]
/-- What a commit leaves. -/
theorem commit_crash (M : Dv) (hM : M.n = N) (hc : M.calm) (hg : g < 18446744073709551615) (hA : StA N F n g was M.dur) (keep : List UInt8) :
    let d := ((M.runD (commitP F (g + 1) l)).crash keep).dur
    ((M.runD (commitP F (g + 1) l)).down = false ∧ StA N F n (g + 1) (laid was l) d) ∨
    ((M.runD (commitP F (g + 1) l)).down = true ∧ (StA N F n g was d ∨ StB N F n (g + 1) was l d ∨ StA N F n (g + 1) (laid was l) d)) := by
  intro d
  have hf := h.fits
  have hbl := bodyL_length l
  have hlen := h.len
  have hsp : commitP F (g + 1) l = [keepP F l, markP F (g + 1) 1 l.length] ++ redoP F (g + 1) l := rfl
  -- behind the second step
  have e1 : hd (headL (g + 1) 1 l.length) = ⟨g + 1, true, l.length⟩ := hd_headL (g + 1) 1 l.length (by omega) (by decide) (by omega)
  have hB : StB N F n (g + 1) was l (laid (laid M.dur (keepP F l)) (markP F (g + 1) 1 l.length)) := by
    refine ⟨?_, fun k hk => ?_, fun i hi => .inl ?_⟩
    · rw [laid_mark, if_pos rfl, e1]
    · rw [laid_mark, if_neg (by omega), laid_keep _ _ _ k hk]
    · have hi2 := hi.2
      rw [laid_mark, if_neg (by omega), laid_keep_out _ _ _ _ (by omega)]
      exact hA.out i hi
  have hrun : M.runD (commitP F (g + 1) l) = (M.runD [keepP F l, markP F (g + 1) 1 l.length]).runD (redoP F (g + 1) l) := by rw [hsp]; simp [Dv.runD]
  have hok2 : ∀ m ∈ [keepP F l, markP F (g + 1) 1 l.length], PutsOk M.n m := by
    intro m hm
    rw [hM]
    exact h.commitOk (g + 1) m (by rw [hsp]; exact List.mem_append_left _ hm)
  cases hd2 : (M.runD [keepP F l, markP F (g + 1) 1 l.length]).down
  · obtain ⟨hc2, hdur2⟩ := runD_calm M hc _ hok2 hd2
    have hfl : [keepP F l, markP F (g + 1) 1 l.length].flatten = keepP F l ++ markP F (g + 1) 1 l.length := by simp
    rw [hfl, laid_append] at hdur2
    have := redo_crash h (M.runD [keepP F l, markP F (g + 1) 1 l.length]) ((runD_n _ _).trans hM) hc2 (g := g + 1) (was := was) (by omega) (by rw [hdur2]; exact hB) keep
    rw [← hrun] at this
    rcases this with ⟨h1, h2⟩ | ⟨h1, h2 | h2⟩
    · exact .inl ⟨h1, h2⟩
    · exact .inr ⟨h1, .inr (.inl h2)⟩
    · exact .inr ⟨h1, .inr (.inr h2)⟩
  · have hsame : M.runD (commitP F (g + 1) l) = M.runD [keepP F l, markP F (g + 1) 1 l.length] := by rw [hrun, runD_down _ hd2]
    have hdE : d = ((M.runD [keepP F l, markP F (g + 1) 1 l.length]).crash keep).dur := by rw [← hsame]
    refine .inr ⟨by rw [hsame]; exact hd2, ?_⟩
    rcases run_crash M hc _ hok2 keep with ⟨h1, h2⟩ | ⟨h1, ⟨h2, _⟩ | ⟨k, hk, h2⟩⟩
    · rw [hd2] at h1; cases h1
    · cases h2
    · rw [← hdE] at h2
      have hk2 : k = 0 ∨ k = 1 := by simp only [List.length_cons, List.length_nil] at hk; omega
      rcases hk2 with rfl | rfl
      · left
        have key : ∀ i, i ≤ F ∨ F + n ≤ i → d i = M.dur i := by
          intro i hi
          rcases h2 i with e | ⟨p, hp, e1, e2⟩
          · exact e
          · obtain ⟨k, hk, rfl⟩ := keepP_mem F l p hp
            simp only at e1
            omega
        refine ⟨?_, ?_, fun i hi => ?_⟩
        · rw [key F (by omega)]; exact hA.gen
        · rw [key F (by omega)]; exact hA.pend
        · have hi2 := hi.2
          rw [key i (by omega)]; exact hA.out i hi
      · have e0 : (List.take 1 [keepP F l, markP F (g + 1) 1 l.length]).flatten = keepP F l := by simp
        have hne : ∀ i, i ≠ F → d i = laid M.dur (keepP F l) i := by
          intro i hi
          rcases h2 i with e | ⟨p, hp, e1, e2⟩
          · rw [e0] at e; exact e
          · have : p = (F, headL (g + 1) 1 l.length) := List.mem_singleton.1 hp
            subst this
            exact absurd e1.symm hi
        have hout : ∀ i, Out N F n i → d i = was i := by
          intro i hi
          have hi2 := hi.2
          rw [hne i (by omega), laid_keep_out _ _ _ _ (by omega)]
          exact hA.out i hi
        rcases h2 F with e | ⟨p, hp, e1, e2⟩
        · left
          rw [e0, laid_keep_out _ _ _ _ (by omega)] at e
          exact ⟨by rw [e]; exact hA.gen, by rw [e]; exact hA.pend, hout⟩
        · right; left
          have : p = (F, headL (g + 1) 1 l.length) := List.mem_singleton.1 hp
          subst this
          refine ⟨?_, fun k hk => ?_, fun i hi => .inl (hout i hi)⟩
          · rw [e2]; exact hd_headL (g + 1) 1 l.length (by omega) (by decide) (by omega)
          · rw [hne _ (by omega), laid_keep _ _ _ k hk]
end
end Go.Proofs.YtdddennhdbmolaaGreat
/- Layer 4 (journal): numbers, texts and heads. -/
namespace Go.Proofs.YtdddennhdbmolaaGreat
open Go.RowKit Go.Maps
set_option linter.unusedVariables false
set_option linter.unusedSimpArgs false
set_option maxRecDepth 10000
theorem quot_none (v n : Nat) (h : v < 256 ^ n) : ((v : Int) / 2 ^ (8 * n) != 0) = false := by
  rw [pow256] at h
  have h1 : v / 2 ^ (8 * n) = 0 := Nat.div_eq_of_lt h
  have h2 : ((v : Int) / 2 ^ (8 * n)) = ((v / 2 ^ (8 * n) : Nat) : Int) := by simp
  rw [h2, h1]; rfl
set_option maxHeartbeats 400000 in
theorem number_any (u : Int) (v n : Nat) (w : World) (hu : u = v) (hv : v < 18446744073709551616) (hn : n ≤ 8) (h : v < 256 ^ n) (i : Int) (hi : i = n) :
    Calls Tryz.prog 140 #[.int .u64 u, .int .i64 i] w fun e w' => e = .returned (str (leB n v)) ∧ Below w.heap.size w w' := by
  subst hu hi
  have hq := quot_none v n h
  clear h
  go_enter Tryz.func140, Tryz.ntmps140
  go_wp2_with fail
  refine (num_ok v n _ hv hn hq).mono ?_
  rintro e w1 ⟨rfl, hb1⟩
  go_wp2_with fail
  go_ret
  exact ⟨rfl, hb1⟩
set_option maxHeartbeats 400000 in
theorem take_any (l : List UInt8) (n : Nat) (w : World) (hl : l.length ≤ 1048576) (hn : n ≤ 8) (h : n ≤ l.length) (i : Int) (hi : i = n) :
    Calls Tryz.prog 103 #[str l, .int .i64 i] w fun e w' => e = .returned (.tuple #[.int .u64 (leV (l.take n)), str (l.drop n)]) ∧ Below w.heap.size w w' := by
  subst hi
  go_enter Tryz.func103, Tryz.ntmps103
  go_wp2_with fail
  refine (cut_ok l n n _ (by simp only [maxLen]; omega) rfl h).mono ?_
  rintro e w1 ⟨rfl, hb1⟩
  go_wp2_with fail
  refine (get_ok (l.take n) _ (by rw [List.length_take]; omega)).mono ?_
  rintro e w2 ⟨rfl, hb2⟩
  go_wp2_with fail
  go_ret2
  exact ⟨rfl, chain hb1 hb2⟩
set_option maxHeartbeats 400000 in
theorem filled_any (l : List UInt8) (k : Nat) (n : Int) (w : World) (hn : n = ((l.length + k : Nat) : Int)) (hk : l.length + k ≤ 65536) :
    Calls Tryz.prog 142 #[str l, .int .i64 n] w fun e w' => e = .returned (str (l ++ List.replicate k 0)) ∧ Below w.heap.size w w' := by
  have HP := Lib.hid (pad_ok l k n w hn hk)
  clear hn hk
  generalize l ++ List.replicate k 0 = r at HP
  go_enter Tryz.func142, Tryz.ntmps142
  go_wp2_with fail
  refine HP.out.mono ?_
  rintro e w1 ⟨rfl, hb1⟩
  go_wp2_with fail
  go_ret
  exact ⟨rfl, hb1⟩
theorem parts_any (m : Nat) (size : Nat) (w : World) (hm : m ≤ 1048576) (hs : 0 < size) (hs2 : size ≤ 1048576) :
    Calls Tryz.prog 104 #[.int .i64 (m : Int), .int .i64 (size : Int)] w fun e w' => e = .returned (.int .i64 (((m : Int) + (size : Int) - 1) / (size : Int))) ∧ w = w' := by
  go_enter Tryz.func104, Tryz.ntmps104
  go_wp2_with fail
  go_ret
  exact ⟨rfl, rfl⟩
theorem bodySize_any (m : Nat) (w : World) (hm : m ≤ 65536) :
    Calls Tryz.prog 80 #[.int .i64 (m : Int)] w fun e w' => e = .returned (.int .i64 (((m : Int) + 31) / 32 + (m : Int))) ∧ w = w' := by
  have h := parts_any m 32 w (by omega) (by decide) (by decide)
  rw [show (m : Int) + ((32 : Nat) : Int) - 1 = (m : Int) + 31 by omega] at h
  have HP := Lib.hid h
  clear h
  go_enter Tryz.func80, Tryz.ntmps80
  go_wp2_with fail
  refine HP.out.mono ?_
  rintro e w1 ⟨rfl, rfl⟩
  clear HP
  go_wp2_with fail
  go_ret
  exact ⟨rfl, rfl⟩
/-- A head as a value. -/
def hdV (h : Hd) : Value := .agg #[.int .u64 (h.gen : Int), .bool h.pend, .int .i64 (h.cnt : Int)]
/-- What lies in a new block of three cells. -/
theorem cells3 (w : World) (a b c : Value) (t : TypeId) {W : World} (h : Below (w.alloc (.cells #[a, b, c] t)).heap.size (w.alloc (.cells #[a, b, c] t)) W) :
    W.cell? ⟨w.heap.size, 0, none⟩ = some a ∧ W.cell? ⟨w.heap.size, 1, none⟩ = some b ∧ W.cell? ⟨w.heap.size, 2, none⟩ = some c := by
  have hr := h.block w.heap.size (by simp)
  have h0 := heap_alloc_new w (.cells #[a, b, c] t)
  have h1 := hr.trans h0
  refine ⟨?_, ?_, ?_⟩
  all_goals
    unfold World.cell?
    rw [h1]
    rfl
theorem frozen3 (w : World) (a b c : Value) (t : TypeId) {W : World} (h : Below (w.alloc (.cells #[a, b, c] t)).heap.size (w.alloc (.cells #[a, b, c] t)) W) :
    W.frozen? ⟨w.heap.size, 0, none⟩ = false ∧ W.frozen? ⟨w.heap.size, 1, none⟩ = false ∧ W.frozen? ⟨w.heap.size, 2, none⟩ = false := by
  have hr := (h.block w.heap.size (by simp)).trans (heap_alloc_new w (.cells #[a, b, c] t))
  exact ⟨frozen_of_row W _ 0 _ t hr, frozen_of_row W _ 1 _ t hr, frozen_of_row W _ 2 _ t hr⟩
theorem set3 {W : World} {g : Nat} {a b c : Value} {t : TypeId} (h : W.heap[g]? = some (.cells #[a, b, c] t (0, 0))) (x y z : Value) :
    (((W.setCell ⟨g, 0, none⟩ x).setCell ⟨g, 1, none⟩ y).setCell ⟨g, 2, none⟩ z).heap[g]? = some (.cells #[x, y, z] t (0, 0)) := by
  have h1 := heap_setCell_same W g 0 _ t x h
  have h2 := heap_setCell_same _ g 1 _ t y h1
  have h3 := heap_setCell_same _ g 2 _ t z h2
  exact h3
set_option maxHeartbeats 1000000 in
theorem headSec_any (g c : Nat) (p : Bool) (w : World) (hg : g < 18446744073709551616) (hc : c < 65536) :
    Calls Tryz.prog 128 #[.agg #[.int .u64 (g : Int), .bool p, .int .i64 (c : Int)]] w fun e w' => e = .returned (str (headL g p.toNat c)) ∧ Below w.heap.size w w' := by
  have N8 := fun W => number_any (g : Int) g 8 W rfl hg (by decide) (by simpa using hg) 8 rfl
  have N1 := fun W (h : p = false) => number_any 0 p.toNat 1 W (by rw [h]; rfl) (by cases p <;> decide) (by decide) (by cases p <;> decide) 1 rfl
  have N3 := fun W (h : p = true) => number_any 1 p.toNat 1 W (by rw [h]; rfl) (by cases p <;> decide) (by decide) (by cases p <;> decide) 1 rfl
  have N2 := fun W => number_any (c : Int) c 2 W rfl (by omega) (by decide) (by simpa using hc) 2 rfl
  have F := fun W => filled_any (leB 8 g ++ (leB 1 p.toNat ++ leB 2 c)) 49 60 W (by simp [leB_length]) (by simp [leB_length])
  have SE := fun W => sealAll_any (headT g p.toNat c) W (by rw [headT_length]; decide)
  rw [show leB 8 g ++ (leB 1 p.toNat ++ leB 2 c) ++ List.replicate 49 0 = headT g p.toNat c by simp [headT]] at F
  rw [show headT g p.toNat c ++ sealL (headT g p.toNat c) = headL g p.toNat c from rfl] at SE
  generalize headT g p.toNat c = T at F SE
  generalize headL g p.toNat c = L at SE ⊢
  have HN8 := Lib.hid N8
  have HN1 := Lib.hid N1
  have HN3 := Lib.hid N3
  have HN2 := Lib.hid N2
  have HF := Lib.hid F
  have HSE := Lib.hid SE
  clear N8 N1 N3 N2 F SE
  have hcu : IntKind.u64.wrap (c : Int) = c := u64_wrap _ (by omega) (by omega)
  have l8 : (leB 8 g).length = 8 := leB_length 8 g
  have l1 : (leB 1 p.toNat).length = 1 := leB_length 1 _
  have l2 : (leB 2 c).length = 2 := leB_length 2 c
  generalize hx : leB 8 g = x8 at HN8 HF l8
  generalize hz : leB 1 p.toNat = x1 at HN1 HN3 HF l1
  generalize hy : leB 2 c = x2 at HN2 HF l2
  have B := Lib.hid (Below.refl (w.alloc (.cells #[.int .u64 (g : Int), .bool p, .int .i64 (c : Int)] 125)).heap.size (w.alloc (.cells #[.int .u64 (g : Int), .bool p, .int .i64 (c : Int)] 125))).drew
  obtain ⟨d0, d1, d2⟩ := cells3 w _ _ _ _ B.out
  cases p
  all_goals
    first | have HNx := Lib.hid (fun W => HN1.out W rfl) | have HNx := Lib.hid (fun W => HN3.out W rfl)
    go_enter Tryz.func128, Tryz.ntmps128
    go_wp2_with fail
    go_region_held3 (fun W => W.cell? ⟨w.heap.size, 0, none⟩ = some (.int .u64 (g : Int)) ∧ W.cell? ⟨w.heap.size, 2, none⟩ = some (.int .i64 (c : Int)))
      (exact ⟨d0, d2⟩)
      (first | (go_at_call 140; ((first | (with_reducible refine (HN8.out _).mono ?_) | (with_reducible refine (HNx.out _).mono ?_) | (with_reducible refine (HN2.out _).mono ?_)); rintro e w4 ⟨rfl, hb⟩; have B := Lib.hid (chain B.out hb); obtain ⟨d0, d1, d2⟩ := cells3 w _ _ _ _ B.out)))
    go_wp2_with fail
    with_reducible refine (HF.out _).mono ?_
    rintro e w5 ⟨rfl, hb⟩
    have B := Lib.hid (chain B.out hb)
    go_wp2_with fail
    with_reducible refine (HSE.out _).mono ?_
    rintro e w6 ⟨rfl, hb⟩
    have B := Lib.hid (chain B.out hb)
    clear d0 d1 d2 hb
    go_wp2_with fail
    go_ret
    exact ⟨rfl, ((Below.refl _ _).alloc (Nat.le_refl _) _).trans (B.out.mono (by simp))⟩
set_option maxHeartbeats 1000000 in
theorem readHead_any (s : List UInt8) (w : World) (hs : s.length = 64) :
    Calls Tryz.prog 78 #[str s] w fun e w' => e = .returned (hdV (hd s)) ∧ Below w.heap.size w w' := by
  have hst : s = s.take 60 ++ s.drop 60 := (List.take_append_drop _ _).symm
  have ht : (s.take 60).length = 60 := by rw [List.length_take]; omega
  have hq : (s.drop 60).length = 4 := by rw [List.length_drop]; omega
  unfold hd
  generalize s.take 60 = t at *
  generalize s.drop 60 = q at *
  subst hst
  by_cases h : q = sealL t
  · subst h
    rw [if_pos rfl]
    have HO := Lib.hid (open_ok t (w.alloc (.cells #[.int .u64 0, .bool false, .int .i64 0] 125)) (by omega))
    have H1 := Lib.hid fun W => take_any t 8 W (by omega) (by decide) (by omega) 8 rfl
    have H2 := Lib.hid fun W => take_any (t.drop 8) 1 W (by rw [List.length_drop]; omega) (by decide) (by rw [List.length_drop]; omega) 1 rfl
    have H3 := Lib.hid fun W => take_any ((t.drop 8).drop 1) 2 W (by rw [List.length_drop, List.length_drop]; omega) (by decide) (by rw [List.length_drop, List.length_drop]; omega) 2 rfl
    have hc := leV_lt ((t.drop 9).take 2)
    have hc2 : ((t.drop 9).take 2).length ≤ 2 := by rw [List.length_take]; omega
    have hc3 : leV ((t.drop 9).take 2) < 65536 := Nat.lt_of_lt_of_le hc (Nat.le_trans (Nat.pow_le_pow_right (by omega) hc2) (by decide))
    clear hc hc2
    rw [List.drop_drop] at H3
    generalize leV ((t.drop 9).take 2) = c at H3 hc3
    have hc4 : ((c : Int)) < 65536 := by omega
    go_enter Tryz.func78, Tryz.ntmps78
    go_wp2_with fail
    refine HO.out.mono ?_
    rintro e w1 ⟨rfl, hb⟩
    have B := Lib.hid hb
    clear hb
    go_wp2_with fail
    refine (H1.out _).mono ?_
    rintro e w2 ⟨rfl, hb⟩
    have B := Lib.hid (chain B.out hb)
    clear hb
    go_wp2_with fail
    refine (H2.out _).mono ?_
    rintro e w3 ⟨rfl, hb⟩
    have B := Lib.hid (chain B.out hb)
    clear hb
    go_wp2_with fail
    refine (H3.out _).mono ?_
    rintro e w4 ⟨rfl, hb⟩
    have B := Lib.hid (chain B.out hb)
    clear hb
    obtain ⟨d0, d1, d2⟩ := cells3 w _ _ _ _ B.out
    obtain ⟨f0, f1, f2⟩ := frozen3 w _ _ _ _ B.out
    go_wp2_with fail
    have hB := B.out
    have hbx : (((leV ((t.drop 8).take 1) : Nat) : Int) == 1) = (leV ((t.drop 8).take 1) == 1) := by
      rw [Bool.eq_iff_iff, beq_iff_eq, beq_iff_eq]; omega
    rw [hbx]
    have hfin := set3 ((hB.block w.heap.size (by simp)).trans (heap_alloc_new w _)) (.int .u64 (leV (t.take 8) : Int)) (.bool (leV ((t.drop 8).take 1) == 1)) (.int .i64 (c : Int))
    refine bodyPost_ret (v := hdV ⟨leV (t.take 8), leV ((t.drop 8).take 1) == 1, c⟩) ?_ rfl ⟨rfl, ((((Below.refl _ _).alloc (Nat.le_refl _) _).trans (hB.mono (by simp))).setCell (Nat.le_refl _) _ |>.setCell (Nat.le_refl _) _).setCell (Nat.le_refl _) _⟩
    exact results_cell_row rfl _ _ w.heap.size 125 _ (0, 0) _ rfl hfin Tryz.underlying125 rfl (by kernel_rfl)
  · rw [if_neg h]
    have HO := Lib.hid (open_bad t q (w.alloc (.cells #[.int .u64 0, .bool false, .int .i64 0] 125)) (by omega) hq h)
    go_enter Tryz.func78, Tryz.ntmps78
    go_wp2_with fail
    refine HO.out.mono ?_
    rintro e w1 ⟨rfl, hb⟩
    have B := Lib.hid hb
    clear hb
    obtain ⟨d0, d1, d2⟩ := cells3 w _ _ _ _ B.out
    obtain ⟨f0, f1, f2⟩ := frozen3 w _ _ _ _ B.out
    go_wp2_with fail
    have hB := B.out
    have hfin := set3 ((hB.block w.heap.size (by simp)).trans (heap_alloc_new w _)) (.int .u64 0) (.bool false) (.int .i64 0)
    refine bodyPost_ret (v := hdV ⟨0, false, 0⟩) ?_ rfl ⟨rfl, ((((Below.refl _ _).alloc (Nat.le_refl _) _).trans (hB.mono (by simp))).setCell (Nat.le_refl _) _ |>.setCell (Nat.le_refl _) _).setCell (Nat.le_refl _) _⟩
    exact results_cell_row rfl _ _ w.heap.size 125 _ (0, 0) _ rfl hfin Tryz.underlying125 rfl (by kernel_rfl)
end Go.Proofs.YtdddennhdbmolaaGreat
/- Layer 4 (journal): rows of puts in memory. -/
namespace Go.Proofs.YtdddennhdbmolaaGreat
open Go.RowKit Go.Maps
set_option linter.unusedVariables false
set_option linter.unusedSimpArgs false
set_option maxRecDepth 10000
/-- Sectors that anybody may ask for, with their contents. -/
abbrev PutI := List (Int × List UInt8)
/-- Their cells. -/
def putC (l : PutI) : List Value := l.flatMap fun p => [.int .i64 p.1, str p.2]
theorem putC_length (l : PutI) : (putC l).length = l.length * 2 := by
  induction l with
  | nil => rfl
  | cons p r ih =>
    unfold putC at ih ⊢
    rw [List.flatMap_cons, List.length_append, ih, List.length_cons]
    simp only [List.length_cons, List.length_nil]
    omega
theorem putC_append (l m : PutI) : putC (l ++ m) = putC l ++ putC m := by simp [putC]
theorem putC_one (p : Int × List UInt8) : putC [p] = [.int .i64 p.1, str p.2] := by simp [putC]
theorem putC_at (l : PutI) (k : Nat) (h : k < l.length) : (putC l)[k * 2]? = some (.int .i64 l[k].1) ∧ (putC l)[k * 2 + 1]? = some (str l[k].2) := by
  induction l generalizing k with
  | nil => simp at h
  | cons p r ih =>
    have hc : putC (p :: r) = .int .i64 p.1 :: str p.2 :: putC r := by simp [putC]
    rw [hc]
    cases k with
    | zero => exact ⟨rfl, rfl⟩
    | succ k =>
      have := ih k (by simpa using h)
      rw [show (k + 1) * 2 = k * 2 + 1 + 1 by omega]
      simpa using this
/-- The slice v reads as l. -/
def Puts (W : World) (v : Value) (l : PutI) : Prop :=
  ∃ A c, v = .slice A l.length c ∧ ∀ j p, l[j]? = some p → ∃ a : Addr, A = some a ∧ W.cell? (a.add (j * 2)) = some (.int .i64 p.1) ∧ W.cell? (behind a (j * 2) 1) = some (str p.2)
theorem add_block (a : Addr) (k : Nat) : (a.add k).block = a.block := by unfold Addr.add; split <;> rfl
theorem Puts.kept {w W : World} {v : Value} {l : PutI} (h : Puts w v l) (hb : ∀ k, v.ownBlock = some k → W.heap[k]? = w.heap[k]?) : Puts W v l := by
  obtain ⟨A, c, rfl, hc⟩ := h
  refine ⟨A, c, rfl, fun j p hj => ?_⟩
  obtain ⟨a, rfl, h1, h2⟩ := hc j p hj
  have hk := hb a.block rfl
  refine ⟨a, rfl, ?_, ?_⟩
  · exact (World.cell?_of_block (a := a.add (j * 2)) (by rw [add_block]; exact hk)).trans h1
  · exact (World.cell?_of_block (a := behind a (j * 2) 1) (by show W.heap[(a.add (j * 2)).block]? = w.heap[(a.add (j * 2)).block]?; rw [add_block]; exact hk)).trans h2
theorem Puts.lt {w : World} {v : Value} {l : PutI} (h : Puts w v l) (hl : l ≠ []) (k : Nat) (hk : v.ownBlock = some k) : k < w.heap.size := by
  obtain ⟨A, c, rfl, hc⟩ := h
  obtain ⟨p, r, rfl⟩ := List.exists_cons_of_ne_nil hl
  obtain ⟨a, rfl, h1, _⟩ := hc 0 p rfl
  cases hk
  have := World.block_lt_of_cell? w _ h1
  rwa [add_block] at this
theorem Puts.below {w W : World} {v : Value} {l : PutI} (h : Puts w v l) (hb : Below w.heap.size w W) : Puts W v l := by
  by_cases hl : l = []
  · subst hl
    obtain ⟨A, c, rfl, hc⟩ := h
    exact ⟨A, c, rfl, fun j p hj => by simp at hj⟩
  · exact h.kept fun k hk => hb.block k (h.lt hl k hk)
/-- A row of the call's own. -/
abbrev OwnP (W : World) (base : Nat) (v : Value) (l : PutI) : Prop := W.ownsRow base 140 2 v l.length (putC l)
theorem OwnP.puts {W : World} {base : Nat} {v : Value} {l : PutI} (h : OwnP W base v l) : Puts W v l := by
  rcases h.2 with ⟨rfl, h0⟩ | ⟨g, cap, cur, hv, hrest⟩
  · exact ⟨none, 0, by rw [h0], fun j p hj => by rw [List.length_eq_zero_iff.1 h0] at hj; simp at hj⟩
  · refine ⟨some ⟨g, 0, none⟩, cap, hv, fun j p hj => ⟨_, rfl, ?_⟩⟩
    obtain ⟨hlt, rfl⟩ := List.getElem?_eq_some_iff.1 hj
    obtain ⟨h1, h2⟩ := putC_at l j hlt
    have hg : v.ownBlock = some g := by rw [hv]; rfl
    have c1 := h.cells hg _ _ h1
    have c2 := h.cells hg _ _ h2
    refine ⟨c1, ?_⟩
    rwa [behind_add _ _ _ (by decide)] at c2
/-- The builtin at puts, closed. -/
def putAppend (args : Array Value) : Sem Value := Builtin.append_ #[90, 90] 90 args
@[go_sem ↓] theorem put_append_fold (args : Array Value) : Builtin.append_ #[90, 90] 90 args = putAppend args := rfl
theorem putInfo : (Tryz.prog.info? 140).map (fun i => (i.zero, i.size, i.bytes)) = some (some (.agg #[.int .i64 0, str []]), 2, 24) := by kernel_rfl
/-- append(l, p). -/
theorem append_put (W : World) (base B : Nat) (v : Value) (l : PutI) (p : Int × List UInt8) (h : OwnP W base v l) (a c : Nat) (hc0 : W.cell? ⟨a, 0, none⟩ = some (.int .i64 p.1)) (hc1 : W.cell? ⟨a, 1, none⟩ = some (str p.2)) (hl : l.length ≤ 1048576) (hb : base ≤ W.heap.size)
    (hB : B ≤ W.heap.size) (hv : ∀ k, v.ownBlock = some k → B ≤ k) :
    ∃ v' W', (putAppend #[v, .slice (some ⟨a, 0, none⟩) 1 c]).run Tryz.prog W = .ok v' W' ∧ OwnP W' base v' (l ++ [p]) ∧ Below B W W' ∧ (∀ k, v'.ownBlock = some k → B ≤ k) ∧ W.grownBy W' v.ownBlock ∧ (v'.ownBlock = v.ownBlock ∨ v'.ownBlock = some W.heap.size) := by
  obtain ⟨i, hi, hz, hsz, hby⟩ := info_parts putInfo
  obtain ⟨v', W', hap, hown, hg, _, hor⟩ := run_append_own_at (P := Tryz.prog) (w := W) base 90 90 140 i _ 2 24 Tryz.underlying90 hi hz hsz hby rfl (by decide) v l.length (putC l) h
    ⟨a, 0, none⟩ 1 c [.int .i64 p.1, str p.2] rfl (fun j u hj => by
      rw [Addr.add_lit]
      match j, hj with
      | 0, hj => simp at hj; subst hj; exact hc0
      | 1, hj => simp at hj; subst hj; exact hc1) (fun u hu => by simp at hu; rcases hu with rfl | rfl <;> rfl) (by unfold maxLen; omega) (by omega) hb
  refine ⟨v', W', hap, ?_, (Below.refl B W).grown hg hB hv, fun k hk => ?_, hg, hor⟩
  · rw [← putC_one, ← putC_append] at hown
    show W'.ownsRow base 140 2 v' (l ++ [p]).length (putC (l ++ [p]))
    rw [List.length_append]
    exact hown
  · rcases hor with e | e
    · rw [e] at hk; exact hv k hk
    · rw [e] at hk; cases hk; exact hB
section
variable {P : Program} {t k e : TypeId} {W : World} {m n : Nat} {f : Nat → Option Value}
theorem IMap.look2 (h : IMap P k W m n f) (hk : P.underlying k = some (.int .i64)) (ht : P.underlying t = some (.map k e)) {z : Value} (hz : (zeroValue e).run P W = .ok z W) (hn : n ≤ 9223372036854775807) {i : Nat} (hi : i < n) :
    (Instr.lookup t (.map (some m)) (.int .i64 (i : Int)) true).run P W = .ok (.tuple #[(f i).getD z, .bool (f i).isSome]) W := by
  obtain ⟨D, h1, h2, h3⟩ := h
  obtain ⟨v, ps, hrun, hv⟩ := h1.look_ok (int_keyed hk) ht hz (zd := .held z) (zp := []) rfl (keyOf_int_mk hk (key_wf (i := i) (by omega)))
  rw [hrun]
  simp only [heldR, Option.some.injEq, Prod.mk.injEq] at hv
  cases hf : f i with
  | some u =>
    rw [h3 i u hi hf] at hv
    cases hv.1
    have : Maps.has D (.int .i64 (i : Int)) = true := (h2 _).2 ⟨i, hi, rfl, by rw [hf]; rfl⟩
    rw [this]; rfl
  | none =>
    have hh : Maps.has D (.int .i64 (i : Int)) = false := by
      cases hc : Maps.has D (.int .i64 (i : Int)) with
      | false => rfl
      | true =>
        obtain ⟨j, _, hj, hs⟩ := (h2 _).1 hc
        simp only [Lit.int.injEq, true_and] at hj
        obtain rfl : i = j := by omega
        rw [hf] at hs; cases hs
    rw [Maps.atKey_of_not_has hh] at hv
    cases hv.1
    rw [hh]; rfl
end
end Go.Proofs.YtdddennhdbmolaaGreat
/- Layer 4 (journal): each sector once. -/
namespace Go.Proofs.YtdddennhdbmolaaGreat
open Go.RowKit Go.Maps
set_option linter.unusedVariables false
set_option linter.unusedSimpArgs false
set_option maxRecDepth 10000
def castL (l : PutL) : PutI := l.map fun p => ((p.1 : Int), p.2)
theorem castL_length (l : PutL) : (castL l).length = l.length := by simp [castL]
theorem castL_at (l : PutL) (k : Nat) (h : k < l.length) : (castL l)[k]? = some ((l[k].1 : Int), l[k].2) := by simp [castL, h]
theorem castL_snoc (l : PutL) (p : Nat × List UInt8) : castL (l ++ [p]) = castL l ++ [((p.1 : Int), p.2)] := by simp [castL]
/-- Where a sector stands. -/
def posOf (acc : PutL) (i : Nat) : Option Value := if i ∈ acc.map (·.1) then some (.int .i64 ((acc.map (·.1)).idxOf i : Nat)) else none
theorem posOf_have (acc : PutL) (p : Nat × List UInt8) (h : p.1 ∈ acc.map (·.1)) : posOf (putIn acc p) = posOf acc := by
  unfold posOf
  have := putIn_keys acc p
  rw [if_pos h] at this
  rw [this]
theorem idx_new (l : List Nat) (a : Nat) (h : a ∉ l) : (l ++ [a]).idxOf a = l.length := by
  induction l with
  | nil => simp
  | cons b r ih =>
    have h1 : b ≠ a := fun e => h (by simp [e])
    rw [List.cons_append, List.idxOf_cons, show (b == a) = false by simpa using h1]
    simp only [List.length_cons, cond_false]
    rw [ih (fun hm => h (by simp [hm]))]
theorem idx_old (l : List Nat) (a i : Nat) (h : i ∈ l) : (l ++ [a]).idxOf i = l.idxOf i := by
  induction l with
  | nil => cases h
  | cons b r ih =>
    rw [List.cons_append, List.idxOf_cons, List.idxOf_cons]
    by_cases e : b = i
    · simp [e]
    · have e' : (b == i) = false := by simpa using e
      rw [e']
      simp only [cond_false, Bool.false_eq_true, if_false]
      rw [ih (by rcases List.mem_cons.1 h with h | h; exact absurd h.symm e; exact h)]
theorem posOf_new (acc : PutL) (p : Nat × List UInt8) (h : p.1 ∉ acc.map (·.1)) : posOf (putIn acc p) = upd (posOf acc) p.1 (some (.int .i64 (acc.length : Int))) := by
  have hk := putIn_keys acc p
  rw [if_neg h] at hk
  funext i
  unfold upd posOf
  rw [hk]
  by_cases e : i = p.1
  · subst e
    rw [if_pos (by simp), if_pos rfl, idx_new _ _ h]
    simp
  · rw [if_neg e]
    by_cases hm : i ∈ acc.map (·.1)
    · rw [if_pos (by simp only [List.mem_append]; exact .inl hm), idx_old _ _ _ hm]
      exact (if_pos hm).symm
    · rw [if_neg (by simp only [List.mem_append, List.mem_singleton]; rintro (h | h); exact hm h; exact e h)]
      exact (if_neg hm).symm
theorem idx_get (acc : PutL) (a : Nat) (h : a ∈ acc.map (·.1)) : ∃ hlt : (acc.map (·.1)).idxOf a < acc.length, (acc[(acc.map (·.1)).idxOf a]).1 = a := by
  induction acc with
  | nil => cases h
  | cons q r ih =>
    have hi : (((q :: r) : PutL).map (·.1)).idxOf a = if q.1 = a then 0 else (r.map (·.1)).idxOf a + 1 := by
      rw [List.map_cons, List.idxOf_cons]
      by_cases e : q.1 = a
      · simp [e]
      · rw [show (q.1 == a) = false by simpa using e, if_neg e]; rfl
    by_cases e : q.1 = a
    · rw [if_pos e] at hi
      refine ⟨by rw [hi]; simp, ?_⟩
      have : ∀ k (hk : k < (q :: r).length), k = 0 → ((q :: r)[k]).1 = a := by rintro k hk rfl; exact e
      exact this _ _ hi
    · rw [if_neg e] at hi
      rw [List.map_cons, List.mem_cons] at h
      obtain ⟨h1, h2⟩ := ih (by rcases h with h | h; exact absurd h.symm e; exact h)
      refine ⟨by rw [hi]; simpa using h1, ?_⟩
      have : ∀ k (hk : k < (q :: r).length), k = (r.map (·.1)).idxOf a + 1 → ((q :: r)[k]).1 = a := by rintro k hk rfl; exact h2
      exact this _ _ hi
theorem putIn_set (acc : PutL) (p : Nat × List UInt8) (hn : (acc.map (·.1)).Nodup) (h : p.1 ∈ acc.map (·.1)) : putIn acc p = acc.set ((acc.map (·.1)).idxOf p.1) p := by
  unfold putIn
  rw [if_pos h]
  obtain ⟨hlt, hat⟩ := idx_get acc p.1 h
  apply List.ext_getElem
  · simp
  · intro j h1 h2
    rw [List.getElem_map, List.getElem_set]
    by_cases e : (acc.map (·.1)).idxOf p.1 = j
    · subst e
      rw [if_pos hat, if_pos rfl]
    · rw [if_neg e]
      have hj : j < acc.length := by simpa using h1
      have hne : (acc[j]).1 ≠ p.1 := by
        intro e2
        have hp := List.pairwise_iff_getElem.1 (List.nodup_iff_pairwise_ne.1 hn)
        rcases Nat.lt_or_gt_of_ne e with h3 | h3
        · exact hp _ _ (by simpa using hlt) (by simpa using hj) h3 (by simp [hat, e2])
        · exact hp _ _ (by simpa using hj) (by simpa using hlt) h3 (by simp [hat, e2])
      rw [if_neg hne]
theorem putC_set (l : PutI) (k : Nat) (h : k < l.length) (p : Int × List UInt8) : ((putC l).set (k * 2) (.int .i64 p.1)).set (k * 2 + 1) (str p.2) = putC (l.set k p) := by
  induction l generalizing k with
  | nil => simp at h
  | cons q r ih =>
    have hc : ∀ (q : Int × List UInt8) r, putC (q :: r) = .int .i64 q.1 :: str q.2 :: putC r := fun q r => by simp [putC]
    rw [hc]
    cases k with
    | zero => rfl
    | succ k =>
      rw [List.set_cons_succ, hc, show (k + 1) * 2 = k * 2 + 1 + 1 by omega, ← ih k (by simpa using h)]
      rfl
theorem lastL_keys (l : PutL) (i : Nat) (h : i ∈ (lastL l).map (·.1)) : ∃ p ∈ l, p.1 = i := by
  obtain ⟨p, hp, rfl⟩ := List.mem_map.1 h
  exact ⟨p, lastL_mem l p hp, rfl⟩
theorem zeroInt (W : World) : (zeroValue 3).run Tryz.prog W = .ok (.int .i64 0) W := by kernel_rfl
end Go.Proofs.YtdddennhdbmolaaGreat
/- Layer 4 (journal): a journal in memory; what is refused. -/
namespace Go.Proofs.YtdddennhdbmolaaGreat
open Go.RowKit Go.Maps
set_option linter.unusedVariables false
set_option linter.unusedSimpArgs false
set_option maxRecDepth 10000
/-! Of a device. -/
theorem len_any (b g n c : Nat) (W : World) (h2 : W.cell? ⟨b, 2, none⟩ = some (.slice (some ⟨g, 0, none⟩) n c)) :
    Calls Tryz.prog 52 #[devp b] W fun e w' => e = .returned (.int .i64 (n : Int)) ∧ W = w' := by
  go_enter Tryz.func52, Tryz.ntmps52
  go_wp2
  go_ret
  exact ⟨rfl, rfl⟩
theorem durable_raw (b g c n i : Nat) (W : World) (s : List UInt8) (hs : s.length = 64) (hn : n ≤ 4096) (hi : i < n) (h2 : W.cell? ⟨b, 2, none⟩ = some (.slice (some ⟨g, 0, none⟩) n c)) (hd : W.rangeAt g (i * 64) (bc s)) :
    Calls Tryz.prog 77 #[devp b, .int .i64 (i : Int)] W fun e w' => e = .returned (.tuple #[str s, .int .i64 0]) ∧ W = w' := by
  have hcv : (convert 89 9 (.slice (some ⟨g, i * 64, none⟩) 64 64)).run Tryz.prog W = .ok (str s) W := by
    have := run_convert_bytes_back (P := Tryz.prog) W 89 9 5 ⟨g, i * 64, none⟩ 64 s Tryz.underlying89 Tryz.underlying5 Tryz.underlying9 fun j hj => by
      rw [Addr.add_lit]
      exact hd j _ (by simp [hj])
    rwa [hs] at this
  have hi2 : (i : Int) < (n : Int) := by omega
  go_enter Tryz.func77, Tryz.ntmps77
  go_wp2_with fail
  refine (has_yes b g c n i W hn hi h2).mono ?_
  rintro e w1 ⟨rfl, rfl⟩
  go_wp2_with fail
  go_ret2
  exact ⟨rfl, rfl⟩
section
variable {K : Nat → Prop} {w W : World} {b : Nat} {M : Dv}
theorem held_len (h : Held K w W b M) : Calls Tryz.prog 52 #[devp b] W fun e w' => e = .returned (.int .i64 (M.n : Int)) ∧ W = w' := by
  obtain ⟨h1, S, ⟨g, c, m, vals, hI⟩, h4⟩ := h
  exact len_any b g _ c W hI.head.c2
theorem held_durable (h : Held K w W b M) (i : Nat) (hi : i < M.n) : Calls Tryz.prog 77 #[devp b, .int .i64 (i : Int)] W fun e w' => e = .returned (.tuple #[str (M.dur i), .int .i64 0]) ∧ W = w' := by
  obtain ⟨h1, S, ⟨g, c, m, vals, hI⟩, h4⟩ := h
  exact durable_raw b g c M.n i W _ (hI.fine.dur i hi) hI.fine.n hi hI.head.c2 (hI.du.at_ i hi)
end
/-! A journal. -/
structure JAt (W : World) (jb b : Nat) (F n rec : Nat) : Prop where
  c0 : W.cell? ⟨jb, 0, none⟩ = some (devp b)
  c1 : W.cell? ⟨jb, 1, none⟩ = some (.int .i64 (F : Int))
  c2 : W.cell? ⟨jb, 2, none⟩ = some (.int .i64 (n : Int))
  c3 : W.cell? ⟨jb, 3, none⟩ = some (.int .i64 (rec : Int))
theorem JAt.kept {w W : World} {jb b F n rec : Nat} (h : JAt w jb b F n rec) (hb : W.heap[jb]? = w.heap[jb]?) : JAt W jb b F n rec :=
  ⟨(cell_same 0 hb).trans h.c0, (cell_same 1 hb).trans h.c1, (cell_same 2 hb).trans h.c2, (cell_same 3 hb).trans h.c3⟩
theorem JAt.lt {w : World} {jb b F n rec : Nat} (h : JAt w jb b F n rec) : jb < w.heap.size := World.block_lt_of_cell? w _ h.c0
theorem JAt.below {w W : World} {jb b F n rec : Nat} (h : JAt w jb b F n rec) (hb : Below w.heap.size w W) : JAt W jb b F n rec := h.kept (hb.block jb h.lt)
/-- How many sectors a transaction has at most. -/
def capL (n : Nat) : Nat := (n - 1) - ((n - 1) + 32) / 33
theorem max_any (jb b F n rec : Nat) (W : World) (h : JAt W jb b F n rec) (h4 : 4 ≤ n) (h256 : n ≤ 256) :
    Calls Tryz.prog 79 #[devp jb] W fun e w' => e = .returned (.int .i64 (capL n : Int)) ∧ W = w' := by
  have c2 := h.c2
  have hp := parts_any (n - 1) 33 W (by omega) (by decide) (by decide)
  have hi : ((n - 1 : Nat) : Int) = (n : Int) - 1 := by omega
  rw [hi] at hp
  have hq : (n : Int) - 1 + ((33 : Nat) : Int) - 1 = (n : Int) - 1 + 32 := by omega
  rw [hq] at hp
  have HP := Lib.hid hp
  clear h hi hq hp
  go_enter Tryz.func79, Tryz.ntmps79
  go_wp2_with fail
  refine HP.out.mono ?_
  rintro e w1 ⟨rfl, rfl⟩
  clear HP
  go_wp2_with fail
  go_ret
  refine ⟨congrArg (fun x => Ending.returned (.int .i64 x)) ?_, rfl⟩
  unfold capL
  omega
/-- What is no sector of n, or no sector's contents. -/
def wrongB (n : Nat) (p : Int × List UInt8) : Bool := decide (p.1 < 0) || (decide ((n : Int) ≤ p.1) || (p.2.length != 64))
def withinB (F n : Nat) (p : Int × List UInt8) : Bool := decide ((F : Int) ≤ p.1) && decide (p.1 < (F : Int) + (n : Int))
def putV (p : Int × List UInt8) : Value := .agg #[.int .i64 p.1, str p.2]
theorem cells2 (w : World) (a b : Value) (t : TypeId) : (w.alloc (.cells #[a, b] t)).cell? ⟨w.heap.size, 0, none⟩ = some a ∧ (w.alloc (.cells #[a, b] t)).cell? ⟨w.heap.size, 1, none⟩ = some b := by
  have h := heap_alloc_new w (.cells #[a, b] t)
  refine ⟨?_, ?_⟩ <;> (unfold World.cell?; rw [h]; rfl)
set_option maxHeartbeats 1000000 in
theorem within_any (jb b F n rec : Nat) (s : Int) (d : List UInt8) (W : World) (h : JAt W jb b F n rec) (hF : F ≤ 4096) (hn : n ≤ 4096) :
    Calls Tryz.prog 107 #[devp jb, .agg #[.int .i64 s, str d]] W fun e w' => e = .returned (.bool (withinB F n (s, d))) ∧ Below W.heap.size W w' := by
  obtain ⟨k0, k1⟩ := cells2 W (.int .i64 s) (str d) 140
  have hJ := h.below ((Below.refl _ _).alloc (Nat.le_refl _) (.cells #[.int .i64 s, str d] 140))
  have j1 := hJ.c1
  have j2 := hJ.c2
  clear hJ h
  unfold withinB
  simp only
  have hB : Below W.heap.size W (W.alloc (.cells #[.int .i64 s, str d] 140)) := (Below.refl _ _).alloc (Nat.le_refl _) _
  by_cases h1 : (F : Int) ≤ s
  · by_cases h2 : s < (F : Int) + (n : Int)
    · rw [decide_eq_true h1, decide_eq_true h2]
      go_enter Tryz.func107, Tryz.ntmps107
      go_wp2
      go_quiet (fail)
      go_wp2
      go_ret
      exact ⟨rfl, below_drewN hB _⟩
    · rw [decide_eq_true h1, decide_eq_false h2]
      have h3 : decide (s < (F : Int) + (n : Int)) = false := decide_eq_false h2
      go_enter Tryz.func107, Tryz.ntmps107
      go_wp2
      go_quiet (fail)
      go_wp2
      go_ret
      exact ⟨rfl, below_drewN hB _⟩
  · rw [decide_eq_false h1]
    have h3 : decide ((F : Int) ≤ s) = false := decide_eq_false h1
    go_enter Tryz.func107, Tryz.ntmps107
    go_wp2
    go_quiet (fail)
    go_wp2
    go_ret
    exact ⟨rfl, below_drewN hB _⟩
set_option maxHeartbeats 1000000 in
theorem wrong_any (jb b F n rec g N c : Nat) (s : Int) (d : List UInt8) (W : World) (h : JAt W jb b F n rec) (h2 : W.cell? ⟨b, 2, none⟩ = some (.slice (some ⟨g, 0, none⟩) N c)) (hN : N ≤ 4096) (hd : d.length ≤ 140737488351232) :
    Calls Tryz.prog 106 #[devp jb, .agg #[.int .i64 s, str d]] W fun e w' => e = .returned (.bool (wrongB N (s, d))) ∧ Below W.heap.size W w' := by
  obtain ⟨k0, k1⟩ := cells2 W (.int .i64 s) (str d) 140
  have hB : Below W.heap.size W (W.alloc (.cells #[.int .i64 s, str d] 140)) := (Below.refl _ _).alloc (Nat.le_refl _) _
  have hJ := h.below hB
  have j0 := hJ.c0
  have hd2 := (hB.cell (World.block_lt_of_cell? W _ h2)).trans h2
  have HL := Lib.hid fun m => len_any b g N c ((W.alloc (.cells #[.int .i64 s, str d] 140)).drewN m) hd2
  clear hJ h h2
  unfold wrongB
  simp only
  by_cases h1 : s < 0
  · rw [decide_eq_true h1]
    go_enter Tryz.func106, Tryz.ntmps106
    go_wp2
    go_quiet (fail)
    go_wp2
    go_ret
    exact ⟨rfl, below_drewN hB _⟩
  · rw [decide_eq_false h1]
    have h0 : decide (s < 0) = false := decide_eq_false h1
    by_cases h3 : (N : Int) ≤ s
    · rw [decide_eq_true h3]
      go_enter Tryz.func106, Tryz.ntmps106
      go_wp2
      go_quiet (first | (go_at_call 52; refine Calls.quiet_of_same ((HL.out _).mono fun _ _ h => ⟨h.1, h.2.symm⟩)))
      go_wp2
      go_ret
      exact ⟨rfl, below_drewN hB _⟩
    · rw [decide_eq_false h3]
      have h4 : decide ((N : Int) ≤ s) = false := decide_eq_false h3
      by_cases h5 : d.length = 64
      · have hx : (d.length != 64) = false := by simp [h5]
        have hy : ((d.length : Int) != 64) = false := by simp; omega
        rw [hx]
        go_enter Tryz.func106, Tryz.ntmps106
        go_wp2
        go_quiet (first | (go_at_call 52; refine Calls.quiet_of_same ((HL.out _).mono fun _ _ h => ⟨h.1, h.2.symm⟩)))
        go_wp2
        go_ret
        exact ⟨rfl, below_drewN hB _⟩
      · have hx : (d.length != 64) = true := by simp [h5]
        have hy : ((d.length : Int) != 64) = true := by simp; omega
        rw [hx]
        go_enter Tryz.func106, Tryz.ntmps106
        go_wp2
        go_quiet (first | (go_at_call 52; refine Calls.quiet_of_same ((HL.out _).mono fun _ _ h => ⟨h.1, h.2.symm⟩)))
        go_wp2
        go_ret
        exact ⟨rfl, below_drewN hB _⟩
end Go.Proofs.YtdddennhdbmolaaGreat
/- Layer 4 (journal): what is refused. -/
namespace Go.Proofs.YtdddennhdbmolaaGreat
open Go.RowKit Go.Maps
set_option linter.unusedVariables false
set_option linter.unusedSimpArgs false
set_option maxRecDepth 10000
set_option maxHeartbeats 1000000 in
theorem index_any (fn jb : Nat) (B : Int × List UInt8 → Bool) (v : Value) (l : PutI) (w : World) (h : Puts w v l) (hl : l.length ≤ maxLen) (eg : ∀ args w, (callFunc fn args).run Tryz.prog w = .ok (.enter fn args) w)
    (hf : ∀ p ∈ l, ∀ W, Below w.heap.size w W → Calls Tryz.prog fn #[devp jb, .agg #[.int .i64 p.1, str p.2]] W fun e w' => e = .returned (.bool (B p)) ∧ Below W.heap.size W w') :
    Calls Tryz.prog 124 #[v, .func (.func fn) #[devp jb] #[]] w fun e w' => ∃ i : Int, e = .returned (.int .i64 i) ∧ decide (0 ≤ i) = l.any B ∧ Below w.heap.size w w' := by
  unfold maxLen at hl
  obtain ⟨A, c, rfl, hc⟩ := h
  have HC := Lib.hid hc
  have HF := Lib.hid hf
  clear hc hf
  go_enter Tryz.func124, Tryz.ntmps124
  go_wp2_with fail
  go_loopw [8] (fun i wr => ∃ k : Nat, k ≤ l.length ∧ i = .int .i64 k ∧ (l.take k).any B = false ∧ Below w.heap.size w wr) (fun i _ => l.length - (intOf i).toNat)
  case atStart => exact ⟨0, Nat.zero_le _, rfl, by simp, Below.refl _ _⟩
  case round =>
    obtain ⟨k, hk, rfl, hany, hb⟩ := hrel
    have HA := Lib.hid hany
    clear hany
    by_cases hlt : k < l.length
    · obtain ⟨a, rfl, h1, h2⟩ := HC.out k _ (List.getElem?_eq_getElem hlt)
      have hcall := HF.out l[k] (List.getElem_mem _)
      have hts : (l.take (k + 1)).any B = B l[k] := by rw [List.take_succ_eq_append_getElem hlt, List.any_append, HA.out]; simp
      have hall : B l[k] = true → l.any B = true := fun e => List.any_eq_true.2 ⟨l[k], List.getElem_mem _, e⟩
      have HT := Lib.hid hts
      have HL := Lib.hid hall
      clear hts hall
      unfold behind at h2
      have hd1 := (hb.cell (World.block_lt_of_cell? w _ h1)).trans h1
      have hd2 := (hb.cell (World.block_lt_of_cell? w _ h2)).trans h2
      clear h1 h2
      generalize l[k] = p at hd1 hd2 hcall HT HL
      have hI : (k : Int) < (l.length : Int) := by omega
      go_wp2_with fail
      refine (hcall _ hb).mono ?_
      rintro e w1 ⟨rfl, hb1⟩
      have HB := Lib.hid (hb.trans (hb1.mono hb.size))
      clear hcall
      cases hp : B p
      · go_wp2_with fail
        go_roundw
        case rel => exact ⟨k + 1, by omega, by simp, by rw [HT.out, hp], HB.out⟩
        case measure => simp [intOf]; omega
      · go_wp2_with fail
        go_ret
        exact ⟨_, rfl, by rw [HL.out hp]; simp, HB.out⟩
    · obtain rfl : k = l.length := by omega
      go_wp2_with fail
      go_ret
      refine ⟨_, rfl, ?_, hb⟩
      have := HA.out
      rw [List.take_length] at this
      rw [this]; rfl
set_option maxHeartbeats 1000000 in
theorem contains_any (fn jb : Nat) (B : Int × List UInt8 → Bool) (v : Value) (l : PutI) (w : World) (h : Puts w v l) (hl : l.length ≤ maxLen) (eg : ∀ args w, (callFunc fn args).run Tryz.prog w = .ok (.enter fn args) w)
    (hf : ∀ p ∈ l, ∀ W, Below w.heap.size w W → Calls Tryz.prog fn #[devp jb, .agg #[.int .i64 p.1, str p.2]] W fun e w' => e = .returned (.bool (B p)) ∧ Below W.heap.size W w') :
    Calls Tryz.prog 105 #[v, .func (.func fn) #[devp jb] #[]] w fun e w' => e = .returned (.bool (l.any B)) ∧ Below w.heap.size w w' := by
  have HI := Lib.hid (index_any fn jb B v l w h hl eg hf)
  obtain ⟨A, c, rfl, -⟩ := h
  clear hf
  go_enter Tryz.func105, Tryz.ntmps105
  go_wp2_with fail
  refine HI.out.mono ?_
  rintro e w1 ⟨i, rfl, hi, hb⟩
  go_wp2_with fail
  go_ret
  exact ⟨by rw [← hi]; rfl, hb⟩
/-- Why a transaction is refused, whatever the device does. -/
def whyL (N F n : Nat) (l : PutI) : Int := if l.any (wrongB N) then 2 else if l.any (withinB F n) then 40 else if capL n < l.length then 4 else 0
/-- What a journal leans on: its device's head, as far as its size goes. -/
structure JOn (W : World) (jb b F n rec N : Nat) : Prop where
  j : JAt W jb b F n rec
  sec : ∃ g c, W.cell? ⟨b, 2, none⟩ = some (.slice (some ⟨g, 0, none⟩) N c)
theorem JOn.below {w W : World} {jb b F n rec N : Nat} (h : JOn w jb b F n rec N) (hb : Below w.heap.size w W) : JOn W jb b F n rec N := by
  obtain ⟨hj, g, c, hc⟩ := h
  exact ⟨hj.below hb, g, c, (hb.cell (World.block_lt_of_cell? w _ hc)).trans hc⟩
theorem JOn.of {K : Nat → Prop} {w W : World} {jb b F n rec : Nat} {M : Dv} (h : Held K w W b M) (hj : JAt W jb b F n rec) : JOn W jb b F n rec M.n := by
  obtain ⟨h1, S, ⟨g, c, m, vals, hI⟩, h4⟩ := h
  exact ⟨hj, g, c, hI.head.c2⟩
set_option maxHeartbeats 1000000 in
theorem refusal_any (jb b F n rec N : Nat) (v : Value) (l : PutI) (w : World) (hJ : JOn w jb b F n rec N) (h : Puts w v l) (hl : l.length ≤ maxLen) (hd : ∀ p ∈ l, p.2.length ≤ 140737488351232)
    (hF : F ≤ 4096) (h4 : 4 ≤ n) (h256 : n ≤ 256) (hN : N ≤ 4096) :
    Calls Tryz.prog 82 #[devp jb, v] w fun e w' => e = .returned (.int .i64 (whyL N F n l)) ∧ Below w.heap.size w w' := by
  have H1 := Lib.hid (contains_any 106 jb (wrongB N) v l w h hl (enters_of Tryz.func106 (by kernel_rfl) rfl) fun p hp W hb => by
    obtain ⟨hj, g, c, hc⟩ := hJ.below hb
    exact wrong_any jb b F n rec g N c p.1 p.2 W hj hc hN (hd p hp))
  have H2 := Lib.hid fun W (hb0 : Below w.heap.size w W) => contains_any 107 jb (withinB F n) v l W (h.below hb0) hl (enters_of Tryz.func107 (by kernel_rfl) rfl) fun p hp W' hb => within_any jb b F n rec p.1 p.2 W' ((hJ.j.below hb0).below hb) hF (by omega)
  have H3 := Lib.hid fun W (hb0 : Below w.heap.size w W) => max_any jb b F n rec W (hJ.j.below hb0) h4 h256
  obtain ⟨A, c, rfl, -⟩ := h
  have hc : capL n ≤ 256 := by unfold capL; omega
  unfold maxLen at hl
  clear hJ
  generalize hW : whyL N F n l = r
  have HW := Lib.hid hW
  clear hW
  generalize hq : capL n = q at *
  have HQ := Lib.hid hq
  clear hq
  go_enter Tryz.func82, Tryz.ntmps82
  go_wp2_with fail
  refine H1.out.mono ?_
  rintro e w1 ⟨rfl, hb1⟩
  cases ha : l.any (wrongB N)
  · go_wp2_with fail
    refine (H2.out _ hb1).mono ?_
    rintro e w2 ⟨rfl, hb2⟩
    have HB2 := Lib.hid (hb1.trans (hb2.mono hb1.size))
    cases hw : l.any (withinB F n)
    · go_wp2_with fail
      refine (H3.out _ HB2.out).mono ?_
      rintro e w3 ⟨rfl, rfl⟩
      by_cases hlt : q < l.length
      · have hI : (q : Int) < (l.length : Int) := by omega
        go_wp2_with fail
        go_ret
        exact ⟨by rw [← HW.out]; simp [whyL, ha, hw, hlt, HQ.out], HB2.out⟩
      · have hI : decide ((q : Int) < (l.length : Int)) = false := decide_eq_false (by omega)
        go_wp2_with fail
        go_ret
        exact ⟨by rw [← HW.out]; simp [whyL, ha, hw, hlt, HQ.out], HB2.out⟩
    · go_wp2_with fail
      go_ret
      exact ⟨by rw [← HW.out]; simp [whyL, ha, hw], HB2.out⟩
  · go_wp2_with fail
    go_ret
    exact ⟨by rw [← HW.out]; simp [whyL, ha], hb1⟩
end Go.Proofs.YtdddennhdbmolaaGreat
/- Layer 4 (journal): what is written in each step. -/
namespace Go.Proofs.YtdddennhdbmolaaGreat
open Go.RowKit Go.Maps
set_option linter.unusedVariables false
set_option linter.unusedSimpArgs false
set_option maxRecDepth 10000
/-- What the area's head is, whether the device works or not. -/
def Dv.headOf (M : Dv) (F : Nat) : Hd := hd (if M.down then M.dur F else M.cur F)
theorem JAt.up {w W : World} {jb b F n rec : Nat} (h : JAt w jb b F n rec) (hb : Below w.heap.size w W) : W.cell? ⟨jb, 0, none⟩ = some (devp b) ∧ W.cell? ⟨jb, 1, none⟩ = some (.int .i64 (F : Int)) :=
  ⟨(h.below hb).c0, (h.below hb).c1⟩
theorem row3 {W : World} {g : Nat} {a b c : Value} {t : TypeId} (h : W.heap[g]? = some (.cells #[a, b, c] t (0, 0))) : W.cell? ⟨g, 0, none⟩ = some a ∧ W.cell? ⟨g, 1, none⟩ = some b ∧ W.cell? ⟨g, 2, none⟩ = some c := by
  refine ⟨?_, ?_, ?_⟩ <;> (unfold World.cell?; rw [h]; rfl)
theorem frz3 {W : World} {g : Nat} {a b c : Value} {t : TypeId} (h : W.heap[g]? = some (.cells #[a, b, c] t (0, 0))) : W.frozen? ⟨g, 0, none⟩ = false ∧ W.frozen? ⟨g, 1, none⟩ = false ∧ W.frozen? ⟨g, 2, none⟩ = false :=
  ⟨frozen_of_row W _ 0 _ t h, frozen_of_row W _ 1 _ t h, frozen_of_row W _ 2 _ t h⟩
set_option maxHeartbeats 1000000 in
theorem head_any {S : Nat → Prop} {W : World} {b : Nat} {M : Dv} (jb F n rec : Nat) (h : DevAt S W b M) (hj : JAt W jb b F n rec) (hF : F < M.n) (hw : M.wr ≤ 1099511627776) :
    Calls Tryz.prog 54 #[devp jb] W fun e w' => e = .returned (hdV (M.headOf F)) ∧ Below W.heap.size W w' := by
  have hf := h.fine
  obtain ⟨V, hV⟩ : ∃ V, V = W.alloc (.cells #[.int .u64 0, .bool false, .int .i64 0] 125) := ⟨_, rfl⟩
  have hVb : Below W.heap.size W V := by rw [hV]; exact (Below.refl _ _).alloc (Nat.le_refl _) _
  have hVs : V.heap.size = W.heap.size + 1 := by rw [hV]; simp
  have hnew : V.heap[W.heap.size]? = some (.cells #[.int .u64 0, .bool false, .int .i64 0] 125 (0, 0)) := by rw [hV]; exact heap_alloc_new W _
  unfold Dv.headOf
  cases hdn : M.down
  · have hR := Lib.hid fun W' (hb : Below W.heap.size W W') => read_any (h.below hb) hdn hw F hF
    have hlen := hf.cur hF
    have H2 := Lib.hid fun W' => readHead_any (M.cur F) W' hlen
    have HJ := Lib.hid hj
    clear h hf hj hlen
    rw [if_neg (by simp)]
    generalize M.cur F = s at *
    have B := Lib.hid ((Below.refl V.heap.size V).drew)
    obtain ⟨d0, d1⟩ := HJ.out.up (hVb.trans (B.out.mono (by omega)))
    go_enter Tryz.func54, Tryz.ntmps54
    go_wp2_with fail
    rw [← hV]
    clear hV
    go_region_held3 (fun W' => W'.cell? ⟨jb, 0, none⟩ = some (devp b) ∧ W'.cell? ⟨jb, 1, none⟩ = some (.int .i64 (F : Int)))
      (exact ⟨d0, d1⟩)
      (first | (go_at_call 69; ((with_reducible refine (hR.out _ (hVb.trans (B.out.mono (by omega)))).mono ?_); rintro e w4 ⟨rfl, hb⟩; have B := Lib.hid (chain B.out hb); obtain ⟨d0, d1⟩ := HJ.out.up (hVb.trans (B.out.mono (by omega))))))
    clear d0 d1
    go_wp2_with fail
    with_reducible refine (H2.out _).mono ?_
    rintro e w5 ⟨rfl, hb⟩
    have B := Lib.hid (chain B.out hb)
    clear hb
    have hrow := (B.out.block W.heap.size (by omega)).trans hnew
    obtain ⟨x0, x1, x2⟩ := row3 hrow
    obtain ⟨f0, f1, f2⟩ := frz3 hrow
    unfold hdV
    go_wp2_with fail
    have hfin := set3 hrow (.int .u64 ((hd s).gen : Int)) (.bool (hd s).pend) (.int .i64 ((hd s).cnt : Int))
    refine bodyPost_ret (v := hdV (hd s)) ?_ rfl ⟨rfl, (((hVb.trans (B.out.mono (by omega))).setCell (Nat.le_refl _) _).setCell (Nat.le_refl _) _).setCell (Nat.le_refl _) _⟩
    exact results_cell_row rfl _ _ W.heap.size 125 _ (0, 0) _ rfl hfin Tryz.underlying125 rfl (by kernel_rfl)
  · have hR := Lib.hid fun W' (hb : Below W.heap.size W W') => read_down b (.int .i64 (F : Int)) W' ((h.below hb).down_cell hdn)
    have hD := Lib.hid fun W' (hb : Below W.heap.size W W') => (show Calls Tryz.prog 77 #[devp b, .int .i64 (F : Int)] W' fun e w' => e = .returned (.tuple #[str (M.dur F), .int .i64 0]) ∧ W' = w' by
      obtain ⟨g, c, m, vals, hI⟩ := h.below hb
      exact durable_raw b g c M.n F W' _ (hI.fine.dur F hF) hI.fine.n hF hI.head.c2 (hI.du.at_ F hF))
    have hlen := hf.dur F hF
    have H2 := Lib.hid fun W' => readHead_any (M.dur F) W' hlen
    have HJ := Lib.hid hj
    clear h hf hj hlen
    rw [if_pos rfl]
    generalize M.dur F = s at *
    have B := Lib.hid ((Below.refl V.heap.size V).drew)
    obtain ⟨d0, d1⟩ := HJ.out.up (hVb.trans (B.out.mono (by omega)))
    go_enter Tryz.func54, Tryz.ntmps54
    go_wp2_with fail
    rw [← hV]
    clear hV
    go_region_held3 (fun W' => W'.cell? ⟨jb, 0, none⟩ = some (devp b) ∧ W'.cell? ⟨jb, 1, none⟩ = some (.int .i64 (F : Int)))
      (exact ⟨d0, d1⟩)
      (first | (go_at_call 69; ((with_reducible refine (hR.out _ (hVb.trans (B.out.mono (by omega)))).mono ?_); rintro e w4 ⟨rfl, rfl⟩)))
    go_wp2_with fail
    have B := Lib.hid (Below.drew B.out)
    obtain ⟨d0, d1⟩ := HJ.out.up (hVb.trans (B.out.mono (by omega)))
    go_region_held3 (fun W' => W'.cell? ⟨jb, 0, none⟩ = some (devp b) ∧ W'.cell? ⟨jb, 1, none⟩ = some (.int .i64 (F : Int)))
      (exact ⟨d0, d1⟩)
      (first | (go_at_call 77; ((with_reducible refine (hD.out _ (hVb.trans (B.out.mono (by omega)))).mono ?_); rintro e w4 ⟨rfl, rfl⟩)))
    clear d0 d1
    go_wp2_with fail
    with_reducible refine (H2.out _).mono ?_
    rintro e w5 ⟨rfl, hb⟩
    have B := Lib.hid (chain B.out hb)
    clear hb
    have hrow := (B.out.block W.heap.size (by omega)).trans hnew
    obtain ⟨x0, x1, x2⟩ := row3 hrow
    obtain ⟨f0, f1, f2⟩ := frz3 hrow
    unfold hdV
    go_wp2_with fail
    have hfin := set3 hrow (.int .u64 ((hd s).gen : Int)) (.bool (hd s).pend) (.int .i64 ((hd s).cnt : Int))
    refine bodyPost_ret (v := hdV (hd s)) ?_ rfl ⟨rfl, (((hVb.trans (B.out.mono (by omega))).setCell (Nat.le_refl _) _).setCell (Nat.le_refl _) _).setCell (Nat.le_refl _) _⟩
    exact results_cell_row rfl _ _ W.heap.size 125 _ (0, 0) _ rfl hfin Tryz.underlying125 rfl (by kernel_rfl)
/-- A transaction as a value. -/
abbrev txV (g : Nat) (v : Value) : Value := .agg #[.int .u64 (g : Int), v]
/-- A slice in blocks of its own. -/
def Fresh (w w' : World) (v : Value) : Prop := ∀ k, v.ownBlock = some k → w.heap.size ≤ k ∧ k < w'.heap.size
theorem puts_lit (w : World) (s : Int) (d : List UInt8) : Puts (w.alloc (.cells #[.int .i64 s, str d] 140)) (.slice (some ⟨w.heap.size, 0, none⟩) 1 1) [(s, d)] := by
  obtain ⟨c0, c1⟩ := cells2 w (.int .i64 s) (str d) 140
  refine ⟨_, 1, rfl, fun j p hj => ⟨_, rfl, ?_⟩⟩
  match j, hj with
  | 0, hj =>
    simp at hj
    subst hj
    exact ⟨c0, c1⟩
theorem up1 {w : World} {o : Obj} {q : Addr} {v : Value} (h : w.cell? q = some v) : (w.alloc o).cell? q = some v := by
  rw [World.cell?_alloc_lt _ _ _ (World.block_lt_of_cell? w _ h)]
  exact h
set_option maxHeartbeats 1000000 in
theorem tell_any {W : World} (jb b F n rec g c : Nat) (p : Bool) (hj : JAt W jb b F n rec) (hg : g < 18446744073709551616) (hc : c < 65536) :
    Calls Tryz.prog 111 #[devp jb, .agg #[.int .u64 (g : Int), .bool p, .int .i64 (c : Int)]] W fun e w' => ∃ v, e = .returned v ∧ Puts w' v [((F : Int), headL g p.toNat c)] ∧ Fresh W w' v ∧ Below W.heap.size W w' := by
  obtain ⟨V, hV⟩ : ∃ V, V = W.alloc (.cells #[.int .u64 (g : Int), .bool p, .int .i64 (c : Int)] 125) := ⟨_, rfl⟩
  have hVb : Below W.heap.size W V := by rw [hV]; exact (Below.refl _ _).alloc (Nat.le_refl _) _
  have hVs : V.heap.size = W.heap.size + 1 := by rw [hV]; simp
  have hnew : V.heap[W.heap.size]? = some (.cells #[.int .u64 (g : Int), .bool p, .int .i64 (c : Int)] 125 (0, 0)) := by rw [hV]; exact heap_alloc_new W _
  have HS := Lib.hid fun W' => headSec_any g c p W' hg hc
  have HJ := Lib.hid hj
  generalize headL g p.toNat c = s at *
  clear hj
  have B := Lib.hid ((Below.refl V.heap.size V).drew)
  obtain ⟨d0, d1⟩ := HJ.out.up (hVb.trans (B.out.mono (by omega)))
  obtain ⟨x0, x1, x2⟩ := row3 ((B.out.block W.heap.size (by omega)).trans hnew)
  go_enter Tryz.func111, Tryz.ntmps111
  go_wp2_with fail
  rw [← hV]
  clear hV
  go_region_held3 (fun W' => W'.cell? ⟨jb, 0, none⟩ = some (devp b) ∧ W'.cell? ⟨jb, 1, none⟩ = some (.int .i64 (F : Int)) ∧ W'.cell? ⟨W.heap.size, 0, none⟩ = some (.int .u64 (g : Int)) ∧ W'.cell? ⟨W.heap.size, 1, none⟩ = some (.bool p) ∧ W'.cell? ⟨W.heap.size, 2, none⟩ = some (.int .i64 (c : Int)))
    (first | exact ⟨d0, d1, x0, x1, x2⟩ | exact ⟨up1 d0, up1 d1, up1 x0, up1 x1, up1 x2⟩)
    (first | (go_at_call 128; ((with_reducible refine (HS.out _).mono ?_); rintro e w4 ⟨rfl, hb⟩; have B := Lib.hid (chain B.out hb); obtain ⟨d0, d1⟩ := HJ.out.up (hVb.trans (B.out.mono (by omega))); obtain ⟨x0, x1, x2⟩ := row3 ((B.out.block W.heap.size (by omega)).trans hnew))))
  go_wp2_with fail
  go_ret
  have hB := hVb.trans (B.out.mono (by omega))
  exact ⟨_, rfl, puts_lit _ _ _, (fun k hk => by cases hk; exact ⟨by have := hB.size; omega, by simp⟩), hB.alloc hB.size _⟩
theorem txV_box {W : World} (g : Nat) (v : Value) (t : TypeId) : (W.alloc (.cells #[.int .u64 (g : Int), v] t)).cell? ⟨W.heap.size, 0, none⟩ = some (.int .u64 (g : Int)) ∧ (W.alloc (.cells #[.int .u64 (g : Int), v] t)).cell? ⟨W.heap.size, 1, none⟩ = some v := cells2 W _ _ t
set_option maxHeartbeats 1000000 in
theorem end_any {W : World} (jb b F n rec g : Nat) (A : Option Addr) (m c : Nat) (hj : JAt W jb b F n rec) (hg : g < 18446744073709551616) :
    Calls Tryz.prog 86 #[devp jb, txV g (.slice A m c)] W fun e w' => ∃ v', e = .returned v' ∧ Puts w' v' [((F : Int), headL g 0 0)] ∧ Fresh W w' v' ∧ Below W.heap.size W w' := by
  have hB : Below W.heap.size W (W.alloc (.cells #[.int .u64 (g : Int), .slice A m c] 129)) := (Below.refl _ _).alloc (Nat.le_refl _) _
  obtain ⟨k0, k1⟩ := txV_box (W := W) g (.slice A m c) 129
  have HT := Lib.hid (tell_any jb b F n rec g 0 false (hj.below hB) hg (by decide))
  clear hj
  go_enter Tryz.func86, Tryz.ntmps86
  go_wp2_with fail
  refine HT.out.mono ?_
  rintro e w1 ⟨v', rfl, hp, hf, hb⟩
  go_wp2_with fail
  go_ret
  exact ⟨_, rfl, hp, (fun k hk => ⟨by have := (hf k hk).1; simp at this; omega, (hf k hk).2⟩), hB.trans (hb.mono (by simp))⟩
theorem place_any {W : World} (jb g : Nat) (A : Option Addr) (m c : Nat) :
    Calls Tryz.prog 85 #[devp jb, txV g (.slice A m c)] W fun e w' => e = .returned (.slice A m c) ∧ Below W.heap.size W w' := by
  have hB : Below W.heap.size W (W.alloc (.cells #[.int .u64 (g : Int), .slice A m c] 129)) := (Below.refl _ _).alloc (Nat.le_refl _) _
  obtain ⟨k0, k1⟩ := txV_box (W := W) g (.slice A m c) 129
  go_enter Tryz.func85, Tryz.ntmps85
  go_wp2_with fail
  go_ret
  exact ⟨rfl, hB⟩
/-- A method of the journal at jb, as a value. -/
abbrev meth (f jb : Nat) : Value := .func (.func f) #[devp jb] #[]
theorem redoing_any (W : World) (jb : Nat) :
    Calls Tryz.prog 57 #[devp jb] W fun e w' => e = .returned (.slice (some ⟨W.heap.size, 0, none⟩) 2 2) ∧ w' = W.alloc (.cells #[meth 85 jb, meth 86 jb] 160) := by
  go_enter Tryz.func57, Tryz.ntmps57
  go_wp2_with fail
  go_ret
  exact ⟨rfl, rfl⟩
end Go.Proofs.YtdddennhdbmolaaGreat
