/- Layer 3 (dev): a device that a call holds; the chapter's examples. -/
import Derived.Test.YtoogedjeclcdbaaDev12
namespace Go.Proofs.Ytoogedjeclcdbaa
open Go.RowKit Go.Maps
set_option linter.unusedVariables false
/-- The blocks of K lie as they lay in w. -/
structure Keeps (K : Nat → Prop) (w W : World) : Prop where
  lt : ∀ k, K k → k < w.heap.size
  os : W.os = w.os
  tape : W.tape = w.tape
  output : W.output = w.output
  size : w.heap.size ≤ W.heap.size
  same : ∀ k, K k → W.heap[k]? = w.heap[k]?
theorem Keeps.refl {K : Nat → Prop} {w : World} (h : ∀ k, K k → k < w.heap.size) : Keeps K w w := ⟨h, rfl, rfl, rfl, Nat.le_refl _, fun _ _ => rfl⟩
theorem Keeps.trans {K K' : Nat → Prop} {a b c : World} (h : Keeps K a b) (k : Keeps K' b c) (hk : ∀ q, K q → K' q) : Keeps K a c :=
  ⟨h.lt, k.os.trans h.os, k.tape.trans h.tape, k.output.trans h.output, Nat.le_trans h.size k.size, fun q hq => (k.same q (hk q hq)).trans (h.same q hq)⟩
theorem Keeps.below {K : Nat → Prop} {w W W' : World} (h : Keeps K w W) (hb : Below W.heap.size W W') : Keeps K w W' :=
  ⟨h.lt, hb.os.trans h.os, hb.tape.trans h.tape, hb.output.trans h.output, Nat.le_trans h.size hb.size, fun k hk => (hb.block k (Nat.lt_of_lt_of_le (h.lt k hk) h.size)).trans (h.same k hk)⟩
theorem Keeps.only {K S : Nat → Prop} {w W W' : World} (h : Keeps K w W) (ho : Only S W W') (hs : ∀ k, S k → ¬ K k) : Keeps K w W' :=
  ⟨h.lt, ho.os.trans h.os, ho.tape.trans h.tape, ho.output.trans h.output, Nat.le_trans h.size ho.size, fun k hk => (ho.block k (Nat.lt_of_lt_of_le (h.lt k hk) h.size) (fun e => hs k e hk)).trans (h.same k hk)⟩
/-- All that was there. -/
def All (w : World) (k : Nat) : Prop := k < w.heap.size
theorem Keeps.all {w W : World} (h : Keeps (All w) w W) : Below w.heap.size w W := ⟨h.os, h.tape, h.output, h.size, fun k hk => h.same k hk⟩
theorem Keeps.start (w : World) : Keeps (All w) w w := .refl fun _ h => h
/-- The device M lies at b, apart from K's blocks; these lie as they lay in w. -/
def Held (K : Nat → Prop) (w W : World) (b : Nat) (M : Dv) : Prop := Keeps K w W ∧ ∃ S, DevAt S W b M ∧ ∀ k, S k → ¬ K k
theorem Held.keeps {K : Nat → Prop} {w W : World} {b : Nat} {M : Dv} (h : Held K w W b M) : Keeps K w W := h.1
theorem Held.below {K : Nat → Prop} {w W W' : World} {b : Nat} {M : Dv} (h : Held K w W b M) (hb : Below W.heap.size W W') : Held K w W' b M := by
  obtain ⟨h1, S, h3, h4⟩ := h
  exact ⟨h1.below hb, S, h3.below hb, h4⟩
theorem Held.fine {K : Nat → Prop} {w W : World} {b : Nat} {M : Dv} (h : Held K w W b M) : Fine M := h.2.elim fun _ h => h.1.fine
/-- From here on more is kept: what lies behind the device's blocks. -/
theorem Held.more {K K' : Nat → Prop} {w W W' : World} {b : Nat} {M : Dv} (h : Held K w W b M) (hb : Below W.heap.size W W') (hk : ∀ k, K' k → K k ∨ (W.heap.size ≤ k ∧ k < W'.heap.size)) : Held K' W' W' b M := by
  obtain ⟨h1, S, h3, h4⟩ := h
  refine ⟨.refl fun k hk' => ?_, S, h3.below hb, fun k hs hk' => ?_⟩
  · rcases hk k hk' with e | e
    · exact Nat.lt_of_lt_of_le (Nat.lt_of_lt_of_le (h1.lt k e) h1.size) hb.size
    · exact e.2
  · rcases hk k hk' with e | e
    · exact h4 k hs e
    · have := h3.lt k hs; omega
theorem held_new {K : Nat → Prop} {w : World} (n : Nat) (h8 : 8 ≤ n) (hn : n ≤ 4096) {W : World} (h : Keeps K w W) :
    Calls Try.prog 8 #[.int .i64 (n : Int)] W fun e w' => ∃ b, e = .returned (.tuple #[devp b, .int .i64 0]) ∧ Held K w w' b (dev0 n) ∧ Below W.heap.size W w' := by
  refine (new_any n h8 hn W).mono ?_
  rintro e w' ⟨rfl, rfl⟩
  have hb := newW_below n W
  exact ⟨_, rfl, ⟨h.below hb, newS W, new_in n h8 hn W, fun k hk hK => by have := newS_from W k hk; have := h.lt k hK; have := h.size; omega⟩, hb⟩
theorem calls_step {f : FuncId} {args : Array Value} {W : World} {b : Nat} {M N : Dv} {r : Value} {K : Nat → Prop} {w : World} (h : Held K w W b M) (hc : ∀ S, DevAt S W b M → Calls Try.prog f args W fun e w' => e = .returned r ∧ Step S W b N w') :
    Calls Try.prog f args W fun e w' => e = .returned r ∧ Held K w w' b N := by
  obtain ⟨h1, S, h3, h4⟩ := h
  refine (hc S h3).mono ?_
  rintro e w' ⟨he, S', hd, ho, hk⟩
  refine ⟨he, h1.only ho h4, S', hd, fun k e hK => ?_⟩
  rcases hk k e with e | e
  · exact h4 k e hK
  · have := h1.lt k hK; have := h1.size; omega
section
variable {K : Nat → Prop} {w W : World} {b : Nat} {M : Dv}
theorem held_write (h : Held K w W b M) (hw : M.wr < 1099511627776) (i : Int) (s : List UInt8) :
    Calls Try.prog 10 #[devp b, .int .i64 i, str s] W fun e w' => e = .returned (.int .i64 (M.wroteE i s)) ∧ Held K w w' b (M.wrote i s) :=
  calls_step h fun S hS => write_all hS hw i s
theorem held_back (h : Held K w W b M) (hw : M.wr ≤ 1099511627776) (i k : Int) :
    Calls Try.prog 12 #[devp b, .int .i64 i, .int .i64 k] W fun e w' => e = .returned (.int .i64 (M.backE i k)) ∧ Held K w w' b (M.backed i k) :=
  calls_step h fun S hS => back_all hS hw i k
theorem held_flush (h : Held K w W b M) (hd : M.down = false) (hw : M.wr ≤ 1099511627776) :
    Calls Try.prog 13 #[devp b] W fun e w' => e = .returned (.int .i64 0) ∧ Held K w w' b M.flush :=
  calls_step h fun S hS => flush_any hS hd hw
theorem held_crash (h : Held K w W b M) (hw : M.wr ≤ 1099511627776) (keep : List UInt8) (hkl : keep.length ≤ 1099511627776) :
    Calls Try.prog 16 #[devp b, str keep] W fun e w' => e = .returned (.int .i64 0) ∧ Held K w w' b (M.crash keep) :=
  calls_step h fun S hS => crash_any hS hw keep hkl
theorem held_fuse (h : Held K w W b M) (n : Nat) (hn : n ≤ 9223372036854775807) :
    Calls Try.prog 17 #[devp b, .int .i64 (n : Int)] W fun e w' => e = .returned (.int .i64 0) ∧ Held K w w' b (M.fuse n) :=
  calls_step h fun S hS => by
    obtain ⟨g, c, m, vals, hI⟩ := hS
    refine (fuse_any hI n hn).mono ?_
    rintro e w' ⟨rfl, hD, hO⟩
    exact ⟨rfl, Step.of ⟨g, c, m, vals, hD⟩ hO⟩
theorem held_read (h : Held K w W b M) (hd : M.down = false) (hw : M.wr ≤ 1099511627776) (i : Nat) (hi : i < M.n) :
    Calls Try.prog 14 #[devp b, .int .i64 (i : Int)] W fun e w' => e = .returned (.tuple #[str (M.cur i), .int .i64 0]) ∧ Held K w w' b M := by
  have h' := h
  obtain ⟨h1, S, h3, h4⟩ := h'
  refine (read_any h3 hd hw i hi).mono ?_
  rintro e w' ⟨rfl, hb⟩
  exact ⟨rfl, h.below hb⟩
theorem held_down (h : Held K w W b M) : Calls Try.prog 20 #[devp b] W fun e w' => e = .returned (.bool M.down) ∧ W = w' := by
  obtain ⟨h1, S, h3, h4⟩ := h
  exact downFn_any b _ W (h3.down_cell rfl)
theorem held_writes (h : Held K w W b M) : Calls Try.prog 21 #[devp b] W fun e w' => e = .returned (.int .u64 (M.wr : Int)) ∧ W = w' := by
  obtain ⟨h1, S, ⟨g, c, m, vals, hI⟩, h4⟩ := h
  exact writes_any b _ W hI.head.c4
theorem held_cached (h : Held K w W b M) (i : Nat) (hi : i < M.n) : Calls Try.prog 19 #[devp b, .int .i64 (i : Int)] W fun e w' => e = .returned (.int .i64 ((M.row i).length : Int)) ∧ W = w' := by
  obtain ⟨h1, S, h3, h4⟩ := h
  exact cached_any h3 i hi
/-- Loose's answer lies in a new block g, which is kept from then on. -/
theorem held_loose (h : Held K w W b M) : Calls Try.prog 15 #[devp b] W fun e w' => ∃ v, e = .returned v ∧ Row w' v (M.loose.map encI) ∧ Keeps K w w' ∧ Held (fun k => K k ∨ v.ownBlock = some k) w' w' b M ∧ Below W.heap.size W w' := by
  have h' := h
  obtain ⟨h1, S, h3, h4⟩ := h'
  refine (looseFn_any h3).mono ?_
  rintro e w' ⟨v, rfl, hr, hn, hb⟩
  refine ⟨v, rfl, hr, h1.below hb, h.more hb (fun k hk => ?_), hb⟩
  rcases hk with e | e
  · exact .inl e
  · exact .inr (hn k e)
end
theorem Row.kept {w W : World} {v : Value} {xs : List Value} (h : Row w v xs) (hb : ∀ k, v.ownBlock = some k → W.heap[k]? = w.heap[k]?) : Row W v xs := by
  obtain ⟨A, c, rfl, hc⟩ := h
  refine ⟨A, c, rfl, fun j u hu => ?_⟩
  obtain ⟨g, rfl, hcell⟩ := hc j u hu
  exact ⟨g, rfl, (cell_same j (hb g rfl)).trans hcell⟩
/-- The examples' devices. -/
def exM : Dv := (((dev0 8).wrote 3 (secOf [97])).wrote 3 (secOf [98])).wrote 5 (secOf [99])
def exC : Dv := exM.crash [1]
def exF : Dv := (exC.fuse 1).wrote 0 (secOf [97])
theorem ex_facts : (dev0 8).wroteE 3 (secOf [97]) = 0 ∧ ((dev0 8).wrote 3 (secOf [97])).wroteE 3 (secOf [98]) = 0 ∧ (((dev0 8).wrote 3 (secOf [97])).wrote 3 (secOf [98])).wroteE 5 (secOf [99]) = 0 ∧ exM.loose = [3, 5] ∧
    exC.cur 3 = secOf [97] ∧ exC.cur 5 = secOf [] ∧ (exC.fuse 1).wroteE 0 (secOf [97]) = 0 ∧ exF.wroteE 0 (secOf [98]) = 30 ∧ (exF.wrote 0 (secOf [98])).down = true ∧ ((exF.wrote 0 (secOf [98])).crash []).down = false ∧ ((exF.wrote 0 (secOf [98])).crash []).wroteE 0 [97] = 2 := by
  decide +kernel
end Go.Proofs.Ytoogedjeclcdbaa
