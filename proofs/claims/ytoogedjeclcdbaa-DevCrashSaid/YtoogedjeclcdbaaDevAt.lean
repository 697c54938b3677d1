/- A device, as it lies in memory. -/
import Derived.Test.YtoogedjeclcdbaaDevMem
namespace Go.Proofs.Ytoogedjeclcdbaa
open Go.RowKit Go.Maps
set_option linter.unusedVariables false
/-- A device: its sectors' durable contents, their cached writes, how many writes were made, how many are left till it fails (0: no fuse), whether it has failed. -/
structure Dv where
  n : Nat
  dur : Nat → List UInt8
  row : Nat → List (List UInt8)
  wr : Nat
  left : Nat
  down : Bool
/-- What is true of each. -/
structure Fine (M : Dv) : Prop where
  n : M.n ≤ 4096
  dur : ∀ i, i < M.n → (M.dur i).length = 64
  row : ∀ i, ∀ p ∈ M.row i, p.length = 64
  out : ∀ i, M.row i ≠ [] → i < M.n
  rows : ∀ i, (M.row i).length ≤ M.wr
  left : M.left ≤ 9223372036854775807
/-- What stands in the map of rows. -/
def entry (row : Nat → List (List UInt8)) (vals : Nat → Value) (i : Nat) : Option Value := if (row i).isEmpty then none else some (.agg #[vals i])
theorem entry_none {row : Nat → List (List UInt8)} {vals : Nat → Value} {i : Nat} (h : row i = []) : entry row vals i = none := by simp [entry, h]
theorem entry_some {row : Nat → List (List UInt8)} {vals : Nat → Value} {i : Nat} (h : row i ≠ []) : entry row vals i = some (.agg #[vals i]) := by simp [entry, h]
/-- A block of a row. -/
def Rk (row : Nat → List (List UInt8)) (vals : Nat → Value) (k : Nat) : Prop := ∃ i, row i ≠ [] ∧ (vals i).ownBlock = some k
/-- A device's head. -/
structure Head (W : World) (b g c m n wr left : Nat) (down : Bool) : Prop where
  c0 : W.cell? ⟨b, 0, none⟩ = some (.int .i64 (left : Int))
  c1 : W.cell? ⟨b, 1, none⟩ = some (.bool down)
  c2 : W.cell? ⟨b, 2, none⟩ = some (.slice (some ⟨g, 0, none⟩) n c)
  c3 : W.cell? ⟨b, 3, none⟩ = some (.map (some m))
  c4 : W.cell? ⟨b, 4, none⟩ = some (.int .u64 (wr : Int))
  f0 : W.frozen? ⟨b, 0, none⟩ = false
  f1 : W.frozen? ⟨b, 1, none⟩ = false
  f2 : W.frozen? ⟨b, 2, none⟩ = false
  f3 : W.frozen? ⟨b, 3, none⟩ = false
  f4 : W.frozen? ⟨b, 4, none⟩ = false
theorem Head.kept {W W' : World} {b g c m n wr left : Nat} {down : Bool} (h : Head W b g c m n wr left down) (hb : W'.heap[b]? = W.heap[b]?) : Head W' b g c m n wr left down := by
  have hc : ∀ j, W'.cell? ⟨b, j, none⟩ = W.cell? ⟨b, j, none⟩ := fun j => World.cell?_of_block (a := ⟨b, j, none⟩) hb
  have hf : ∀ j, W'.frozen? ⟨b, j, none⟩ = W.frozen? ⟨b, j, none⟩ := fun j => World.frozen?_of_block (a := ⟨b, j, none⟩) hb
  exact ⟨(hc 0).trans h.c0, (hc 1).trans h.c1, (hc 2).trans h.c2, (hc 3).trans h.c3, (hc 4).trans h.c4, (hf 0).trans h.f0, (hf 1).trans h.f1, (hf 2).trans h.f2, (hf 3).trans h.f3, (hf 4).trans h.f4⟩
/-- Durable sectors. -/
structure Du (W : World) (g n : Nat) (dur : Nat → List UInt8) : Prop where
  at_ : ∀ i, i < n → W.rangeAt g (i * 64) (bc (dur i))
  there : W.there g 0 (n * 64)
theorem Du.kept {W W' : World} {g n : Nat} {dur : Nat → List UInt8} (h : Du W g n dur) (hb : W'.heap[g]? = W.heap[g]?) : Du W' g n dur :=
  ⟨fun i hi => range_kept (h.at_ i hi) hb, there_kept h.there hb⟩
/-- Rows of cached writes. -/
structure Ro (W : World) (m n : Nat) (row : Nat → List (List UInt8)) (vals : Nat → Value) : Prop where
  map : IMap Try.prog 3 W m n (entry row vals)
  at_ : ∀ i, row i ≠ [] → RowAt W (vals i) (row i)
  apart : ∀ i j, row i ≠ [] → row j ≠ [] → i ≠ j → (vals i).ownBlock ≠ (vals j).ownBlock
theorem Ro.kept {W W' : World} {m n : Nat} {row : Nat → List (List UInt8)} {vals : Nat → Value} (h : Ro W m n row vals) (hb : W'.heap[m]? = W.heap[m]?) (hr : ∀ k, Rk row vals k → W'.heap[k]? = W.heap[k]?) : Ro W' m n row vals :=
  ⟨h.map.kept hb, fun i hi => (h.at_ i hi).kept fun k hk => hr k ⟨i, hi, hk⟩, h.apart⟩
/-- The device M lies at block b, in blocks of S. -/
structure DevIn (S : Nat → Prop) (W : World) (b g c m : Nat) (vals : Nat → Value) (M : Dv) : Prop where
  fine : Fine M
  head : Head W b g c m M.n M.wr M.left M.down
  du : Du W g M.n M.dur
  ro : Ro W m M.n M.row vals
  cap : M.n ≤ c ∧ c ≤ maxLen
  sb : S b
  sg : S g
  sm : S m
  sr : ∀ k, Rk M.row vals k → S k
  bg : b ≠ g
  bm : b ≠ m
  gm : g ≠ m
  rb : ¬ Rk M.row vals b
  rg : ¬ Rk M.row vals g
  rm : ¬ Rk M.row vals m
  lt : ∀ k, S k → k < W.heap.size
def DevAt (S : Nat → Prop) (W : World) (b : Nat) (M : Dv) : Prop := ∃ g c m vals, DevIn S W b g c m vals M
theorem DevIn.kept {S : Nat → Prop} {W W' : World} {b g c m : Nat} {vals : Nat → Value} {M : Dv} (h : DevIn S W b g c m vals M) (hs : W.heap.size ≤ W'.heap.size) (hb : ∀ k, S k → W'.heap[k]? = W.heap[k]?) : DevIn S W' b g c m vals M :=
  { h with
    head := h.head.kept (hb b h.sb)
    du := h.du.kept (hb g h.sg)
    ro := h.ro.kept (hb m h.sm) fun k hk => hb k (h.sr k hk)
    lt := fun k hk => Nat.lt_of_lt_of_le (h.lt k hk) hs }
theorem DevAt.kept {S : Nat → Prop} {W W' : World} {b : Nat} {M : Dv} (h : DevAt S W b M) (hs : W.heap.size ≤ W'.heap.size) (hb : ∀ k, S k → W'.heap[k]? = W.heap[k]?) : DevAt S W' b M := by
  obtain ⟨g, c, m, vals, h⟩ := h
  exact ⟨g, c, m, vals, h.kept hs hb⟩
theorem DevAt.below {S : Nat → Prop} {W W' : World} {b : Nat} {M : Dv} (h : DevAt S W b M) (hb : Below W.heap.size W W') : DevAt S W' b M := by
  have h' := h
  obtain ⟨g, c, m, vals, hd⟩ := h'
  exact h.kept hb.size fun k hk => hb.block k (hd.lt k hk)
theorem DevAt.fine {S : Nat → Prop} {W : World} {b : Nat} {M : Dv} (h : DevAt S W b M) : Fine M := by
  obtain ⟨g, c, m, vals, hd⟩ := h
  exact hd.fine
theorem DevAt.lt {S : Nat → Prop} {W : World} {b : Nat} {M : Dv} (h : DevAt S W b M) : ∀ k, S k → k < W.heap.size := by
  obtain ⟨g, c, m, vals, hd⟩ := h
  exact hd.lt
/-- Of what was there, blocks of S alone have turned. -/
structure Only (S : Nat → Prop) (W W' : World) : Prop where
  os : W'.os = W.os
  tape : W'.tape = W.tape
  output : W'.output = W.output
  size : W.heap.size ≤ W'.heap.size
  block : ∀ k, k < W.heap.size → ¬ S k → W'.heap[k]? = W.heap[k]?
theorem Only.refl (S : Nat → Prop) (W : World) : Only S W W := ⟨rfl, rfl, rfl, Nat.le_refl _, fun _ _ _ => rfl⟩
theorem Only.trans {S S' : Nat → Prop} {A B C : World} (h : Only S A B) (k : Only S' B C) (hs : ∀ j, S' j → S j ∨ A.heap.size ≤ j) : Only S A C :=
  ⟨k.os.trans h.os, k.tape.trans h.tape, k.output.trans h.output, Nat.le_trans h.size k.size, fun j hj hn =>
    (k.block j (Nat.lt_of_lt_of_le hj h.size) (fun e => by rcases hs j e with e | e; exact hn e; omega)).trans (h.block j hj hn)⟩
theorem Only.of_below {S : Nat → Prop} {W W' : World} (h : Below W.heap.size W W') : Only S W W' := ⟨h.os, h.tape, h.output, h.size, fun k hk _ => h.block k hk⟩
theorem Only.of_grown {S : Nat → Prop} {W W' : World} {row : Option Nat} (h : W.grownBy W' row) (hr : ∀ k, row = some k → S k) : Only S W W' :=
  ⟨h.os, h.tape, h.output, h.size, fun k hk hn => h.block k hk (fun e => hn (hr k e.symm))⟩
theorem Only.below {S : Nat → Prop} {B : Nat} {W W' : World} (h : Only S W W') (hB : B ≤ W.heap.size) (hs : ∀ k, S k → B ≤ k) : Below B W W' :=
  ⟨h.os, h.tape, h.output, h.size, fun k hk => h.block k (by omega) (fun e => by have := hs k e; omega)⟩
theorem Only.setCell (S : Nat → Prop) (W : World) (a : Addr) (v : Value) (h : S a.block) : Only S W (W.setCell a v) :=
  ⟨rfl, rfl, rfl, by simp [World.setCell], fun k _ hn => Below.heap_setCell W a v k (fun e => hn (by rw [e]; exact h))⟩
/-- One step of a device: it is M now; nothing else that was there has turned. -/
def Step (S : Nat → Prop) (W : World) (b : Nat) (M : Dv) (W' : World) : Prop := ∃ S', DevAt S' W' b M ∧ Only S W W' ∧ ∀ k, S' k → S k ∨ W.heap.size ≤ k
theorem Step.of {S : Nat → Prop} {W W' : World} {b : Nat} {M : Dv} (h : DevAt S W' b M) (o : Only S W W') : Step S W b M W' := ⟨S, h, o, fun _ hk => .inl hk⟩
theorem Step.trans {S : Nat → Prop} {A B C : World} {b : Nat} {M N : Dv} (h : Step S A b M B) (k : ∀ S', DevAt S' B b M → Step S' B b N C) : Step S A b N C := by
  obtain ⟨S', hd, ho, hs⟩ := h
  obtain ⟨S2, hd2, ho2, hs2⟩ := k S' hd
  refine ⟨S2, hd2, ho.trans ho2 hs, fun j hj => ?_⟩
  rcases hs2 j hj with e | e
  · exact hs j e
  · exact .inr (Nat.le_trans ho.size e)
/-- From block B on. -/
def From (B k : Nat) : Prop := B ≤ k
theorem Step.from {S : Nat → Prop} {W W' : World} {b B : Nat} {M : Dv} (h : Step S W b M W') (hB : B ≤ W.heap.size) (hs : ∀ k, S k → B ≤ k) : ∃ S', DevAt S' W' b M ∧ (∀ k, S' k → B ≤ k) ∧ Below B W W' := by
  obtain ⟨S', hd, ho, hk⟩ := h
  exact ⟨S', hd, fun k e => by rcases hk k e with e | e; exact hs k e; omega, ho.below hB hs⟩
/-! What a device does. -/
/-- What sector i contains now. -/
def Dv.cur (M : Dv) (i : Nat) : List UInt8 := ((M.row i).getLast?).getD (M.dur i)
def Dv.write (M : Dv) (i : Nat) (s : List UInt8) : Dv :=
  { M with row := upd M.row i (M.row i ++ [s]), wr := M.wr + 1, left := M.left - 1, down := M.down || M.left == 1 }
def Dv.settle (M : Dv) (i k : Nat) : Dv :=
  { M with dur := upd M.dur i (if k = 0 then M.dur i else (M.row i).getD (k - 1) []), row := upd M.row i ((M.row i).drop k) }
def Dv.fuse (M : Dv) (n : Nat) : Dv := { M with left := n, down := M.down || n == 0 }
def Dv.loose (M : Dv) : List Nat := (List.range M.n).filter fun i => !(M.row i).isEmpty
def dev0 (n : Nat) : Dv := ⟨n, fun _ => List.replicate 64 0, fun _ => [], 0, 0, false⟩
theorem Dv.loose_keys (M : Dv) (vals : Nat → Value) : keysOf M.n (entry M.row vals) = M.loose := by
  unfold keysOf Dv.loose
  congr 1
  funext i
  unfold entry
  cases h : (M.row i).isEmpty <;> simp
end Go.Proofs.Ytoogedjeclcdbaa
