/- Layer 3 (dev): fuses; what writes a device's head. -/
import Derived.Test.YtoogedjeclcdbaaDev1
namespace Go.Proofs.Ytoogedjeclcdbaa
open Go.RowKit Go.Maps
set_option linter.unusedVariables false
theorem set_here {W : World} {b j : Nat} {u : Value} (v : Value) (h : W.cell? ⟨b, j, none⟩ = some u) : (W.setCell ⟨b, j, none⟩ v).cell? ⟨b, j, none⟩ = some v :=
  World.cell?_setCell_same' W ⟨b, j, none⟩ v (by rw [h]; rfl)
theorem set_there (W : World) (b : Nat) {i j : Nat} (v : Value) (h : i ≠ j) : (W.setCell ⟨b, i, none⟩ v).cell? ⟨b, j, none⟩ = W.cell? ⟨b, j, none⟩ :=
  World.cell?_setCell_other _ _ _ _ (by intro e; injection e with _ e; exact h e)
section
variable {W : World} {b g c m n wr left : Nat} {down : Bool}
theorem Head.set0 (h : Head W b g c m n wr left down) (x : Nat) : Head (W.setCell ⟨b, 0, none⟩ (.int .i64 (x : Int))) b g c m n wr x down := by
  refine ⟨set_here _ h.c0, ?_, ?_, ?_, ?_, ?_, ?_, ?_, ?_, ?_⟩
  all_goals first | (rw [set_there _ _ _ (by decide)]) | (rw [World.frozen?_setCell])
  all_goals first | exact h.c0 | exact h.c1 | exact h.c2 | exact h.c3 | exact h.c4 | exact h.f0 | exact h.f1 | exact h.f2 | exact h.f3 | exact h.f4
theorem Head.set1 (h : Head W b g c m n wr left down) (x : Bool) : Head (W.setCell ⟨b, 1, none⟩ (.bool x)) b g c m n wr left x := by
  refine ⟨?_, set_here _ h.c1, ?_, ?_, ?_, ?_, ?_, ?_, ?_, ?_⟩
  all_goals first | (rw [set_there _ _ _ (by decide)]) | (rw [World.frozen?_setCell])
  all_goals first | exact h.c0 | exact h.c1 | exact h.c2 | exact h.c3 | exact h.c4 | exact h.f0 | exact h.f1 | exact h.f2 | exact h.f3 | exact h.f4
theorem Head.set4 (h : Head W b g c m n wr left down) (x : Nat) : Head (W.setCell ⟨b, 4, none⟩ (.int .u64 (x : Int))) b g c m n x left down := by
  refine ⟨?_, ?_, ?_, ?_, set_here _ h.c4, ?_, ?_, ?_, ?_, ?_⟩
  all_goals first | (rw [set_there _ _ _ (by decide)]) | (rw [World.frozen?_setCell])
  all_goals first | exact h.c0 | exact h.c1 | exact h.c2 | exact h.c3 | exact h.c4 | exact h.f0 | exact h.f1 | exact h.f2 | exact h.f3 | exact h.f4
end
theorem DevIn.headed {S : Nat → Prop} {W W' : World} {b g c m : Nat} {vals : Nat → Value} {M : Dv} (h : DevIn S W b g c m vals M) (hs : W.heap.size ≤ W'.heap.size) (ho : ∀ k, k < W.heap.size → k ≠ b → W'.heap[k]? = W.heap[k]?) {wr left : Nat} {down : Bool}
    (hh : Head W' b g c m M.n wr left down) (hl : left ≤ 9223372036854775807) (hw : M.wr ≤ wr) : DevIn S W' b g c m vals { M with wr := wr, left := left, down := down } :=
  { fine := { n := h.fine.n, dur := h.fine.dur, row := h.fine.row, out := h.fine.out, rows := fun i => Nat.le_trans (h.fine.rows i) hw, left := hl }
    head := hh
    du := h.du.kept (ho g (h.lt g h.sg) (Ne.symm h.bg))
    ro := h.ro.kept (ho m (h.lt m h.sm) (Ne.symm h.bm)) fun k hk => ho k (h.lt k (h.sr k hk)) (fun e => h.rb (e ▸ hk))
    cap := h.cap, sb := h.sb, sg := h.sg, sm := h.sm, sr := h.sr, bg := h.bg, bm := h.bm, gm := h.gm, rb := h.rb, rg := h.rg, rm := h.rm
    lt := fun k hk => Nat.lt_of_lt_of_le (h.lt k hk) hs }
def burnt (M : Dv) : Dv := { M with left := M.left - 1, down := M.down || M.left == 1 }
theorem set_other (W : World) (b j k : Nat) (v : Value) (h : k ≠ b) : (W.setCell ⟨b, j, none⟩ v).heap[k]? = W.heap[k]? := Below.heap_setCell W ⟨b, j, none⟩ v k h
theorem set_size (W : World) (b j : Nat) (v : Value) : (W.setCell ⟨b, j, none⟩ v).heap.size = W.heap.size := by simp [World.setCell]
theorem burn_any {S : Nat → Prop} {W : World} {b g c m : Nat} {vals : Nat → Value} {M : Dv} (h : DevIn S W b g c m vals M) (hd : M.down = false) :
    Calls Try.prog 26 #[devp b] W fun e w' => e = .returned (.tuple #[]) ∧ DevIn S w' b g c m vals (burnt M) ∧ Only S W w' := by
  have h0 := h.head.c0
  have h1 := h.head.c1
  have f0 := h.head.f0
  have f1 := h.head.f1
  have hl := h.fine.left
  have H := Lib.hid h
  have HD := Lib.hid hd
  clear h
  by_cases hz : M.left = 0
  · have hB : burnt M = M := by unfold burnt; rw [hz, HD.out]; cases M; simp_all
    have HB := Lib.hid hB
    clear hB
    rw [hz] at h0
    clear hd hz
    go_enter Try.func26, Try.ntmps26
    go_wp2
    go_end0
    exact ⟨rfl, by rw [HB.out]; exact H.out, Only.refl _ _⟩
  · have hpos : 0 < M.left := by omega
    have hA := H.out.headed (W' := (W.setCell ⟨b, 0, none⟩ (.int .i64 ((M.left - 1 : Nat) : Int))).setCell ⟨b, 1, none⟩ (.bool (M.left == 1))) (by simp [World.setCell]) (fun k hk hne => by rw [set_other _ _ _ _ _ hne, set_other _ _ _ _ _ hne])
      ((H.out.head.set0 (M.left - 1)).set1 (M.left == 1)) (by omega) (Nat.le_refl _)
    have hO : Only S W ((W.setCell ⟨b, 0, none⟩ (.int .i64 ((M.left - 1 : Nat) : Int))).setCell ⟨b, 1, none⟩ (.bool (M.left == 1))) :=
      (Only.setCell S W ⟨b, 0, none⟩ _ H.out.sb).trans (Only.setCell S _ ⟨b, 1, none⟩ _ H.out.sb) (fun _ e => .inl e)
    have hE : { M with wr := M.wr, left := M.left - 1, down := M.left == 1 } = burnt M := by unfold burnt; rw [HD.out]; simp
    rw [hE] at hA
    have HA := Lib.hid hA
    have HO := Lib.hid hO
    have hcast : ((M.left - 1 : Nat) : Int) = (M.left : Int) - 1 := by omega
    have hbool : (((M.left : Int) - 1) == 0) = (M.left == 1) := by
      rw [Bool.eq_iff_iff]; simp; omega
    have Hc := Lib.hid hcast
    have Hb := Lib.hid hbool
    clear hA hO hE hd hz hcast hbool
    have hlt : 0 < (M.left : Int) := by omega
    go_enter Try.func26, Try.ntmps26
    go_wp2
    go_end0
    have HA2 := HA.out
    have HO2 := HO.out
    rw [Hc.out, ← Hb.out] at HA2 HO2
    exact ⟨rfl, HA2, HO2⟩
end Go.Proofs.Ytoogedjeclcdbaa
