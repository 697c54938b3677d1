/- Layer 2 (crc): registers and sums. -/
import Derived.Test.YtdhobioobhhdhaaCrc3
namespace Go.Proofs.Ytdhobioobhhdhaa
open Go.RowKit Go.Shelf
set_option linter.unusedVariables false
attribute [local go_sem] Oper.semAt_some
set_option maxHeartbeats 400000 in
theorem bytesOf_any (A : Option Addr) (m c : Nat) (w : World) :
    Calls Try.prog 25 #[.slice A m c] w fun e w' => e = .returned (.func (.func 28) #[] #[.pointer (some ⟨w.heap.size, 0, none⟩)]) ∧ w' = w.alloc (.cells #[.slice A m c] 41) := by
  go_enter Try.func25, Try.ntmps25
  go_wp2
  go_ret
  exact ⟨rfl, rfl⟩
theorem reg_byte (a : BitVec 32) : (a.toNat : Int) / (256 : Int) = ((a >>> 8).toNat : Int) := by
  rw [BitVec.toNat_ushiftRight, Nat.shiftRight_eq_div_pow]; simp
theorem wrap_u8 (n : Nat) : IntKind.u8.wrap (n : Int) = ((UInt8.ofNat n).toNat : Int) := by
  rw [UInt8.toNat_ofNat']
  simp [IntKind.wrap, IntKind.bits, IntKind.signed]
set_option maxRecDepth 100000 in
set_option maxHeartbeats 2000000 in
theorem process_any (c : BitVec 32) (v : Value) (ps : List (List UInt8)) (w : World) (hps : ps.length ≤ 1048576) (hlen : ∀ p ∈ ps, p.length ≤ 1048576) (hP : Parts w.heap.size w v ps) :
    Calls Try.prog 19 #[reg c, v] w fun e w' => e = .returned (reg (crcL c ps.flatten)) ∧ Below w.heap.size w w' := by
  obtain ⟨hz, hsz⟩ := zero_of_info tabInfo
  have hlenT := tabC_length 256
  have hst := fun W => run_storeCells_new (P := Try.prog) W 48 (tabC 0).toArray (tabC 256).toArray (by rw [hsz]; simp [tabC_length]) (by simp [tabC_length]) (tabC_one 256)
  simp only at hst
  clear hsz
  have HP := Lib.hid hP
  obtain ⟨A, m, rfl, hc⟩ := hP
  clear hc
  refine (callsIn_wide (n := 3)).1 ?_
  refine callsIn_of_wp_marks Try.func19 rfl trivial ?_ rfl
  simp only [Try.ntmps19, List.size_toArray, List.length_cons, List.length_nil, Nat.reduceAdd, Nat.reduceSub, Array.replicate_succ, Array.replicate_zero, List.push_toArray, List.append_toArray, List.nil_append, List.cons_append]
  gi_wp2_with fail
  refine ⟨trivial, (callsIn_wide.2 (table_any _)).mono ?_⟩
  rintro e w1 ⟨rfl, hb1⟩
  gi_wp2_with fail
  refine ⟨trivial, (callsIn_wide.2 (bytesOf_any _ _ _ _)).mono ?_⟩
  rintro e w2 ⟨rfl, rfl⟩
  gi_wp2_with fail
  obtain ⟨W0, hW0⟩ : ∃ W0, (w1.alloc (.cells (tabC 256).toArray 48)).alloc (.cells #[Value.slice A ps.length m] 41) = W0 := ⟨_, rfl⟩
  have hsz1 : w.heap.size + 1 ≤ w1.heap.size := by have := hb1.size; simpa using this
  have hsz0 : W0.heap.size = w1.heap.size + 1 + 1 := by rw [← hW0]; simp
  have hbx : Below (w.heap.size + 1) (w.alloc (.cells #[reg c] 22)) W0 := by
    rw [← hW0]
    exact ((by simpa using hb1 : Below (w.heap.size + 1) _ w1).alloc hsz1 _).alloc (by simp; omega) _
  have hB0 : Below w.heap.size w W0 := ((Below.refl _ _).alloc (Nat.le_refl _) _).trans (hbx.mono (by omega))
  have hcb : W0.cell? ⟨w.heap.size, 0, none⟩ = some (reg c) := (hbx.cell (p := ⟨w.heap.size, 0, none⟩) (by simp)).trans (cell_new_l w _ _)
  have hcf : W0.frozen? ⟨w.heap.size, 0, none⟩ = false := (hbx.frozen (p := ⟨w.heap.size, 0, none⟩) (by simp)).trans (frozen_new_l w _ _)
  have hct : ∀ b, b < 256 → W0.cell? ⟨w1.heap.size, b, none⟩ = some (reg (ent b)) := by
    intro b hb
    rw [← hW0, World.cell?_alloc_lt _ _ _ (by simp), cell_of_row _ _ b _ 48 (0, 0) (heap_alloc_new w1 _), List.getElem?_toArray, tabC_get _ _ hb, if_pos hb]
  have hcs : W0.cell? ⟨w1.heap.size + 1, 0, none⟩ = some (Value.slice A ps.length m) := by
    have := cell_new_l (w1.alloc (.cells (tabC 256).toArray 48)) (Value.slice A ps.length m) 41
    rw [hW0] at this
    simpa using this
  rw [hW0]
  clear hW0 hst hz hlenT hb1
  have Hct := Lib.hid hct
  have Hcs := Lib.hid hcs
  have Hsz0 := Lib.hid hsz0
  clear hct hcs hsz0
  refine wpIn_rangeFunc_ownF rfl (by decide) (gf := 28) (lb := #[.pointer (some ⟨w1.heap.size + 1, 0, none⟩)]) rfl trivial (enters_of Try.func28 (by kernel_rfl) rfl)
    (encs := fun (x : UInt8) => #[.int .u8 (x.toNat : Int)]) (S := fun xs => xs = ps.flatten) (Sp := fun pre => pre <+: ps.flatten) (N := ps.flatten.length) (w0 := W0) (Kp := Below w.heap.size)
    (fun l J Jx W hW hJ hJx hY h0 => bytes_in Fence.wide 2 trivial rfl (by decide) l (w1.heap.size + 1) w.heap.size _ ps hps hlen J Jx hY W ((hW.cell (p := ⟨w1.heap.size + 1, 0, none⟩) (by rw [Hsz0.out]; simp)).trans Hcs.out) (parts_below HP.out (hB0.trans (hW.mono (by rw [Hsz0.out]; omega)))) h0)
    belowK_t (belowK_b (by rw [Hsz0.out]; omega)) (Below.refl _ _) (fun _ => rfl)
    (fun pre W => (W.cell? ⟨w.heap.size, 0, none⟩ = some (reg (crcL c pre)) ∧ W.frozen? ⟨w.heap.size, 0, none⟩ = false ∧ ∀ b, b < 256 → W.cell? ⟨w1.heap.size, b, none⟩ = some (reg (ent b))) ∧ Below w.heap.size w W)
    (fun _ _ _ => False)
    (OwnFrom.and (Own.from (fun s A B row hs hg hr => ⟨cell_kept hs.1 hg hr, (frozen_kept hs.1 hg hr).trans hs.2.1, fun b hb => cell_kept (hs.2.2 b hb) hg hr⟩) _) (ownFrom_below (Nat.le_refl _) (by rw [Hsz0.out]; omega)))
    (fun _ _ _ _ _ hs _ _ => hs)
    ⟨⟨hcb, hcf, Hct.out⟩, hB0⟩
    (fun x => { tmps := #[reg c, Value.slice A ps.length m, .pointer (some ⟨w.heap.size, 0, none⟩), undef, .int .u32 0, .pointer (some ⟨w1.heap.size, 0, none⟩), .int .u8 (x.toNat : Int), .agg (tabC 256).toArray, Value.slice A ps.length m, .func (.func 28) #[] #[.pointer (some ⟨w1.heap.size + 1, 0, none⟩)], .int .u8 (x.toNat : Int), undef, undef, undef, undef, undef, undef, undef, undef, undef, undef], defers := [] }) ?assign ?body ?done ?stop
  case assign =>
    intro l x W K hK
    gi_wp2
    exact hK
  case body =>
    rintro l pre x W ⟨⟨hc, hf, ht⟩, hB⟩ _
    have hsn := crcL_snoc c pre x
    rw [stn8_table] at hsn
    have Hsn := Lib.hid hsn
    clear hsn
    generalize crcL c pre = d at hc Hsn
    have hw : IntKind.u8.wrap (d.toNat : Int) = ((UInt8.ofNat d.toNat).toNat : Int) := wrap_u8 _
    generalize UInt8.ofNat d.toNat = y at hw Hsn
    have hx8 : bits .xor .u8 (y.toNat : Int) (x.toNat : Int) = ((y ^^^ x).toNat : Int) := by
      rw [u8_xor_nat _ _ y.toNat_lt x.toNat_lt, UInt8.toNat_xor]
    generalize y ^^^ x = q at hx8 Hsn
    have hq := q.toNat_lt
    have hcq := ht q.toNat hq
    have Ht := Lib.hid ht
    clear ht hcb hcf
    gi_wp2
    gi_region
    all_goals gi_wp2
    all_goals
      have hx : Value.int .u32 (bits .xor .u32 ((d.toNat : Int) / 256) ((ent q.toNat).toNat : Int)) = reg (crcL c (pre ++ [x])) := by
        rw [reg_byte, reg_xor, Hsn.out]; rfl
      rw [hx]
      refine ⟨(KeepsOthers.setCell W ⟨w.heap.size, 0, none⟩ _).trans (KeepsOthers.drew _), ((Below.refl w.heap.size W).setCell (p := ⟨w.heap.size, 0, none⟩) (Nat.le_refl _) _).drew, ⟨?_, ?_, ?_⟩, (hB.setCell (p := ⟨w.heap.size, 0, none⟩) (Nat.le_refl _) _).drew⟩
      · exact World.cell?_setCell_same' W ⟨w.heap.size, 0, none⟩ _ (by rw [hc]; rfl)
      · show (W.setCell ⟨w.heap.size, 0, none⟩ _).frozen? _ = false
        rw [World.frozen?_setCell]; exact hf
      · intro b hb
        show (W.setCell ⟨w.heap.size, 0, none⟩ _).cell? _ = _
        rw [World.cell?_setCell_other _ _ _ _ (by intro e; injection e with e; omega)]
        exact Ht.out b hb
  case done =>
    rintro D ys W hD rfl ⟨⟨hc, _⟩, hB⟩ hK
    gi_wp2
    refine ⟨by simp, .inl ⟨_, _, rfl, run_takeDeferred hK, ?_⟩⟩
    exact ⟨_, results_tmp rfl _ _ _, rfl, hB.trans (belowK_b (w := w) (Nat.le_refl _) W D _ _ (by rw [Hsz0.out] at hD; omega) hK rfl rfl)⟩
  case stop =>
    rintro D c pre W _ _ h _
    exact h.elim
end Go.Proofs.Ytdhobioobhhdhaa
