/- Layer 3 (dev): Loose. -/
import Derived.Test.YtoogedjeclcdbaaDev10
import Derived.Maps.AppendAt
import Derived.RangeFuncBox
namespace Go.Proofs.Ytoogedjeclcdbaa
open Go.RowKit Go.Maps Go.Shelf
set_option linter.unusedVariables false
attribute [local go_sem] Oper.semAt_some
/-- An append of ints: the walk doesn't open it. -/
def intAppend (args : Array Value) : Sem Value := Builtin.append_ #[38, 38] 38 args
@[go_sem ↓] theorem int_append_fold (args : Array Value) : Builtin.append_ #[38, 38] 38 args = intAppend args := rfl
theorem intInfo : (Try.prog.info? 3).map (fun i => (i.zero, i.size, i.bytes)) = some (some (.int .i64 0), 1, 8) := by kernel_rfl
abbrev encI (i : Nat) : Value := .int .i64 (i : Int)
structure LooseI (S : Nat → Prop) (w : World) (b g c m Bl p : Nat) (xs : List Nat) (M : Dv) (V : World) : Prop where
  dev : ∃ vals, DevIn S V b g c m vals M
  only : Only (fun k => k = Bl) w V
  row : ∃ v, V.cell? ⟨Bl, 0, none⟩ = some v ∧ V.frozen? ⟨Bl, 0, none⟩ = false ∧ V.ownsRow (w.heap.size + 2) 3 1 v xs.length (xs.map encI) ∧ ∀ k, v.ownBlock = some k → k ≠ p
theorem LooseI.same {S : Nat → Prop} {w : World} {b g c m Bl p : Nat} {xs : List Nat} {M : Dv} {V V' : World} (h : LooseI S w b g c m Bl p xs M V) (hlt : ∀ k, S k → k < w.heap.size) (hB : Bl < w.heap.size)
    (ho : V'.os = V.os) (ht : V'.tape = V.tape) (hu : V'.output = V.output) (hs : V.heap.size ≤ V'.heap.size) (hk : ∀ k, k < V.heap.size → k ≠ w.heap.size → k ≠ w.heap.size + 1 → V'.heap[k]? = V.heap[k]?) : LooseI S w b g c m Bl p xs M V' := by
  obtain ⟨⟨vals, hd⟩, hO, v, hc, hf, hw, hp⟩ := h
  have hsz := hO.size
  refine ⟨⟨vals, hd.kept hs (fun k hS => hk k (hd.lt k hS) (by have := hlt k hS; omega) (by have := hlt k hS; omega))⟩, ⟨ho.trans hO.os, ht.trans hO.tape, hu.trans hO.output, Nat.le_trans hO.size hs, fun k hkl hn => (hk k (by omega) (by omega) (by omega)).trans (hO.block k hkl hn)⟩,
    v, (cell_same 0 (hk Bl (by omega) (by omega) (by omega))).trans hc, (World.frozen?_of_block (a := ⟨Bl, 0, none⟩) (hk Bl (by omega) (by omega) (by omega))).trans hf, ?_, hp⟩
  refine ⟨hw.1, ?_⟩
  rcases hw.2 with h0 | ⟨g', cap, cur, hv, hb, hg, hr⟩
  · exact .inl h0
  · exact .inr ⟨g', cap, cur, hv, hb, (hk g' (Array.getElem?_eq_some_iff.1 hg).1 (by omega) (by omega)).trans hg, hr⟩
theorem LooseI.put {S : Nat → Prop} {w : World} {b g c m Bl p : Nat} {xs : List Nat} {M : Dv} {V : World} (h : LooseI S w b g c m Bl p xs M V) (hlt : ∀ k, S k → k < w.heap.size) (hB : Bl < w.heap.size) (l : Nat) (o : Obj) (h1 : w.heap.size ≤ l) (h2 : l ≤ w.heap.size + 1) : LooseI S w b g c m Bl p xs M (V.putObj l o) :=
  h.same hlt hB rfl rfl rfl (by simp) (fun k _ h3 h4 => World.putObj_heap_other (by omega))
theorem LooseI.below {S : Nat → Prop} {w : World} {b g c m Bl p : Nat} {xs : List Nat} {M : Dv} {V V' : World} (h : LooseI S w b g c m Bl p xs M V) (hlt : ∀ k, S k → k < w.heap.size) (hB : Bl < w.heap.size) (hb : Below V.heap.size V V') : LooseI S w b g c m Bl p xs M V' :=
  h.same hlt hB hb.os hb.tape hb.output hb.size (fun k hk _ _ => hb.block k hk)
set_option maxRecDepth 100000 in
set_option maxHeartbeats 2000000 in
theorem looseFn_any {S : Nat → Prop} {W : World} {b : Nat} {M : Dv} (h : DevAt S W b M) :
    Calls Try.prog 15 #[devp b] W fun e w' => ∃ v, e = .returned v ∧ Row w' v (M.loose.map encI) ∧ (∀ k, v.ownBlock = some k → W.heap.size ≤ k ∧ k < w'.heap.size) ∧ Below W.heap.size W w' := by
  obtain ⟨g, c, m, vals, hI⟩ := h
  refine (callsIn_wide (n := 8)).1 ?_
  refine callsIn_of_wp_marks Try.func15 rfl trivial ?_ rfl
  simp only [Try.ntmps15, List.size_toArray, List.length_cons, List.length_nil, Nat.reduceAdd, Nat.reduceSub, Array.replicate_succ, Array.replicate_zero, List.push_toArray, List.append_toArray, List.nil_append, List.cons_append]
  have HI := Lib.hid hI
  clear hI
  gi_wp2_with fail
  refine ⟨trivial, (callsIn_wide.2 (loose_any _ _)).mono ?_⟩
  rintro e w2 ⟨rfl, rfl⟩
  gi_wp2_with fail
  obtain ⟨W0, hW0⟩ : ∃ W0, (W.alloc (.cells #[Value.slice none 0 0] 38)).alloc (.cells #[devp b] 25) = W0 := ⟨_, rfl⟩
  have hs0 : W0.heap.size = W.heap.size + 2 := by rw [← hW0]; simp
  have hB0 : Below W.heap.size W W0 := by rw [← hW0]; exact ((Below.refl _ W).alloc (Nat.le_refl _) _).alloc (by simp) _
  have hg1 : W0.heap[W.heap.size]? = some (.cells #[Value.slice none 0 0] 38 (0, 0)) := by
    rw [← hW0, Below.heap_alloc _ _ _ (by simp)]; exact heap_new _ _ _ rfl
  have hg2 : W0.heap[W.heap.size + 1]? = some (.cells #[devp b] 25 (0, 0)) := by
    rw [← hW0]; exact heap_new _ _ _ (by simp)
  rw [hW0]
  have hI := HI.out
  have hlt0 : ∀ k, S k → k < W0.heap.size := fun k hk => by have := hI.lt k hk; omega
  have hBk : W.heap.size < W0.heap.size := by omega
  have hD0 : DevIn S W0 b g c m vals M := hI.kept hB0.size (fun k hk => hB0.block k (hI.lt k hk))
  have hno : ∀ k, W.heap.size ≤ k → ¬ S k := fun k hk hs => by have := hI.lt k hs; omega
  have hbox : ∀ (p : Nat) (xs : List Nat) (V : World), LooseI S W0 b g c m W.heap.size p xs M V → V.cell? ⟨W.heap.size + 1, 0, none⟩ = some (devp b) ∧ V.cell? ⟨b, 3, none⟩ = some (.map (some m)) := by
    rintro p xs V ⟨⟨vals', hd'⟩, ho, _⟩
    exact ⟨(cell_same 0 (ho.block _ (by omega) (by omega))).trans (cell_of_row _ _ 0 _ _ _ hg2), hd'.head.c3⟩
  have h00 : ∀ p, LooseI S W0 b g c m W.heap.size p [] M W0 := fun p => ⟨⟨vals, hD0⟩, Only.refl _ _, .slice none 0 0, cell_of_row _ _ 0 _ _ _ hg1, frozen_of_row _ _ 0 _ _ hg1, World.ownsRow_nil _ _ _ _, fun k hk => by cases hk⟩
  have Hbox := Lib.hid hbox
  clear hbox hI hg1 hg2 hW0
  refine range_told (n := 8) (by decide) (gf := 30) (lb := #[.pointer (some ⟨W.heap.size + 1, 0, none⟩)]) rfl (enters_of Try.func30 (by kernel_rfl) rfl) M.loose.length
    (fun j args V => ∃ v, args = #[.int .i64 ((M.loose.getD j 0 : Nat) : Int), v])
    (fun p j V => LooseI S W0 b g c m W.heap.size p (M.loose.take j) M V) ?hit ?h0 ?hput
    (fun p j a' V => LooseI S W0 b g c m W.heap.size p (M.loose.take j) M V ∧ ∃ v, a' = { tmps := #[devp b, undef, .slice none 0 0, .pointer (some ⟨W.heap.size, 0, none⟩), .int .i64 ((M.loose.getD j 0 : Nat) : Int), devp b, .bool false, devp b, .func (.func 30) #[] #[.pointer (some ⟨W.heap.size + 1, 0, none⟩)], .int .i64 ((M.loose.getD j 0 : Nat) : Int), v, undef, undef, undef, undef, undef], defers := [] }) ?hAx ?hassign ?hbody ?hdone
  case hit =>
    intro l J V hJI hst hrd hb
    have hV := (h00 0).below hlt0 hBk hb
    have hV0 := hD0.kept hb.size (fun k hk => hb.block k (hlt0 k hk))
    obtain ⟨hbx, hb3⟩ := Hbox.out _ _ _ hV
    refine loose1_in l (W.heap.size + 1) b m M.n (entry M.row vals) V hbx hb3 hV0.ro.map hD0.fine.n M.loose (M.loose_keys vals) J (fun p j V' hJ => Hbox.out _ _ _ (hJI p j V' hJ)) hst ?_
    intro p j hj V1 hJ
    obtain ⟨⟨vals', hd'⟩, _⟩ := hJI p j V1 hJ
    have hget : M.loose.getD j 0 = M.loose[j] := by rw [List.getD_eq_getElem?_getD, List.getElem?_eq_getElem hj]; rfl
    have hmem := (Dv.mem_loose (M := M)).1 (List.getElem_mem hj)
    obtain ⟨A, cap, hl, _⟩ := look_row hd' M.loose[j] hmem.1
    refine ⟨_, hl, hrd p j hj _ V1 hJ ⟨_, by rw [hget]⟩⟩
  case h0 =>
    intro p V hb _ _
    rw [List.take_zero]
    exact (h00 p).below hlt0 hBk hb
  case hput =>
    intro p j V l o hl hl2 h
    exact h.put hlt0 hBk l o hl hl2
  case hAx =>
    rintro p j a' V l o hl hl2 ⟨hD, v, rfl⟩
    exact ⟨hD.put hlt0 hBk l o hl hl2, v, rfl⟩
  case hassign =>
    rintro l p j args V hj hp1 hp2 hD ⟨v, rfl⟩
    refine ⟨rfl, ?_⟩
    have HD := Lib.hid hD
    clear hD
    generalize M.loose.getD j 0 = x
    gi_wp2
    exact ⟨KeepB.refl _ _ _, HD.out, v, rfl⟩
  case hbody =>
    rintro l p j a' V hj hp1 hp2 ⟨hD, rv, rfl⟩
    have hget : M.loose.getD j 0 = M.loose[j] := by rw [List.getD_eq_getElem?_getD, List.getElem?_eq_getElem hj]; rfl
    have hlen : M.loose.length ≤ 4096 := by
      have := List.length_filter_le (fun i => !(M.row i).isEmpty) (List.range M.n)
      have := HI.out.fine.n
      simp only [Dv.loose, List.length_range] at *
      omega
    obtain ⟨⟨vals', hd'⟩, ho, v, hc, hf, hw, hp⟩ := hD
    have hsz := ho.size
    have hlt : (M.loose.take j).length = j := by rw [List.length_take]; omega
    obtain ⟨i, hi, hz, hsi, hby⟩ := info_parts intInfo
    obtain ⟨v', W2, hap, hown, hg, _, hor⟩ := run_append_own_at (P := Try.prog) (w := V.alloc (.cells #[encI M.loose[j]] 3)) (W0.heap.size + 2) 38 38 3 i _ 1 8 Try.underlying38 hi hz hsi hby rfl (by decide) v _ _ (hw.alloc _) ⟨V.heap.size, 0, none⟩ 1 1 [encI M.loose[j]] rfl (cell_one_new _ _ _) (by intro u hu; simp at hu; subst hu; rfl) (by rw [hlt]; unfold maxLen; omega) (by rw [hlt]; omega) (by simp; omega)
    have hown' := hown
    rw [hlt] at hown'
    obtain ⟨g', cap', rfl⟩ := ownsRow_succ hown'
    have hvb : ∀ k, v.ownBlock = some k → W0.heap.size + 2 ≤ k ∧ k < V.heap.size := fun k hk => hw.lt k hk
    have hsz2 : V.heap.size + 1 ≤ W2.heap.size := by have := hg.size; simpa using this
    have hkeep : ∀ k, k < V.heap.size → v.ownBlock ≠ some k → W2.heap[k]? = V.heap[k]? := fun k hk hne => (hg.block k (by simp; omega) (fun e => hne e.symm)).trans (Below.heap_alloc V _ k hk)
    have hlow : ∀ k, k < W0.heap.size + 2 → W2.heap[k]? = V.heap[k]? := by
      intro k hk
      by_cases hkv : k < V.heap.size
      · exact hkeep k hkv (fun e => by have := hvb k e; omega)
      · exfalso; omega
    have hc2 : W2.cell? ⟨W.heap.size, 0, none⟩ = some v := (cell_same 0 (hlow _ (by omega))).trans hc
    have hf2 : W2.frozen? ⟨W.heap.size, 0, none⟩ = false := (World.frozen?_of_block (a := ⟨W.heap.size, 0, none⟩) (hlow W.heap.size (by omega))).trans hf
    have hset : ∀ k, k ≠ W.heap.size → (W2.setCell ⟨W.heap.size, 0, none⟩ (.slice (some ⟨g', 0, none⟩) (j + 1) cap')).heap[k]? = W2.heap[k]? := fun k hk => set_other _ _ _ _ _ hk
    have hfin : KeepB W0.heap.size p V (W2.setCell ⟨W.heap.size, 0, none⟩ (.slice (some ⟨g', 0, none⟩) (j + 1) cap')) ∧ LooseI S W0 b g c m W.heap.size p (M.loose.take (j + 1)) M (W2.setCell ⟨W.heap.size, 0, none⟩ (.slice (some ⟨g', 0, none⟩) (j + 1) cap')) := by
      refine ⟨⟨?_, ?_, ?_⟩, ⟨vals', ?_⟩, ?_, _, set_here _ hc2, by rw [World.frozen?_setCell]; exact hf2, ?_, ?_⟩
      · rw [hset _ (by omega)]; exact hlow _ (by omega)
      · rw [hset _ (by omega)]; exact hlow _ (by omega)
      · rw [hset _ (by omega)]; exact hkeep p hp2 (fun e => hp p e rfl)
      · refine hd'.kept (by rw [set_size]; omega) (fun k hk => ?_)
        have := hlt0 k hk
        rw [hset k (fun e => hno _ (Nat.le_refl _) (e ▸ hk))]
        exact hlow k (by omega)
      · refine ⟨hg.os.trans ho.os, hg.tape.trans ho.tape, hg.output.trans ho.output, by rw [set_size]; omega, fun k hk hn => ?_⟩
        rw [hset k hn, hlow k (by omega)]
        exact ho.block k hk hn
      · have e1 : (M.loose.take (j + 1)).map encI = (M.loose.take j).map encI ++ [encI M.loose[j]] := by
          rw [List.take_succ_eq_append_getElem hj, List.map_append]; rfl
        have e2 : (M.loose.take (j + 1)).length = (M.loose.take j).length + 1 := by simp only [List.length_take]; omega
        rw [e1, e2]
        exact ownsRow_setCell_below hown (by show W.heap.size < _; omega) _
      · intro k hk
        rcases hor with e | e
        · rw [e] at hk; exact hp k hk
        · rw [e] at hk; cases hk; simp; omega
    rw [hget]
    have HF := Lib.hid hfin
    have HL := Lib.hid hlt
    clear hfin hkeep hlow hset hvb hown hg hor hw hp hd' ho hget hown'
    generalize M.loose[j] = x at hap HF ⊢
    change (intAppend #[v, .slice (some ⟨V.heap.size, 0, none⟩) 1 1]).run Try.prog _ = _ at hap
    gi_wp2
    exact HF.out
  case hdone =>
    intro p V hD hK
    rw [List.take_length] at hD
    obtain ⟨⟨vals2, hd2⟩, ho2, v, hc, hf, hw, _⟩ := hD
    have hbl : Below W.heap.size W0 V := ho2.below (by omega) (fun k e => by omega)
    have HB := Lib.hid (hB0.trans hbl)
    have HW := Lib.hid hw
    clear hbl ho2 hw
    gi_wp2
    refine ⟨by simp, .inl ⟨_, _, rfl, run_takeDeferred hK, ?_⟩⟩
    have hne : ∀ k, k ≠ W0.heap.size → (V.putObj W0.heap.size (.deferred none)).heap[k]? = V.heap[k]? := fun k hk => World.putObj_heap_other hk
    refine ⟨_, results_tmp rfl _ _ _, v, rfl, ?_, fun k hk => by have := HW.out.lt k hk; rw [World.putObj_size]; omega, ?_⟩
    · have hr := row_of_own HW.out
      obtain ⟨A, cc, hv, hcells⟩ := hr
      refine ⟨A, cc, hv, fun q u hu => ?_⟩
      obtain ⟨gg, hA, hcell⟩ := hcells q u hu
      refine ⟨gg, hA, ?_⟩
      subst hA
      have hgg := (HW.out.lt gg (by rw [hv]; rfl)).1
      exact (cell_same q (hne gg (by omega))).trans hcell
    · refine ⟨HB.out.os, HB.out.tape, HB.out.output, by rw [World.putObj_size]; exact HB.out.size, fun k hk => ?_⟩
      rw [hne k (by omega)]; exact HB.out.block k hk
end Go.Proofs.Ytoogedjeclcdbaa
