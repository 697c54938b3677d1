/- Layer 11 (image): has each block that is taken one owner? -/
import Derived.Test.YtnfiapjdkjbdhaaGreatImg29
namespace Go.Proofs.YtnfiapjdkjbdhaaGreat
open Go.RowKit Go.Maps Go.Lib
set_option linter.unusedVariables false
set_option linter.unusedSimpArgs false
set_option maxRecDepth 10000
section
variable {w W : World} {b jb tb mb rec : Nat} {G : Gm} {M : Dv} {L : PutL} {qs : List Res} {im : List UInt8} {tab : Nat → Im}
theorem zero_u32 (w : World) : (zeroValue 34).run Tryz.prog w = .ok (.int .u32 0) w := by kernel_rfl
/-- What stands between two blocks: the map has the blocks P. -/
structure OwI (B0 : Nat) (W wr : World) (gb m : Nat) (G : Gm) (f : Nat → Option Value) (P : List Nat) : Prop where
  map : QMap Tryz.prog 38 .u16 wr m 65536 f
  mem : ∀ c, (f c).isSome = true ↔ c ∈ P
  geo : GeoAt wr gb G.i G.b G.j
  below : Below W.heap.size W wr
  hm : W.heap.size ≤ m
  gm : gb ≠ m
theorem OwI.next {B0 gb m : Nat} {W wr V : World} {f : Nat → Option Value} {P : List Nat} (h : OwI B0 W wr gb m G f P) (hb : Below wr.heap.size wr V) : OwI B0 W V gb m G f P :=
  ⟨h.map.kept (hb.block m h.map.lt), h.mem, h.geo.below hb, h.below.trans (hb.mono h.below.size), h.hm, h.gm⟩
theorem OwI.look {B0 gb m : Nat} {W wr : World} {f : Nat → Option Value} {P : List Nat} (h : OwI B0 W wr gb m G f P) {c : Nat} (hc : c < 65536) (hn : c ∉ P) :
    (Instr.lookup 108 (.map (some m)) (w16 c) false).run Tryz.prog wr = .ok (.int .u32 0) wr := by
  have := h.map.look (t := 108) (e := 34) Tryz.underlying38 Tryz.underlying108 (z := .int .u32 0) (zero_u32 _) fits_u16 hc
  have hf : f c = none := by
    cases hf : f c with
    | none => rfl
    | some v => exact absurd ((h.mem c).1 (by rw [hf]; rfl)) hn
  rw [hf] at this
  exact this
theorem OwI.store {B0 gb m : Nat} {W wr : World} {f : Nat → Option Value} {P : List Nat} (h : OwI B0 W wr gb m G f P) {c : Nat} (hc : c < 65536) (x : Value) {v : Value} {l : List Nat} (hv : U16s wr v l) (hne : l ≠ []) :
    ∃ W', (Instr.mapUpdate 108 (.map (some m)) (w16 c) x).run Tryz.prog wr = .ok () W' ∧ OwI B0 W W' gb m G (updQ f c (some x)) (P ++ [c]) ∧ U16s W' v l := by
  obtain ⟨W', hup, hm2, hg⟩ := h.map.store (t := 108) (e := 34) Tryz.underlying38 Tryz.underlying108 (by omega) fits_u16 hc x
  refine ⟨W', hup, ⟨hm2, fun q => ?_, ?_, h.below.grown hg h.below.size (by intro j hj; cases hj; exact h.hm), h.hm, h.gm⟩, ?_⟩
  · by_cases e : q = c
    · subst e; simp [updQ]
    · rw [updQ_other _ _ e, h.mem]; simp [e]
  · have hlt : gb < wr.heap.size := (Array.getElem?_eq_some_iff.1 h.geo).1
    exact (hg.block gb hlt (fun e => h.gm (Option.some.inj e))).trans h.geo
  · refine u16s_keep hv fun _ k hk => ?_
    obtain ⟨A, cp, rfl, hcell⟩ := hv
    obtain ⟨y, hy⟩ : ∃ y, l[0]? = some y := by cases l with | nil => exact absurd rfl hne | cons a t => exact ⟨a, rfl⟩
    obtain ⟨a, rfl, hca⟩ := hcell 0 y hy
    obtain rfl : a.block = k := by simpa [Value.ownBlock] using hk
    have hlt := World.block_lt_of_cell? wr _ hca
    have hlt : a.block < wr.heap.size := by simpa [Addr.add] using hlt
    refine hg.block a.block hlt fun e => ?_
    obtain ⟨es, cc, hmm⟩ := h.map.isMap
    have e := Option.some.inj e
    rw [← e] at hmm
    unfold World.cell? at hca
    simp [Addr.add, hmm] at hca
theorem owns_le {v : Nat → List UInt8} {E : List Nat} (h : Own G v tab E) {n : Nat} (hn : n ≤ G.i) : (ownsL G v tab n).length ≤ G.b := by
  have := nodup_subI _ (List.range' 1 G.b) (ownsL_nodup h n hn) fun c hc => by
    obtain ⟨j, h1, h2, h3⟩ := (ownsL_mem n c).1 hc
    have hb := (h.ino j ⟨h1, by omega⟩).own h3
    exact List.mem_range'_1.2 ⟨hb.1, by have := hb.2; omega⟩
  simpa using this
set_option maxHeartbeats 8000000 in
set_option maxRecDepth 50000 in
theorem owned11 (h : ISys w W b jb tb mb rec G M L qs) (hd : Disk11 G (vw M.cur L) im tab) :
    Calls Tryz.prog 19 #[devp mb, gv G] W fun e w' => e = .returned (.bool true) ∧ Below W.heap.size W w' := by
  have h30 := h.sm.i
  have h60 := h.sm.b
  have HFr := Lib.hid fun V (hV : Below W.heap.size W V) => free11_any (h.below hV)
  have HBk := Lib.hid fun V (hV : Below W.heap.size W V) (j : Nat) (hj : Rg G j) => blocks11_ok (h.below hV) hd hj
  have HTb := Lib.hid fun V (hV : Below W.heap.size W V) (c : Nat) (hc : Bg G c) => takenBlock_ok (h.below hV) c hc
  have hcnt := owns_count hd.own
  have HO := Lib.hid hd.own
  have HCn := Lib.hid hcnt
  generalize leftV (vw M.cur L (G.off 2)) G.i = lf2 at *
  generalize leftV (vw M.cur L (G.off 3)) G.b = lf3 at *
  have hg0 : GeoAt (W.alloc (.cells #[.int .i64 (G.i : Int), .int .i64 (G.b : Int), .int .i64 (G.j : Int)] 23)) W.heap.size G.i G.b G.j := heap_alloc_new W _
  have hb0 : Below W.heap.size W (W.alloc (.cells #[.int .i64 (G.i : Int), .int .i64 (G.b : Int), .int .i64 (G.j : Int)] 23)) := (Below.refl _ _).alloc (Nat.le_refl _) _
  have HB0 := Lib.hid hb0
  have HG0 := Lib.hid hg0
  have hs0 : (W.alloc (.cells #[.int .i64 (G.i : Int), .int .i64 (G.b : Int), .int .i64 (G.j : Int)] 23)).heap.size = W.heap.size + 1 := by simp
  have HS0 := Lib.hid hs0
  clear h hd hcnt hg0 hb0 hs0
  go_enter Tryz.func19, Tryz.ntmps19
  go_wp2_with fail
  refine (HFr.out _ HB0.out).mono ?_
  rintro e w2 ⟨rfl, hb⟩
  have HI := Lib.hid (OwI.mk (B0 := 0) (W := W) (gb := W.heap.size) (G := G) (QMap.made w2 Tryz.prog 38 .u16 65536) (P := []) (fun c => by simp) ((HG0.out.below hb).below ((Below.refl _ _).alloc (Nat.le_refl _) _)) ((HB0.out.trans (hb.mono HB0.out.size)).alloc (HB0.out.trans (hb.mono HB0.out.size)).size _) (HB0.out.trans (hb.mono HB0.out.size)).size (by have := hb.size; rw [HS0.out] at this; omega))
  have hbw := Lib.hid (HB0.out.trans (hb.mono HB0.out.size))
  clear hb HFr HB0 HG0 HS0
  have hmk : (Instr.makeMap 108 none).run Tryz.prog w2 = .ok (.map (some w2.heap.size)) (w2.alloc (.map #[] 0)) := by
    have hu := Tryz.underlying108
    simp [Instr.makeMap, go_sem, hu]
  go_wp2_with fail
  generalize hw3 : w2.alloc (.map #[] 0) = w3 at *
  generalize w2.heap.size = m at *
  clear hw3 hmk
  go_loopw [9, 10] (fun s9 s10 wr => ∃ (n : Nat) (f : Nat → Option Value), n ≤ G.i ∧ s9 = .int .i64 ((ownsL G (vw M.cur L) tab n).length : Nat) ∧ s10 = .int .u32 ((n + 1 : Nat) : Int) ∧ OwI 0 W wr W.heap.size m G f (ownsL G (vw M.cur L) tab n)) (fun _ i _ => G.i + 1 - (Go.RowKit.intOf i).toNat)
  case atStart => exact ⟨0, _, Nat.zero_le _, rfl, rfl, HI.out⟩
  case round =>
    clear HI
    obtain ⟨n, f, hn, rfl, rfl, h1⟩ := hrel
    have H1 := Lib.hid h1
    obtain ⟨g0, g1, g2⟩ := h1.geo.cells
    have hgi : (G.i : Int) ≤ 30 := by omega
    clear h1
    by_cases hni : n + 1 ≤ G.i
    · have hnI : ((n + 1 : Nat) : Int) ≤ (G.i : Int) := by omega
      have hnN : (n : Int) + 1 ≤ (G.i : Int) := by omega
      have HB := Lib.hid (HBk.out _ H1.out.below (n + 1) ⟨by omega, hni⟩)
      have hle := owns_le HO.out hni
      have hsum : (ownsL G (vw M.cur L) tab (n + 1)).length = (ownsL G (vw M.cur L) tab n).length + (ownV G (vw M.cur L) (tab (n + 1))).length := by
        show (ownsL G (vw M.cur L) tab n ++ ownV G (vw M.cur L) (tab (n + 1))).length = _
        rw [List.length_append]
      have HNew := Lib.hid fun (k c : Nat) (hk : (ownV G (vw M.cur L) (tab (n + 1)))[k]? = some c) => And.intro (ownsL_new HO.out hni hk) (And.intro ((HO.out.ino (n + 1) ⟨by omega, hni⟩).own (List.mem_of_getElem? hk)) ((HO.out.bit c ((HO.out.ino (n + 1) ⟨by omega, hni⟩).own (List.mem_of_getElem? hk))).2 (.inr ⟨n + 1, ⟨by omega, hni⟩, List.mem_of_getElem? hk⟩)))
      have HSm := Lib.hid (show ownsL G (vw M.cur L) tab (n + 1) = ownsL G (vw M.cur L) tab n ++ ownV G (vw M.cur L) (tab (n + 1)) from rfl)
      generalize ownV G (vw M.cur L) (tab (n + 1)) = ow at *
      obtain ⟨ol, hol⟩ : ∃ ol, ol = ownsL G (vw M.cur L) tab n := ⟨_, rfl⟩
      rw [← hol] at hsum H1 HNew HSm ⊢
      obtain ⟨base, hbase⟩ : ∃ a, a = ol.length := ⟨_, rfl⟩
      rw [← hbase] at hsum ⊢
      have HBa := Lib.hid hbase
      have HOl := Lib.hid hol
      have HSum := Lib.hid hsum
      have hbl : base + ow.length ≤ 60 := by omega
      obtain ⟨i, hi⟩ : ∃ i, i = n + 1 := ⟨_, rfl⟩
      rw [← hi] at HB hnI ⊢
      have hi30 : i ≤ 30 := by omega
      have HIi := Lib.hid hi
      clear hle hsum hol hbase hi
      go_wp2_with fail
      refine HB.out.mono ?_
      rintro e w5 ⟨v, rfl, hu, hb⟩
      have H2 := Lib.hid (H1.out.next hb)
      have HU := Lib.hid hu
      obtain ⟨A, cp, rfl, -⟩ := hu
      clear hb g0 g1 g2 H1 HB
      go_wp2_with fail
      go_loopw [9, 13] (fun s9 s13 wr => ∃ (k : Nat) (f : Nat → Option Value), k ≤ ow.length ∧ s9 = .int .i64 ((base + k : Nat) : Int) ∧ s13 = .int .i64 k ∧ OwI 0 W wr W.heap.size m G f (ol ++ ow.take k) ∧ U16s wr (.slice A ow.length cp) ow) (fun _ i _ => ow.length - (Go.RowKit.intOf i).toNat)
      case atStart => exact ⟨0, f, Nat.zero_le _, by simp, rfl, by simpa using H2.out, HU.out⟩
      case round =>
        clear H2 HU
        obtain ⟨k, f2, hk, rfl, rfl, h3, hu⟩ := hrel
        have H3 := Lib.hid h3
        have HU := Lib.hid hu
        clear h3
        by_cases hkl : k < ow.length
        · obtain ⟨c, hc⟩ : ∃ c, ow[k]? = some c := ⟨_, List.getElem?_eq_getElem hkl⟩
          have hN := HNew.out k c hc
          obtain ⟨A2, cp2, hAe, hcell⟩ := hu
          obtain ⟨a, ha, hca⟩ := hcell k c hc
          have hA : A = some a := by cases hAe; exact ha
          subst hA
          have hkI : (k : Int) < (ow.length : Int) := by omega
          have hc16 : c < 65536 := by have := hN.2.1.2; omega
          have hT := HTb.out _ H3.out.below c hN.2.1
          rw [hN.2.2] at hT
          have HT := Lib.hid hT
          have HNn := Lib.hid hN.1
          have htk : ow.take (k + 1) = ow.take k ++ [c] := by rw [List.take_add_one, hc]; rfl
          have HTk := Lib.hid htk
          clear hcell hAe hN hT htk hc ha
          have hbk : ((base + k : Nat) : Int) ≤ 60 := by omega
          have hne : ow ≠ [] := by intro e; subst e; simp at hkl
          have HNe := Lib.hid hne
          have HKl := Lib.hid hkl
          clear hne hkl
          go_wp2_with fail
          refine HT.out.mono ?_
          rintro e w6 ⟨rfl, hb⟩
          have H4 := Lib.hid (H3.out.next hb)
          have hca6 := (hb.cell (World.block_lt_of_cell? wr _ hca)).trans hca
          have hlk := H4.out.look hc16 HNn.out
          obtain ⟨w7, hup, h5, hu5⟩ := H4.out.store hc16 (.int .u32 (i : Int)) (HU.out.below hb) HNe.out
          have H5 := Lib.hid h5
          have HU5 := Lib.hid hu5
          clear hb hca h5 hu5 H3 HU HT
          go_wp2_with fail
          go_roundw
          case rel => exact ⟨k + 1, _, by have := HKl.out; omega, by first | (simp; done) | (simp; omega), by simp, by rw [HTk.out, ← List.append_assoc]; exact H5.out, HU5.out⟩
          case measure => have := HKl.out; simp [Go.RowKit.intOf]; omega
        · obtain rfl : k = ow.length := by omega
          have hkI : ¬ ((ow.length : Nat) : Int) < ((ow.length : Nat) : Int) := by omega
          have HX := Lib.hid (show OwI 0 W _ W.heap.size m G f2 (ownsL G (vw M.cur L) tab (n + 1)) by rw [HSm.out]; have := H3.out; rw [List.take_of_length_le (Nat.le_refl _)] at this; exact this)
          go_wp2_with fail
          go_roundw
          case rel => exact ⟨n + 1, f2, hni, by rw [HSum.out], by rw [HIi.out]; simp, HX.out⟩
          case measure => have := HIi.out; simp [Go.RowKit.intOf]; omega
    · obtain rfl : n = G.i := by omega
      have hsub : (G.b : Int) - lf3 = ((ownsL G (vw M.cur L) tab G.i).length : Int) := HCn.out.symm
      have hle := owns_le HO.out (Nat.le_refl _)
      generalize (ownsL G (vw M.cur L) tab G.i).length = cnt at *
      have hl1 : lf3 ≤ (G.b : Int) := by omega
      have hl2 : 0 ≤ lf3 := by omega
      have hbI : (G.b : Int) ≤ 60 := by omega
      have hcI : (cnt : Int) ≤ 60 := by omega
      go_wp2_with fail
      go_ret
      exact ⟨rfl, H1.out.below⟩
end
end Go.Proofs.YtnfiapjdkjbdhaaGreat
