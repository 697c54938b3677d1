/- Layer 10 (dirs), the document's own answers: Find, List. -/
import Derived.Test.YtmidoghjacmdcaaDirs7
import Derived.Test.YtmidoghjacmdcaaDirsM2
namespace Go.Proofs.Ytmidoghjacmdcaa
open Go.RowKit Go.Lib
set_option linter.unusedVariables false
set_option linter.unusedSimpArgs false
set_option maxRecDepth 10000
theorem formL_ents {s : List UInt8} (h : chk s = 0) : formL s = ents s := by
  unfold ents formL
  rw [if_pos h, if_pos]
  unfold chk at h
  split at h
  · assumption
  · cases h
theorem formB_ok {s : List UInt8} (h : chk s = 0) : formB s = true := by
  unfold chk at h
  split at h
  · assumption
  · cases h
theorem chk_ne {s : List UInt8} (h : chk s ≠ 0) : (((chk s : Nat) : Int) != 0) = true := by simp; omega
/-- What Find answers. -/
def fndV (l : List En) (n : List UInt8) : Value := .tuple #[.int .u32 (fIno l n : Nat), .int .i64 (fAt l n : Nat), .bool (fIs l n)]
set_option maxRecDepth 100000 in
set_option maxHeartbeats 4000000 in
theorem refFind_any (s n : List UInt8) (w : World) (hs : s.length ≤ maxLen) :
    Calls Try.prog 16 #[str s, str n] w fun e w' => e = .returned (fndV (ents s) n) ∧ Below w.heap.size w w' := by
  have HS := Lib.hid fun W => refSlots_any s W hs
  have HC := Lib.hid fun W => refCheck_any s W hs
  by_cases h0 : chk s = 0
  · rw [formL_ents h0, formB_ok h0] at HS
    have hlen := ents_le s
    have Hok := Lib.hid (ents_ok s)
    rw [h0] at HC
    clear h0
    generalize ents s = l at *
    go_enter Try.func16, Try.ntmps16
    go_wp2_with fail
    refine (HS.out _).mono ?_
    rintro e w1 ⟨⟨v, rfl, hown⟩, hb1⟩
    have hrow := hown.row
    obtain ⟨A, c, rfl⟩ := hrow.form
    have HR := Lib.hid hrow
    have HB1 := Lib.hid hb1
    clear hown hrow hb1 HS
    go_wp2_with fail
    refine (HC.out _).mono ?_
    rintro e w2 ⟨rfl, hb2⟩
    have HR2 := Lib.hid (HR.out.below hb2)
    have HB2 := Lib.hid (HB1.out.trans (hb2.mono HB1.out.size))
    clear hb2 HR HB1 HC
    go_wp2_with fail
    go_loopw [9] (fun i9 wr => ∃ k : Nat, k ≤ l.length ∧ i9 = .int .i64 k ∧ (∀ j y, j < k → l[j]? = some y → y.i = 0 ∨ y.n ≠ n) ∧ Below w2.heap.size w2 wr) (fun i _ => l.length - (Go.RowKit.intOf i).toNat)
    case atStart => exact ⟨0, Nat.zero_le _, rfl, fun j y h => absurd h (Nat.not_lt_zero _), Below.refl _ _⟩
    case round =>
      obtain ⟨k, hk, rfl, hno, hb⟩ := hrel
      have Hno := Lib.hid hno
      have HB := Lib.hid hb
      clear hno hb
      by_cases hlt : k < l.length
      · have hltz : (k : Int) < (l.length : Int) := by omega
        obtain ⟨x, hx⟩ : ∃ x, l[k]? = some x := ⟨l[k], List.getElem?_eq_getElem hlt⟩
        have hrow := HR2.out.below HB.out
        obtain ⟨g, rfl, x0, x1⟩ := hrow.at hx
        have hxo := Hok.out x (List.mem_of_getElem? hx)
        have Hx := Lib.hid hx
        have Hxo := Lib.hid hxo
        clear hrow hx hxo
        by_cases hx0 : x.i = 0
        · have q1 : ((x.i : Int) != 0) = false := by rw [hx0]; rfl
          have Hx0 := Lib.hid hx0
          clear hx0
          go_wp2_with fail
          go_roundw
          case rel =>
            refine ⟨k + 1, by omega, by go_num, fun j z hj hz => ?_, HB.out⟩
            rcases Nat.lt_or_ge j k with h | h
            · exact Hno.out j z h hz
            · obtain rfl : j = k := by omega
              obtain rfl := Option.some.inj (hz.symm.trans Hx.out)
              exact .inl Hx0.out
          case measure => simp [Go.RowKit.intOf]; omega
        · have q1 : ((x.i : Int) != 0) = true := by simp; omega
          by_cases hn : x.n = n
          · have hne : n ≠ [] := fun e => hx0 (by
              have := (Hxo.out.name_nil).1 (hn.trans e)
              rw [this]; rfl)
            have hlk : look l n = some k := look_hit hne Hx.out hn fun j y hj hy e => by
              rcases Hno.out j y hj hy with h | h
              · have h2 := (Hok.out y (List.mem_of_getElem? hy)).ino_zero.1 h
                rw [h2] at e
                exact hne e.symm
              · exact h e
            have HF := Lib.hid (show fndV l n = .tuple #[.int .u32 (x.i : Int), .int .i64 (k : Int), .bool true] by
              unfold fndV; rw [fIno_some hlk Hx.out, fAt_some hlk, fIs_some hlk])
            rw [hn] at x0
            clear hx0 hn hne hlk
            go_wp2_with fail
            go_ret3
            exact ⟨by rw [HF.out]; rfl, HB2.out.trans (HB.out.mono HB2.out.size)⟩
          · have q3 : (x.n == n) = false := by simp [hn]
            have Hn := Lib.hid hn
            clear hx0
            go_wp2_with fail
            go_roundw
            case rel =>
              refine ⟨k + 1, by omega, by go_num, fun j z hj hz => ?_, HB.out⟩
              rcases Nat.lt_or_ge j k with h | h
              · exact Hno.out j z h hz
              · obtain rfl : j = k := by omega
                obtain rfl := Option.some.inj (hz.symm.trans Hx.out)
                exact .inr Hn.out
            case measure => simp [Go.RowKit.intOf]; omega
      · have hltz : ¬ (k : Int) < (l.length : Int) := by omega
        have hlk : look l n = none := by
          by_cases hn : n = []
          · exact look_miss (.inl hn)
          · refine look_miss (.inr fun y hy e => ?_)
            obtain ⟨j, hj⟩ := List.getElem?_of_mem hy
            have hjl := (List.getElem?_eq_some_iff.1 hj).1
            rcases Hno.out j y (by omega) hj with h | h
            · have h2 := (Hok.out y hy).ino_zero.1 h
              rw [h2] at e
              exact hn e.symm
            · exact h e
        have HF := Lib.hid (show fndV l n = .tuple #[.int .u32 0, .int .i64 0, .bool false] by
          unfold fndV; rw [fIno_none hlk, fAt_none hlk, fIs_none hlk]; rfl)
        clear hlk
        go_wp2_with fail
        go_ret3
        exact ⟨by rw [HF.out]; rfl, HB2.out.trans (HB.out.mono HB2.out.size)⟩
  · have q := chk_ne h0
    have hlk : look (ents s) n = none := by rw [ents_bad h0]; exact look_miss (.inr (by simp))
    have HF := Lib.hid (show fndV (ents s) n = .tuple #[.int .u32 0, .int .i64 0, .bool false] by
      unfold fndV; rw [fIno_none hlk, fAt_none hlk, fIs_none hlk]; rfl)
    clear h0 hlk
    generalize chk s = z at *
    go_enter Try.func16, Try.ntmps16
    go_wp2_with fail
    refine (HS.out _).mono ?_
    rintro e w1 ⟨⟨v, rfl, -⟩, hb1⟩
    have HB1 := Lib.hid hb1
    clear hb1 HS
    go_wp2_with fail
    refine (HC.out _).mono ?_
    rintro e w2 ⟨rfl, hb2⟩
    have HB2 := Lib.hid (HB1.out.trans (hb2.mono HB1.out.size))
    clear hb2 HB1 HC
    go_wp2_with fail
    go_ret3
    exact ⟨by rw [HF.out]; rfl, HB2.out⟩
def takenB (x : En) : Bool := x != En.free
theorem taken_filter (l : List En) : (l.filter fun x => x != En.free) = l.filter takenB := rfl
/-- A row of entries among what the call owns: stays so through a call. -/
theorem OwnE.below {W W' : World} {base : Nat} {v : Value} {l : List En} (h : OwnE W base v l) (hb : Below W.heap.size W W') : OwnE W' base v l := own_below h hb
set_option maxRecDepth 100000 in
set_option maxHeartbeats 4000000 in
theorem refList_any (s : List UInt8) (w : World) (hs : s.length ≤ maxLen) :
    Calls Try.prog 24 #[str s] w fun e w' => (∃ v, e = .returned v ∧ EntRow w' v (lst s)) ∧ Below w.heap.size w w' := by
  have HS := Lib.hid fun W => refSlots_any s W hs
  have HC := Lib.hid fun W => refCheck_any s W hs
  by_cases h0 : chk s = 0
  · rw [formL_ents h0, formB_ok h0] at HS
    have hlen := ents_le s
    have Hok := Lib.hid (ents_ok s)
    have HL := Lib.hid (show lst s = (ents s).filter takenB from rfl)
    rw [h0] at HC
    clear h0
    generalize ents s = l at *
    go_enter Try.func24, Try.ntmps24
    go_wp2_with fail
    refine (HS.out _).mono ?_
    rintro e w1 ⟨⟨v, rfl, hown⟩, hb1⟩
    have hrow := hown.row
    obtain ⟨A, c, rfl⟩ := hrow.form
    have HR := Lib.hid hrow
    have HB1 := Lib.hid hb1
    clear hown hrow hb1 HS
    go_wp2_with fail
    refine (HC.out _).mono ?_
    rintro e w2 ⟨rfl, hb2⟩
    have HR2 := Lib.hid (HR.out.below hb2)
    have HB2 := Lib.hid (HB1.out.trans (hb2.mono HB1.out.size))
    clear hb2 HR HB1 HC
    go_wp2_with fail
    go_loopw [3, 6] (fun i3 i6 wr => ∃ k : Nat, k ≤ l.length ∧ i6 = .int .i64 k ∧ OwnE wr w2.heap.size i3 ((l.take k).filter takenB) ∧ Below w2.heap.size w2 wr) (fun _ i _ => l.length - (Go.RowKit.intOf i).toNat)
    case atStart => exact ⟨0, Nat.zero_le _, rfl, ⟨rfl, .inl ⟨rfl, rfl⟩⟩, Below.refl _ _⟩
    case round =>
      obtain ⟨k, hk, rfl, hown, hb⟩ := hrel
      have HB := Lib.hid hb
      clear hb
      by_cases hlt : k < l.length
      · have hltz : (k : Int) < (l.length : Int) := by omega
        obtain ⟨x, hx⟩ : ∃ x, l[k]? = some x := ⟨l[k], List.getElem?_eq_getElem hlt⟩
        have hrow := HR2.out.below HB.out
        obtain ⟨g, rfl, x0, x1⟩ := hrow.at hx
        have hxo := Hok.out x (List.mem_of_getElem? hx)
        have Hsn := Lib.hid (show l.take (k + 1) = l.take k ++ [x] by
          rw [List.take_succ_eq_append_getElem hlt]
          rw [List.getElem?_eq_getElem hlt] at hx
          rw [Option.some.inj hx])
        have hfl : ((l.take k).filter takenB).length ≤ 1048576 := by
          have h1 := List.length_filter_le takenB (l.take k)
          have h2 := List.length_take_le k l
          omega
        clear hrow hx
        by_cases hx0 : x.i = 0
        · have q1 : ((x.i : Int) != 0) = false := by rw [hx0]; rfl
          have Hf := Lib.hid (show takenB x = false by rw [hxo.ino_zero.1 hx0]; rfl)
          have Ho := Lib.hid hown
          clear hx0 hxo hown hfl
          go_wp2_with fail
          go_roundw
          case rel =>
            refine ⟨k + 1, by omega, by go_num, ?_, HB.out⟩
            rw [Hsn.out, List.filter_append, List.filter_cons, Hf.out]
            simpa using Ho.out
          case measure => simp [Go.RowKit.intOf]; omega
        · have q1 : ((x.i : Int) != 0) = true := by simp; omega
          have Hf := Lib.hid (show takenB x = true by
            unfold takenB
            rw [bne_iff_ne]
            intro e
            exact hx0 (hxo.ino_zero.2 e))
          clear hx0 hxo
          have c0 := cell_of_row (wr.alloc (.cells #[str x.n, .int .u32 (x.i : Int)] 34)) wr.heap.size 0 _ _ _ (heap_alloc_new _ _)
          have c1 := cell_of_row (wr.alloc (.cells #[str x.n, .int .u32 (x.i : Int)] 34)) wr.heap.size 1 _ _ _ (heap_alloc_new _ _)
          have hBW : Below w2.heap.size w2 (wr.alloc (.cells #[str x.n, .int .u32 (x.i : Int)] 34)) := HB.out.alloc HB.out.size _
          obtain ⟨v', W', hap, hown', hb'⟩ := append_ent _ w2.heap.size u3 _ x (hown.alloc (.cells #[str x.n, .int .u32 (x.i : Int)] 34)) wr.heap.size 1 c0 c1 hfl hBW.size
          have HO := Lib.hid hown'
          have HB3 := Lib.hid (hBW.trans hb')
          clear c0 c1 hBW hown' hb' hown hfl
          go_wp2_with fail
          go_roundw
          case rel =>
            refine ⟨k + 1, by omega, by go_num, ?_, HB3.out⟩
            rw [Hsn.out, List.filter_append, List.filter_cons, Hf.out]
            exact HO.out
          case measure => simp [Go.RowKit.intOf]; omega
      · have hltz : ¬ (k : Int) < (l.length : Int) := by omega
        have hil : l.take k = l := List.take_of_length_le (by omega)
        rw [hil] at hown
        have HO := Lib.hid hown
        clear hown hil
        go_wp2_with fail
        go_ret
        exact ⟨⟨_, rfl, by rw [HL.out]; exact HO.out.row⟩, HB2.out.trans (HB.out.mono HB2.out.size)⟩
  · have q := chk_ne h0
    have HL := Lib.hid (show lst s = [] by unfold lst; rw [ents_bad h0]; rfl)
    clear h0
    generalize chk s = z at *
    go_enter Try.func24, Try.ntmps24
    go_wp2_with fail
    refine (HS.out _).mono ?_
    rintro e w1 ⟨⟨v, rfl, -⟩, hb1⟩
    have HB1 := Lib.hid hb1
    clear hb1 HS
    go_wp2_with fail
    refine (HC.out _).mono ?_
    rintro e w2 ⟨rfl, hb2⟩
    have HB2 := Lib.hid (HB1.out.trans (hb2.mono HB1.out.size))
    clear hb2 HB1 HC
    go_wp2_with fail
    go_ret
    exact ⟨⟨_, rfl, by rw [HL.out]; exact EntRow.nil _⟩, HB2.out⟩
end Go.Proofs.Ytmidoghjacmdcaa
