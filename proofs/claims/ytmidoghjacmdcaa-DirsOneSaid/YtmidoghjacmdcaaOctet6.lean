/- Layer 1 (octet), continued: Split, Same. -/
import Derived.Test.YtmidoghjacmdcaaOctet5
import Derived.Test.YtmidoghjacmdcaaBaseRows
namespace Go.Proofs.Ytmidoghjacmdcaa
open Go.RowKit
set_option linter.unusedVariables false
set_option linter.unusedSimpArgs false
set_option maxRecDepth 10000
theorem stringInfo : (Try.prog.info? 9).map (fun i => (i.zero, i.size, i.bytes)) = some (some (.string ⟨#[]⟩), 1, 16) := by kernel_rfl
set_option maxHeartbeats 400000 in
theorem split_bad (l : List UInt8) (n : Int) (w : World) (hn : n < 1) :
    Calls Try.prog 55 #[str l, .int .i64 n] w fun e w' => e = .returned (.tuple #[.slice none 0 0, .int .i64 2]) ∧ Below w.heap.size w w' := by
  go_enter Try.func55, Try.ntmps55
  go_wp2
  go_step3
  go_wp2
  rw [Exit.noGoto_ret]
  go_ret2
  exact ⟨rfl, Below.refl _ _⟩
set_option maxHeartbeats 800000 in
theorem split_ok (l : List UInt8) (n : Nat) (w : World) (hs : l.length ≤ 8192) (hn : 1 ≤ n) (hn2 : n ≤ 9223372036854775807) :
    Calls Try.prog 55 #[str l, .int .i64 n] w fun e w' => ∃ v, e = .returned (.tuple #[v, .int .i64 0]) ∧ w'.ownsRow w.heap.size 9 1 v (partsL n 8192 l).length ((partsL n 8192 l).map str) ∧ Below w.heap.size w w' := by
  go_enter Try.func55, Try.ntmps55
  go_wp2
  go_step3
  go_wp2
  go_step3
  go_wp2
  go_loopw [0, 6] (fun s v wr => ∃ (q : List UInt8) (acc : List (List UInt8)), s = str q ∧ q.length + acc.length ≤ l.length ∧ acc ++ partsL n 8192 q = partsL n 8192 l ∧ wr.ownsRow w.heap.size 9 1 v acc.length (acc.map str) ∧ Below w.heap.size w wr) (fun s _ _ => lenOf s)
  case atStart => exact ⟨l, [], rfl, by simp, by simp, World.ownsRow_nil _ _ _ _, Below.refl _ _⟩
  case round =>
    obtain ⟨q, acc, rfl, hq, hp, hown, hb⟩ := hrel
    have Hp := Lib.hid hp
    clear hp
    by_cases h0 : q = []
    · subst h0
      have hacc : partsL n 8192 l = acc := by rw [← Hp.out, partsL_nil, List.append_nil]
      have Hacc := Lib.hid hacc
      clear hacc
      go_wp2
      try rw [Exit.noGoto_ret]
      go_ret2
      exact ⟨_, rfl, by rw [Hacc.out]; exact hown, hb⟩
    · have hstep := partsL_step n 8192 q hn (by omega) h0
      have Hstep := Lib.hid hstep
      clear hstep
      have hne : q.isEmpty = false := by simp [h0]
      have hpos : 0 < q.length := List.length_pos_iff.2 h0
      by_cases hle : n ≤ q.length
      · go_wp2_with fail
        refine (cut_ok q n n _ (by simp only [maxLen]; omega) rfl hle).mono ?_
        rintro e w1 ⟨rfl, hb1⟩
        have hown1 := own_below hown hb1
        have hbw1 := chain hb hb1
        go_wp2_with (at_builtin; refine wpList_append_one rfl _ _ _ rfl 9 _ 16 Try.underlying81 stringInfo rfl _ _ _ rfl hown1 (str (q.take n)) _ _ rfl rfl rfl (by simp only [maxLen]; omega) (by omega) hbw1 ?_; intro v' w2 hown2 hbw2)
        go_roundw
        case rel =>
          refine ⟨q.drop n, acc ++ [q.take n], rfl, ?_, ?_, ?_, hbw2⟩
          · simp; omega
          · rw [← Hp.out, Hstep.out]; simp
          · simpa using hown2
        case measure => simp [lenOf, ByteArray.size]; omega
      · have hrest : partsL n 8192 q = [q] := by
          rw [Hstep.out, List.take_of_length_le (by omega), List.drop_of_length_le (by omega), partsL_nil]
        have hacc : partsL n 8192 l = acc ++ [q] := by rw [← Hp.out, hrest]
        have Hacc := Lib.hid hacc
        clear hacc hrest
        go_wp2_with fail
        refine (cut_far q n _ (by simp only [maxLen]; omega) (by omega)).mono ?_
        rintro e w1 ⟨rfl, hb1⟩
        have hown1 := own_below hown hb1
        have hbw1 := chain hb hb1
        go_wp2_with (at_builtin; refine wpList_append_one rfl _ _ _ rfl 9 _ 16 Try.underlying81 stringInfo rfl _ _ _ rfl hown1 (str q) _ _ rfl rfl rfl (by simp only [maxLen]; omega) (by omega) hbw1 ?_; intro v' w2 hown2 hbw2)
        try rw [Exit.noGoto_ret]
        go_ret2
        exact ⟨v', rfl, by rw [Hacc.out]; simpa using hown2, hbw2⟩
theorem str_inj {a b : List UInt8} (h : a ≠ b) : str a ≠ str b := by
  intro e
  injection e with e
  injection e with e
  exact h (by simpa using e)
end Go.Proofs.Ytmidoghjacmdcaa
