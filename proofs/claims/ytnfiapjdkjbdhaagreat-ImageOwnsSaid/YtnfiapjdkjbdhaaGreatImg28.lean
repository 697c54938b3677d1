/- Layer 11 (image): Enter, Leave. -/
import Derived.Test.YtnfiapjdkjbdhaaGreatQ16
import Derived.Test.YtnfiapjdkjbdhaaGreatImg27
namespace Go.Proofs.YtnfiapjdkjbdhaaGreat
open Go.RowKit Go.Maps Go.Lib
set_option linter.unusedVariables false
set_option linter.unusedSimpArgs false
set_option maxRecDepth 10000
theorem chg_len {s p : List UInt8} {k : Nat} (hp : p.length = 32) (hk : 32 * k + 32 ≤ s.length) : (Dirs.chg s k p).length = s.length := by
  unfold Dirs.chg
  simp only [List.length_append, List.length_take, List.length_drop, hp]
  omega
theorem addT_len {s : List UInt8} {x : Dirs.En} (h : Dirs.addE s x = 0) : (Dirs.addT s x).length % 64 = 0 ∧ (Dirs.addT s x).length ≤ 2304 := by
  by_cases hc : Dirs.chk s = 0
  · obtain ⟨l1, l2, l3⟩ := Dirs.ents_len hc
    have hm : Dirs.mayB x = true := by
      cases hm : Dirs.mayB x with
      | true => rfl
      | false => unfold Dirs.addE at h; rw [if_neg (by simp [hc]), if_pos hm] at h; cases h
    have hsl := Dirs.slotL_length (x := x) (Dirs.mayB_len hm).2.2
    unfold Dirs.addT
    rw [if_neg (by simp [h])]
    cases hg : Dirs.gap (Dirs.ents s) with
    | some k =>
      have hk := Dirs.gap_lt hg
      simp only
      rw [chg_len hsl (by omega)]
      omega
    | none =>
      simp only
      have h72 : (Dirs.ents s).length < 72 := by
        apply Decidable.byContradiction
        intro hn
        unfold Dirs.addE at h
        rw [if_neg (by simp [hc]), if_neg (by simp [hm])] at h
        split at h
        · cases h
        · rw [if_pos ⟨hg, by omega⟩] at h; cases h
      have hf := Dirs.freeL_length
      simp only [List.length_append, hsl, hf]
      omega
  · rw [(Dirs.add_bad hc).1] at h
    exact absurd h hc
theorem delT_len {s n : List UInt8} (h : Dirs.delE s n = 0) : (Dirs.delT s n).length % 64 = 0 ∧ (Dirs.delT s n).length ≤ 2304 := by
  by_cases hc : Dirs.chk s = 0
  · obtain ⟨l1, l2, l3⟩ := Dirs.ents_len hc
    unfold Dirs.delT
    rw [if_neg (by simp [h])]
    cases hl : Dirs.look (Dirs.ents s) n with
    | none => rw [(Dirs.del_none hc hl).1] at h; cases h
    | some k =>
      have hk := Dirs.look_lt hl
      unfold Dirs.fAt
      rw [hl]
      simp only
      rw [chg_len Dirs.freeL_length (by omega)]
      omega
  · rw [(Dirs.del_bad hc).1] at h
    exact absurd h hc
section
variable {w W : World} {b jb tb mb rec : Nat} {G : Gm} {M : Dv} {L : PutL} {qs : List Res} {im : List UInt8} {tab : Nat → Im}
set_option maxHeartbeats 1000000 in
theorem enter11_dead (k : Int) (s : List UInt8) (to_ : Nat) (t : List UInt8) (e0 : Int) (he : e0 ≠ 0)
    (ht : Calls Tryz.prog 29 #[devp mb, .int .u32 k] W fun e w' => e = .returned (.tuple #[str t, .int .i64 e0]) ∧ Below W.heap.size W w') :
    Calls Tryz.prog 17 #[devp mb, .int .u32 k, str s, .int .u32 (to_ : Int)] W fun e w' => e = .returned (.int .i64 e0) ∧ Below W.heap.size W w' := by
  have HT := Lib.hid ht
  have hne : (e0 != 0) = true := by simpa using he
  clear ht he
  go_enter Tryz.func17, Tryz.ntmps17
  go_wp2_with fail
  refine HT.out.mono ?_
  rintro e w1 ⟨rfl, hb⟩
  have HB := Lib.hid hb
  clear hb
  go_wp2_with fail
  go_ret
  exact ⟨rfl, HB.out⟩
set_option maxHeartbeats 1000000 in
theorem leave11_dead (k : Int) (s : List UInt8) (t : List UInt8) (e0 : Int) (he : e0 ≠ 0)
    (ht : Calls Tryz.prog 29 #[devp mb, .int .u32 k] W fun e w' => e = .returned (.tuple #[str t, .int .i64 e0]) ∧ Below W.heap.size W w') :
    Calls Tryz.prog 18 #[devp mb, .int .u32 k, str s] W fun e w' => e = .returned (.tuple #[.int .u32 0, .int .i64 e0]) ∧ Below W.heap.size W w' := by
  have HT := Lib.hid ht
  have hne : (e0 != 0) = true := by simpa using he
  clear ht he
  go_enter Tryz.func18, Tryz.ntmps18
  go_wp2_with fail
  refine HT.out.mono ?_
  rintro e w1 ⟨rfl, hb⟩
  have HB := Lib.hid hb
  clear hb
  go_wp2_with fail
  go_ret2
  exact ⟨rfl, HB.out⟩
theorem textZ (hd : Disk11 G (vw M.cur L) im tab) {j : Nat} (hj : Rg G j) (hk : (tab j).k = 2) : (textV G (vw M.cur L) (tab j) (pagesN (tab j).z)).length = (tab j).z ∧ (tab j).z ≤ 2304 := by
  have hx := hd.own.ino j hj
  have hm := hx.may
  unfold Im.may at hm
  rw [if_neg (by omega)] at hm
  have h64 := hm.2.2.2.1 hk
  rw [textV_len hx.fit11 hd.own.len]
  unfold pagesN
  have := hm.2.2.1
  omega
set_option maxHeartbeats 2000000 in
theorem enter11_ok (h : ISys w W b jb tb mb rec G M L qs) (hd : Disk11 G (vw M.cur L) im tab) {j : Nat} (hj : Rg G j) (hk : (tab j).k = 2) (s : List UInt8) (hs : s.length ≤ maxLen) (to_ : Nat) (hto : to_ < 4294967296) :
    Calls Tryz.prog 17 #[devp mb, .int .u32 (j : Int), str s, .int .u32 (to_ : Int)] W fun e w' => ∃ r L', e = .returned (.int .i64 r) ∧ Kept11 G M.cur im L' r ∧ ISys w w' b jb tb mb rec G M L' qs := by
  obtain ⟨hz1, hz2⟩ := textZ hd hj hk
  have HT := Lib.hid (text11_ok h hd hj hk)
  obtain ⟨t, ht⟩ : ∃ t, t = textV G (vw M.cur L) (tab j) (pagesN (tab j).z) := ⟨_, rfl⟩
  rw [← ht] at HT hz1
  have HA := Lib.hid fun V => Dirs.add_any t s to_ V (by unfold maxLen; omega) hs hto
  have H := Lib.hid h
  have HD := Lib.hid hd
  by_cases h0 : Dirs.addE t ⟨s, to_⟩ = 0
  · have hl := addT_len h0
    rw [h0] at HA
    have HR := Lib.hid fun V (hV : ISys w V b jb tb mb rec G M L qs) => rewrite11_ok hV hd hj hk t (Dirs.addT t ⟨s, to_⟩) hz1 hl.1 hl.2 (by omega)
    generalize Dirs.addT t ⟨s, to_⟩ = now at *
    clear h hd h0 hl ht hz1 hz2 hk
    go_enter Tryz.func17, Tryz.ntmps17
    go_wp2_with fail
    refine HT.out.mono ?_
    rintro e w1 ⟨rfl, hb⟩
    have H1 := Lib.hid (H.out.below hb)
    clear hb
    go_wp2_with fail
    refine (HA.out _).mono ?_
    rintro e w2 ⟨rfl, hb⟩
    have H2 := Lib.hid (H1.out.below hb)
    clear hb
    go_wp2_with fail
    refine (HR.out _ H2.out).mono ?_
    rintro e w3 ⟨r, L3, rfl, hp, hs3⟩
    have HP := Lib.hid hp
    have H3 := Lib.hid hs3
    clear hp hs3
    go_wp2_with fail
    go_ret
    first | exact ⟨r, L3, rfl, HP.out, H3.out⟩ | exact ⟨r, rfl, L3, HP.out, H3.out⟩
  · generalize Dirs.addE t ⟨s, to_⟩ = v at *
    generalize Dirs.addT t ⟨s, to_⟩ = now at *
    have hv : ((v : Int) != 0) = true := by simp; omega
    clear h hd h0 ht hz1 hz2 hk
    go_enter Tryz.func17, Tryz.ntmps17
    go_wp2_with fail
    refine HT.out.mono ?_
    rintro e w1 ⟨rfl, hb⟩
    have H1 := Lib.hid (H.out.below hb)
    clear hb
    go_wp2_with fail
    refine (HA.out _).mono ?_
    rintro e w2 ⟨rfl, hb⟩
    have H2 := Lib.hid (H1.out.below hb)
    clear hb
    go_wp2_with fail
    go_ret
    first | exact ⟨v, L, rfl, .inr ⟨tab, HD.out⟩, H2.out⟩ | exact ⟨v, rfl, L, .inr ⟨tab, HD.out⟩, H2.out⟩
set_option maxHeartbeats 2000000 in
theorem leave11_ok (h : ISys w W b jb tb mb rec G M L qs) (hd : Disk11 G (vw M.cur L) im tab) {j : Nat} (hj : Rg G j) (hk : (tab j).k = 2) (s : List UInt8) :
    Calls Tryz.prog 18 #[devp mb, .int .u32 (j : Int), str s] W fun e w' => ∃ u r L', e = .returned (.tuple #[.int .u32 u, .int .i64 r]) ∧ Kept11 G M.cur im L' r ∧ ISys w w' b jb tb mb rec G M L' qs := by
  obtain ⟨hz1, hz2⟩ := textZ hd hj hk
  have HT := Lib.hid (text11_ok h hd hj hk)
  obtain ⟨t, ht⟩ : ∃ t, t = textV G (vw M.cur L) (tab j) (pagesN (tab j).z) := ⟨_, rfl⟩
  rw [← ht] at HT hz1
  have HA := Lib.hid fun V => Dirs.del_any t s V (by unfold maxLen; omega)
  have H := Lib.hid h
  have HD := Lib.hid hd
  by_cases h0 : Dirs.delE t s = 0
  · have hl := delT_len h0
    rw [h0] at HA
    have HR := Lib.hid fun V (hV : ISys w V b jb tb mb rec G M L qs) => rewrite11_ok hV hd hj hk t (Dirs.delT t s) hz1 hl.1 hl.2 (by omega)
    generalize Dirs.delT t s = now at *
    generalize Dirs.delI t s = u at *
    clear h hd h0 hl ht hz1 hz2 hk
    go_enter Tryz.func18, Tryz.ntmps18
    go_wp2_with fail
    refine HT.out.mono ?_
    rintro e w1 ⟨rfl, hb⟩
    have H1 := Lib.hid (H.out.below hb)
    clear hb
    go_wp2_with fail
    refine (HA.out _).mono ?_
    rintro e w2 ⟨rfl, hb⟩
    have H2 := Lib.hid (H1.out.below hb)
    clear hb
    go_wp2_with fail
    refine (HR.out _ H2.out).mono ?_
    rintro e w3 ⟨r, L3, rfl, hp, hs3⟩
    have HP := Lib.hid hp
    have H3 := Lib.hid hs3
    clear hp hs3
    by_cases hr0 : r = 0
    · subst hr0
      go_wp2_with fail
      go_ret2
      first | exact ⟨u, 0, L3, rfl, HP.out, H3.out⟩ | exact ⟨u, 0, rfl, L3, HP.out, H3.out⟩ | exact ⟨u, 0, ⟨rfl, rfl⟩, L3, HP.out, H3.out⟩
    · have hrb : (r != 0) = true := by simpa using hr0
      go_wp2_with fail
      go_ret2
      first | exact ⟨0, r, L3, rfl, HP.out, H3.out⟩ | exact ⟨0, r, rfl, L3, HP.out, H3.out⟩ | exact ⟨0, r, ⟨rfl, rfl⟩, L3, HP.out, H3.out⟩
  · generalize Dirs.delE t s = v at *
    generalize Dirs.delT t s = now at *
    generalize Dirs.delI t s = u at *
    have hv : ((v : Int) != 0) = true := by simp; omega
    clear h hd h0 ht hz1 hz2 hk
    go_enter Tryz.func18, Tryz.ntmps18
    go_wp2_with fail
    refine HT.out.mono ?_
    rintro e w1 ⟨rfl, hb⟩
    have H1 := Lib.hid (H.out.below hb)
    clear hb
    go_wp2_with fail
    refine (HA.out _).mono ?_
    rintro e w2 ⟨rfl, hb⟩
    have H2 := Lib.hid (H1.out.below hb)
    clear hb
    go_wp2_with fail
    go_ret2
    first | exact ⟨0, v, L, rfl, .inr ⟨tab, HD.out⟩, H2.out⟩ | exact ⟨0, v, rfl, L, .inr ⟨tab, HD.out⟩, H2.out⟩ | exact ⟨0, v, ⟨rfl, rfl⟩, L, .inr ⟨tab, HD.out⟩, H2.out⟩
/-- What Text answers of an inode that is no directory. -/
theorem text11_not (h : ISys w W b jb tb mb rec G M L qs) (hd : Disk11 G (vw M.cur L) im tab) (k : Int) (h0 : 0 ≤ k) (h9 : k < 4294967296) :
    (∃ t e0, e0 ≠ 0 ∧ Calls Tryz.prog 29 #[devp mb, .int .u32 k] W fun e w' => e = .returned (.tuple #[str t, .int .i64 e0]) ∧ Below W.heap.size W w') ∨ ∃ j : Nat, k = j ∧ Rg G j ∧ (tab j).k = 2 := by
  by_cases hk : k < 1 ∨ (G.i : Int) < k
  · exact .inl ⟨[], 2, by decide, text11_dead k Im.nought 2 (by decide) (live_bad h k hk h0 h9)⟩
  · obtain ⟨j, rfl⟩ : ∃ j : Nat, k = j := ⟨k.toNat, by omega⟩
    have hj : Rg G j := ⟨by omega, by omega⟩
    have hl := live_ok h j hj (tab j) (hd.fits hj) (hd.may hj) (hd.tab.zero hj)
    by_cases hz : (tab j).k = 0
    · rw [if_pos hz] at hl
      exact .inl ⟨[], 3, by decide, text11_dead (j : Int) (tab j) 3 (by decide) hl⟩
    · rw [if_neg hz] at hl
      by_cases h2 : (tab j).k = 2
      · exact .inr ⟨j, rfl, hj, h2⟩
      · exact .inl ⟨[], 180, by decide, text11_file (j : Int) (tab j) h2 hl⟩
theorem enter11_any (h : ISys w W b jb tb mb rec G M L qs) (hd : Disk11 G (vw M.cur L) im tab) (k : Int) (h0 : 0 ≤ k) (h9 : k < 4294967296) (s : List UInt8) (hs : s.length ≤ maxLen) (to_ : Nat) (hto : to_ < 4294967296) :
    Calls Tryz.prog 17 #[devp mb, .int .u32 k, str s, .int .u32 (to_ : Int)] W fun e w' => ∃ r L', e = .returned (.int .i64 r) ∧ Kept11 G M.cur im L' r ∧ ISys w w' b jb tb mb rec G M L' qs := by
  rcases text11_not h hd k h0 h9 with ⟨t, e0, he, ht⟩ | ⟨j, rfl, hj, hk⟩
  · exact (enter11_dead k s to_ t e0 he ht).mono fun e w' hx => ⟨e0, L, hx.1, .inr ⟨tab, hd⟩, h.below hx.2⟩
  · exact enter11_ok h hd hj hk s hs to_ hto
theorem leave11_any (h : ISys w W b jb tb mb rec G M L qs) (hd : Disk11 G (vw M.cur L) im tab) (k : Int) (h0 : 0 ≤ k) (h9 : k < 4294967296) (s : List UInt8) :
    Calls Tryz.prog 18 #[devp mb, .int .u32 k, str s] W fun e w' => ∃ u r L', e = .returned (.tuple #[.int .u32 u, .int .i64 r]) ∧ Kept11 G M.cur im L' r ∧ ISys w w' b jb tb mb rec G M L' qs := by
  rcases text11_not h hd k h0 h9 with ⟨t, e0, he, ht⟩ | ⟨j, rfl, hj, hk⟩
  · exact (leave11_dead k s t e0 he ht).mono fun e w' hx => ⟨0, e0, L, hx.1, .inr ⟨tab, hd⟩, h.below hx.2⟩
  · exact leave11_ok h hd hj hk s
theorem setPage11_kept (h : ISys w W b jb tb mb rec G M L qs) (hd : Disk11 G (vw M.cur L) im tab) (k : Int) (h0 : 0 ≤ k) (h9 : k < 4294967296) (p : Int) (s : List UInt8) (hs : s.length = 64) :
    Calls Tryz.prog 14 #[devp mb, .int .u32 k, .int .i64 p, str s] W fun e w' => ∃ r L', e = .returned (.int .i64 r) ∧ Kept11 G M.cur im L' r ∧ ISys w w' b jb tb mb rec G M L' qs := by
  refine (setPage_any h hd k h0 h9 p s hs).mono ?_
  rintro e w' ⟨r, L', rfl, hsy, ⟨-, -, rfl, -⟩ | ⟨j, q, -, -, -, -, -, hp⟩⟩
  · exact ⟨r, _, rfl, .inr ⟨tab, hd⟩, hsy⟩
  · rcases hp with ⟨rfl, -⟩ | ⟨rfl, ⟨y, hy⟩, -⟩
    · exact ⟨4, L', rfl, .inl rfl, hsy⟩
    · exact ⟨0, L', rfl, .inr ⟨_, hy.disk⟩, hsy⟩
theorem resize11_kept (h : ISys w W b jb tb mb rec G M L qs) (hd : Disk11 G (vw M.cur L) im tab) (k : Int) (h0 : 0 ≤ k) (h9 : k < 4294967296) (z : Nat) :
    Calls Tryz.prog 16 #[devp mb, .int .u32 k, .int .u32 (z : Int)] W fun e w' => ∃ r L', e = .returned (.int .i64 r) ∧ Kept11 G M.cur im L' r ∧ ISys w w' b jb tb mb rec G M L' qs := by
  refine (resize11_any h hd k h0 h9 z).mono ?_
  rintro e w' ⟨r, L', rfl, hsy, ⟨-, -, rfl⟩ | ⟨j, -, -, -, hp⟩⟩
  · exact ⟨r, _, rfl, .inr ⟨tab, hd⟩, hsy⟩
  · rcases hp with ⟨rfl, -⟩ | ⟨rfl, ⟨y, hy⟩, -⟩
    · exact ⟨4, L', rfl, .inl rfl, hsy⟩
    · exact ⟨0, L', rfl, .inr ⟨_, hy.disk⟩, hsy⟩
end
end Go.Proofs.YtnfiapjdkjbdhaaGreat
