/- Layer 11 (image): a directory's text is written. -/
import Derived.Test.YtnfiapjdkjbdhaaGreatImg26
namespace Go.Proofs.YtnfiapjdkjbdhaaGreat
open Go.RowKit Go.Maps Go.Lib
set_option linter.unusedVariables false
set_option linter.unusedSimpArgs false
set_option maxRecDepth 10000
/-- What stays a disk, but if there was no room. -/
def Kept11 (G : Gm) (f : Nat → List UInt8) (im : List UInt8) (L' : PutL) (r : Int) : Prop := r = 4 ∨ ∃ tab', Disk11 G (vw f L') im tab'
section
variable {w W : World} {b jb tb mb rec : Nat} {G : Gm} {M : Dv} {L : PutL} {qs : List Res} {im : List UInt8} {tab : Nat → Im}
/-- Between two pages. -/
structure Wri (w W : World) (b jb tb mb rec : Nat) (G : Gm) (M : Dv) (L : PutL) (qs : List Res) (im : List UInt8) (tab : Nat → Im) (j n : Nat) : Prop where
  sys : ISys w W b jb tb mb rec G M L qs
  disk : Disk11 G (vw M.cur L) im tab
  k : (tab j).k ≠ 0
  z : n ≤ (tab j).z
theorem Wri.below {j n : Nat} (h : Wri w W b jb tb mb rec G M L qs im tab j n) {W' : World} (hb : Below W.heap.size W W') : Wri w W' b jb tb mb rec G M L qs im tab j n := { h with sys := h.sys.below hb }
theorem wri_set {j n p : Nat} (h : Wri w W b jb tb mb rec G M L qs im tab j n) (hj : Rg G j) (hp : p < 36) (hz : 64 * p < n) (s : List UInt8) (hs : s.length = 64) :
    Calls Tryz.prog 14 #[devp mb, .int .u32 (j : Int), .int .i64 (p : Int), str s] W fun e w' => ∃ r L', e = .returned (.int .i64 r) ∧ ((r = 4 ∧ ISys w w' b jb tb mb rec G M L' qs) ∨ (r = 0 ∧ ∃ tab', Wri w w' b jb tb mb rec G M L' qs im tab' j n)) := by
  refine (setPage_ok h.sys h.disk hj hp (by have := h.z; omega) h.k s hs).mono ?_
  rintro e w' ⟨r, L', rfl, hp, hs'⟩
  rcases hp with ⟨rfl, -⟩ | ⟨rfl, ⟨y, hy⟩, -⟩
  · exact ⟨4, L', rfl, .inl ⟨rfl, hs'⟩⟩
  · exact ⟨0, L', rfl, .inr ⟨rfl, upd tab j y, hs', hy.disk, by rw [upd_same, hy.k]; exact h.k, by rw [upd_same, hy.z]; exact h.z⟩⟩
set_option maxHeartbeats 4000000 in
theorem rewrite11_loop {j : Nat} (hj : Rg G j) (was now : List UInt8) (hg : now.length % 64 = 0) (hn : now.length ≤ 2304) (hw : was.length ≤ 2304)
    (hst : (now.length ≤ was.length ∧ Wri w W b jb tb mb rec G M L qs im tab j now.length) ∨
      (was.length < now.length ∧ Calls Tryz.prog 117 #[devp mb, .int .u32 (j : Int), .int .u32 (now.length : Int)] W fun e w' => ∃ r L', e = .returned (.int .i64 r) ∧ ((r = 4 ∧ ISys w w' b jb tb mb rec G M L' qs) ∨ (r = 0 ∧ ∃ tab', Wri w w' b jb tb mb rec G M L' qs im tab' j now.length)))) :
    Calls Tryz.prog 54 #[devp mb, .int .u32 (j : Int), str was, str now] W fun e w' => ∃ r L', e = .returned (.int .i64 r) ∧ Kept11 G M.cur im L' r ∧ ISys w w' b jb tb mb rec G M L' qs := by
  have HJ := Lib.hid hj
  have HSt := Lib.hid fun V (L' : PutL) (tab' : Nat → Im) (hV : Wri w V b jb tb mb rec G M L' qs im tab' j now.length) (p : Nat) (hp : p < 36) (hz : 64 * p < now.length) (s : List UInt8) (hs : s.length = 64) => wri_set hV hj hp hz s hs
  obtain ⟨q, hq⟩ : ∃ q, q = now.length / 64 := ⟨_, rfl⟩
  have hqi : (now.length : Int).tdiv 64 = (q : Int) := by rw [Int.tdiv_eq_ediv_of_nonneg (by omega)]; omega
  have HQ := Lib.hid (show 64 * q = now.length by omega)
  have HN := Lib.hid hn
  have hq36 : q ≤ 36 := by omega
  have HST := Lib.hid hst
  clear hj hst hg hq
  go_enter Tryz.func54, Tryz.ntmps54
  go_upto_if 18 with fail
  go_cut [] from 18 to 27 (fun wx => ∃ (L' : PutL) (tab' : Nat → Im), Wri w wx b jb tb mb rec G M L' qs im tab' j now.length)
  case first =>
    rcases HST.out with ⟨hle, hW⟩ | ⟨hlt, hG⟩
    · have hlei : ¬ (was.length : Int) < (now.length : Int) := by omega
      have HW := Lib.hid hW
      clear hW
      go_wp2_with fail
      go_meet
      exact ⟨L, tab, HW.out⟩
    · have hlti : (was.length : Int) < (now.length : Int) := by omega
      have HG := Lib.hid hG
      clear hG HST
      go_wp2_with fail
      refine HG.out.mono ?_
      rintro e w2 ⟨r, L2, rfl, hr⟩
      rcases hr with ⟨rfl, hs⟩ | ⟨rfl, tab2, hs⟩
      · have HS := Lib.hid hs
        clear hs
        go_wp2_with fail
        go_ret
        first | exact ⟨4, L2, rfl, .inl rfl, HS.out⟩ | exact ⟨4, rfl, L2, .inl rfl, HS.out⟩
      · have HS := Lib.hid hs
        clear hs
        go_wp2_with fail
        go_meet
        exact ⟨L2, tab2, HS.out⟩
  case rest =>
    obtain ⟨L1, tab1, h1⟩ := hcut
    have H1 := Lib.hid h1
    clear h1 HST
    go_wp2_with fail
    go_loopw [31] (fun s31 wr => ∃ (p : Nat) (L' : PutL) (tab' : Nat → Im), p ≤ q ∧ s31 = .int .i64 p ∧ Wri w wr b jb tb mb rec G M L' qs im tab' j now.length) (fun i _ => q - (Go.RowKit.intOf i).toNat)
    case atStart => exact ⟨0, L1, tab1, Nat.zero_le _, rfl, H1.out⟩
    case round =>
      clear H1
      obtain ⟨p, L2, tab2, hp, rfl, h2⟩ := hrel
      have H2 := Lib.hid h2
      clear h2
      by_cases hpq : p < q
      · have hpI : (p : Int) < (q : Int) := by omega
        go_upto_region 9 with fail
        obtain ⟨f, hf⟩ : ∃ f, f = 64 * p := ⟨_, rfl⟩
        obtain ⟨e, he⟩ : ∃ e, e = 64 * p + 64 := ⟨_, rfl⟩
        have hfi : (p : Int) * 64 = (f : Int) := by omega
        have hei : ((p : Int) + 1) * 64 = (e : Int) := by omega
        simp only [hfi, hei]
        have hen : e ≤ now.length := by have := HQ.out; omega
        have heni : (e : Int) ≤ (now.length : Int) := by omega
        have hfe : (f : Int) ≤ (e : Int) := by omega
        have hsl : ((now.take e).drop f).length = 64 := by rw [List.length_drop, List.length_take]; omega
        have HSp := Lib.hid (fun V (hV : Wri w V b jb tb mb rec G M L2 qs im tab2 j now.length) => HSt.out V L2 tab2 hV p (by omega) (by have := HQ.out; omega) _ hsl)
        have HF := Lib.hid (And.intro hf he)
        have HPQ := Lib.hid hpq
        clear hsl hf he hfi hei hpq hen
        go_cut [53] from 32 to 65 (fun s53 wx => (∃ r : Bool, s53 = .bool r) ∧ Wri w wx b jb tb mb rec G M L2 qs im tab2 j now.length)
        case first =>
          by_cases hew : e ≤ was.length
          · have hewi : (e : Int) ≤ (was.length : Int) := by omega
            clear hew
            go_quiet (fail)
            go_wp2_with fail
            go_meet
            exact ⟨⟨_, rfl⟩, H2.out.below (below_drewN (Below.refl _ _) _)⟩
          · have hewi : ¬ (e : Int) ≤ (was.length : Int) := by omega
            have hewd : decide ((e : Int) ≤ (was.length : Int)) = false := decide_eq_false hewi
            clear hew
            go_quiet (fail)
            go_wp2_with fail
            go_meet
            exact ⟨⟨_, rfl⟩, H2.out.below (below_drewN (Below.refl _ _) _)⟩
        case rest =>
          obtain ⟨⟨r, rfl⟩, h3⟩ := hcut
          have H3 := Lib.hid h3
          clear h3 H2
          cases r
          · go_wp2_with fail
            refine (HSp.out _ H3.out).mono ?_
            rintro e2 w4 ⟨r, L4, rfl, hr⟩
            clear HSp H3
            rcases hr with ⟨rfl, hs⟩ | ⟨rfl, tab4, hs⟩
            · have HS := Lib.hid hs
              clear hs
              go_wp2_with fail
              go_ret
              first | exact ⟨4, L4, rfl, .inl rfl, HS.out⟩ | exact ⟨4, rfl, L4, .inl rfl, HS.out⟩
            · have HS := Lib.hid hs
              clear hs
              go_wp2_with fail
              go_roundw
              case rel => exact ⟨p + 1, L4, tab4, by have := HPQ.out; omega, by simp, HS.out⟩
              case measure => have := HPQ.out; simp [Go.RowKit.intOf]; omega
          · go_wp2_with fail
            go_roundw
            case rel => exact ⟨p + 1, L2, tab2, by have := HPQ.out; omega, by simp, H3.out⟩
            case measure => have := HPQ.out; simp [Go.RowKit.intOf]; omega
      · have hpI : ¬ (p : Int) < (q : Int) := by omega
        go_wp2_with fail
        go_ret
        first | exact ⟨0, L2, rfl, .inr ⟨tab2, H2.out.disk⟩, H2.out.sys⟩ | exact ⟨0, rfl, L2, .inr ⟨tab2, H2.out.disk⟩, H2.out.sys⟩
theorem rewrite11_ok (h : ISys w W b jb tb mb rec G M L qs) (hd : Disk11 G (vw M.cur L) im tab) {j : Nat} (hj : Rg G j) (hk : (tab j).k = 2) (was now : List UInt8) (hw : was.length = (tab j).z) (hg : now.length % 64 = 0) (hn : now.length ≤ 2304) (hw2 : was.length ≤ 2304) :
    Calls Tryz.prog 54 #[devp mb, .int .u32 (j : Int), str was, str now] W fun e w' => ∃ r L', e = .returned (.int .i64 r) ∧ Kept11 G M.cur im L' r ∧ ISys w w' b jb tb mb rec G M L' qs := by
  refine rewrite11_loop (tab := tab) (L := L) hj was now hg hn hw2 ?_
  by_cases hle : now.length ≤ was.length
  · exact .inl ⟨hle, h, hd, by omega, by omega⟩
  · refine .inr ⟨by omega, (grow11_ok h hd hj (by omega) now.length hn (fun _ => hg) (by omega)).mono ?_⟩
    rintro e w' ⟨r, L', rfl, hp, hs⟩
    rcases hp with ⟨rfl, -⟩ | ⟨rfl, ⟨y, hy⟩, -⟩
    · exact ⟨4, L', rfl, .inl ⟨rfl, hs⟩⟩
    · exact ⟨0, L', rfl, .inr ⟨rfl, upd tab j y, hs, hy.disk, by rw [upd_same, hy.k]; omega, by rw [upd_same, hy.zz]; exact Nat.le_refl _⟩⟩
end
end Go.Proofs.YtnfiapjdkjbdhaaGreat
