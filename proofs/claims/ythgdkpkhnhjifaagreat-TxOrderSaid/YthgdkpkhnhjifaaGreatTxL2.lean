/- Layer 8 (tx): calls, as things that lie apart turn by them. -/
import Derived.Test.YthgdkpkhnhjifaaGreatTxL1
namespace Go.Proofs.YthgdkpkhnhjifaaGreat
open Go.RowKit Go.Maps
set_option linter.unusedVariables false
set_option linter.unusedSimpArgs false
set_option maxRecDepth 10000
/-- A row of texts that is read only. -/
def txtR (v : Value) (ss : List (List UInt8)) : Res := memR (fun k => v.ownBlock = some k) (fun W => Txt W v ss) fun W W' h hb => Row.kept h hb
section
variable {w W : World} {rs : List Res}
theorem sys_new (h : Sys w W rs) (n : Nat) (h8 : 8 ≤ n) (hn : n ≤ 4096) : Calls Tryz.prog 36 #[.int .i64 (n : Int)] W fun e w' => ∃ b, e = .returned (.tuple #[devp b, .int .i64 0]) ∧ Sys w w' (rs ++ [devR b (dev0 n)]) := by
  refine (new_any n h8 hn W).mono ?_
  rintro e w' ⟨rfl, rfl⟩
  exact ⟨_, rfl, h.push (newW_below n W) (T := newS W) (new_in n h8 hn W) (newS_from W)⟩
theorem sys_open (h : Sys w W rs) {i b : Nat} {M : Dv} (hi : rs[i]? = some (devR b M)) (F n : Nat) (h4 : 4 ≤ n) (h256 : n ≤ 256) (hF : F + n ≤ M.n) (hdn : M.down = false) (hw : M.wr ≤ 1099511627776) (hp : (hd (M.cur F)).pend = false) :
    Calls Tryz.prog 29 #[devp b, .int .i64 (F : Int), .int .i64 (n : Int)] W fun e w' => ∃ jb, e = .returned (.tuple #[devp jb, .int .i64 0]) ∧ Sys w w' (rs ++ [jourR jb b F n 0]) := by
  obtain ⟨K, hH, -⟩ := h.dev hi
  refine (jopen_clean hH F n h4 h256 hF hdn hw hp).mono ?_
  rintro e w' ⟨jb, rfl, hjb, hj, hb, -⟩
  exact ⟨jb, rfl, h.addMem hb hj fun k hk => by rw [hk]; exact ⟨hjb, hj.lt⟩⟩
theorem sys_made (h : Sys w W rs) (n : Nat) (h16 : 16 ≤ n) (hn : n ≤ 4096) : Calls Tryz.prog 9 #[.int .i64 (n : Int)] W fun e w' => ∃ b jb, e = .returned (.tuple #[devp b, devp jb]) ∧ Sys w w' (rs ++ [devR b (dev0 n)] ++ [jourR jb b 4 12 0]) := by
  have HN := Lib.hid (sys_new h n (by omega) hn)
  go_enter Tryz.func9, Tryz.ntmps9
  go_wp2_with fail
  refine HN.out.mono ?_
  rintro e w1 ⟨b, rfl, h1⟩
  have H1 := Lib.hid h1
  clear h1
  go_wp2_with fail
  refine (sys_open (i := rs.length) (b := b) (M := dev0 n) H1.out (by simp) 4 12 (by decide) (by decide) (by show 4 + 12 ≤ n; omega) rfl (Nat.zero_le _) (by have : (dev0 n).cur 4 = List.replicate 64 0 := rfl; rw [this, hd_zero])).mono ?_
  rintro e w2 ⟨jb, rfl, h2⟩
  have H2 := Lib.hid h2
  clear h2
  go_wp2_with fail
  go_ret2
  exact ⟨_, _, rfl, H2.out⟩
theorem sys_begin (h : Sys w W rs) (b jb n : Nat) (hn : n ≤ 4096) : Calls Tryz.prog 10 #[devp b, devp jb] W fun e w' => ∃ tb, e = .returned (.tuple #[devp tb, .int .i64 0]) ∧ Sys w w' (rs ++ [txR tb b jb n []]) := by
  refine (begin_any b jb n hn W).mono ?_
  rintro e w' ⟨rfl, hb, hT⟩
  exact ⟨_, rfl, h.push hb (T := fun k => k = W.heap.size + 1 ∨ k = W.heap.size) ⟨_, hT, fun k => Iff.rfl⟩ fun k hk => by omega⟩
theorem sys_read (h : Sys w W rs) {i b : Nat} {M : Dv} (hi : rs[i]? = some (devR b M)) (hd : M.down = false) (hw : M.wr ≤ 1099511627776) (k : Nat) (hk : k < M.n) :
    Calls Tryz.prog 34 #[devp b, .int .i64 (k : Int)] W fun e w' => e = .returned (.tuple #[str (M.cur k), .int .i64 0]) ∧ Sys w w' rs := by
  obtain ⟨K, ⟨-, S, hS, -⟩, -⟩ := h.dev hi
  exact (read_any hS hd hw k hk).mono fun e w' hx => ⟨hx.1, h.below hx.2⟩
set_option maxHeartbeats 1000000 in
theorem sectors8_any {S : Nat → Prop} {b : Nat} {M : Dv} (h : DevAt S W b M) (hdn : M.down = false) (hw : M.wr ≤ 1099511627776) :
    Calls Tryz.prog 12 #[devp b, .int .i64 (M.n : Int)] W fun e w' => ∃ v, e = .returned v ∧ OwnT w' W.heap.size v (secs M.n M.cur) ∧ Below W.heap.size W w' := by
  have hN := h.fine.n
  have HD := Lib.hid h
  clear h
  go_enter Tryz.func12, Tryz.ntmps12
  go_wp2_with fail
  go_loopw [5, 6] (fun v i wr => ∃ k : Nat, k ≤ M.n ∧ i = .int .i64 k ∧ OwnT wr W.heap.size v (secs k M.cur) ∧ Below W.heap.size W wr) (fun _ i _ => M.n - (intOf i).toNat)
  case atStart => exact ⟨0, Nat.zero_le _, rfl, World.ownsRow_nil _ _ _ _, Below.refl _ _⟩
  case round =>
    obtain ⟨k, hk, rfl, hown, hb⟩ := hrel
    have hsz := hb.size
    by_cases hlt : k < M.n
    · have hts := secs_succ k M.cur
      have hcal : (secs k M.cur).length = k := secs_length _ _
      have hR := read_any (HD.out.below hb) hdn hw k hlt
      have HR := Lib.hid hR
      have HTS := Lib.hid hts
      clear hR hts
      generalize secs k M.cur = acc at *
      have hkI : (k : Int) < (M.n : Int) := by omega
      generalize M.cur k = s at *
      go_wp2_with fail
      refine HR.out.mono ?_
      rintro e w4 ⟨rfl, hb4⟩
      have hown4 : OwnT w4 W.heap.size _ acc := hown.kept (grown_of_below' hb4 none) (by cases hv : Value.ownBlock _ <;> simp)
      have B := hb.trans (hb4.mono hsz)
      have hsz4 := B.size
      obtain ⟨v', W5, hap, hown5, hg5, -⟩ := append_txt (w4.alloc (.cells #[str s] 9)) W.heap.size _ acc s (World.ownsRow.alloc hown4 _) w4.heap.size 1 (cell_new_l w4 _ _) (by omega) (by simp; omega)
      have hB5 : Below W.heap.size W W5 := (B.alloc hsz4 _).grown hg5 (by simp; omega) (fun k hk => (hown4.lt k hk).1)
      have HF := Lib.hid hown5
      have HB := Lib.hid hB5
      clear hown5 hB5 hg5 hown4 hown
      go_wp2_with fail
      go_roundw
      case rel => exact ⟨k + 1, by omega, by simp, by rw [HTS.out]; exact HF.out, HB.out⟩
      case measure => simp [intOf]; omega
    · obtain rfl : k = M.n := by omega
      go_wp2_with fail
      go_ret
      exact ⟨_, rfl, hown, hb⟩
theorem sys_sectors (h : Sys w W rs) {i b : Nat} {M : Dv} (hi : rs[i]? = some (devR b M)) (hd : M.down = false) (hw : M.wr ≤ 1099511627776) (n : Nat) (hn : M.n = n) :
    Calls Tryz.prog 12 #[devp b, .int .i64 (n : Int)] W fun e w' => ∃ v, e = .returned v ∧ Sys w w' (rs ++ [txtR v (secs n M.cur)]) := by
  subst hn
  obtain ⟨K, ⟨-, S, hS, -⟩, -⟩ := h.dev hi
  refine (sectors8_any hS hd hw).mono ?_
  rintro e w' ⟨v, rfl, ho, hb⟩
  exact ⟨v, rfl, h.addMem hb (row_of_own ho) fun k hk => ho.lt k hk⟩
theorem sys_fuse (h : Sys w W rs) {i b : Nat} {M : Dv} (hi : rs[i]? = some (devR b M)) (k : Nat) (hk : k ≤ 9223372036854775807) :
    Calls Tryz.prog 27 #[devp b, .int .i64 (k : Int)] W fun e w' => e = .returned (.int .i64 0) ∧ Sys w w' (rs.set i (devR b (M.fuse k))) := by
  obtain ⟨K, hH, -, -, hs, -⟩ := h.dev hi
  exact (held_fuse hH k hk).mono fun e w' hx => ⟨hx.1, hs _ _ hx.2⟩
theorem sys_crash (h : Sys w W rs) {i b : Nat} {M : Dv} (hi : rs[i]? = some (devR b M)) (hw : M.wr ≤ 1099511627776) (keep : List UInt8) (hk : keep.length ≤ 140737488351232) :
    Calls Tryz.prog 28 #[devp b, str keep] W fun e w' => e = .returned (.int .i64 0) ∧ Sys w w' (rs.set i (devR b (M.crash keep))) := by
  obtain ⟨K, hH, -, -, hs, -⟩ := h.dev hi
  exact (held_crash hH hw keep hk).mono fun e w' hx => ⟨hx.1, hs _ _ hx.2⟩
theorem sys_gen (h : Sys w W rs) {i j b jb F n rec : Nat} {M : Dv} (hi : rs[i]? = some (devR b M)) (hj : rs[j]? = some (jourR jb b F n rec)) (hF : F < M.n) (hw : M.wr ≤ 1099511627776) :
    Calls Tryz.prog 16 #[devp jb] W fun e w' => e = .returned (.int .u64 ((M.headOf F).gen : Int)) ∧ Sys w w' rs := by
  obtain ⟨K, ⟨-, S, hS, -⟩, -⟩ := h.dev hi
  exact (gen_any jb F n rec hS (h.mem hj) hF hw).mono fun e w' hx => ⟨hx.1, h.below hx.2⟩
theorem sys_max (h : Sys w W rs) {j b jb F n rec : Nat} (hj : rs[j]? = some (jourR jb b F n rec)) (h4 : 4 ≤ n) (h256 : n ≤ 256) :
    Calls Tryz.prog 13 #[devp jb] W fun e w' => e = .returned (.int .i64 (capL n : Int)) ∧ W = w' := max_any jb b F n rec W (h.mem hj) h4 h256
theorem sys_commit (h : Sys w W rs) {i j b jb F n rec g : Nat} {M : Dv} (hi : rs[i]? = some (devR b M)) (hj : rs[j]? = some (jourR jb b F n rec)) (hij : j ≠ i) {v : Value} {l : PutL} (hv : Puts W v (castL l)) (h4 : 4 ≤ n) (h256 : n ≤ 256) (hF : F + n ≤ M.n) (hw : M.wr + 16384 ≤ 1099511627776)
    (hwhy : whyL M.n F n (castL l) = 0) (hgen : M.headOf F = ⟨g, false, (M.headOf F).cnt⟩) (hg : g + 1 < 18446744073709551616) :
    Calls Tryz.prog 45 #[devp jb, v] W fun e w' =>
      e = .returned (.tuple #[.int .u64 (if (M.runD (commitP F (g + 1) (lastL l))).down then 0 else (g : Int) + 1), .int .i64 (if (M.runD (commitP F (g + 1) (lastL l))).down then 30 else 0)]) ∧ Sys w w' (rs.set i (devR b (M.runD (commitP F (g + 1) (lastL l))))) := by
  obtain ⟨K, hH, -, hm, hs, -⟩ := h.dev hi
  obtain ⟨hJ, hk⟩ := hm j _ _ _ hij hj
  exact (commit_ok jb F n rec g v l hH hJ (hk jb rfl) hv h4 h256 hF hw hwhy hgen hg).mono fun e w' hx => ⟨hx.1, hs _ _ hx.2⟩
theorem sys_refused (h : Sys w W rs) {i j b jb F n rec : Nat} {M : Dv} (hi : rs[i]? = some (devR b M)) (hj : rs[j]? = some (jourR jb b F n rec)) {v : Value} {l : PutI} (hv : Puts W v l) (hl : l.length ≤ maxLen) (hd : ∀ p ∈ l, p.2.length ≤ 140737488351232) (h4 : 4 ≤ n) (h256 : n ≤ 256) (hF : F ≤ 4096) (hwhy : whyL M.n F n l ≠ 0) :
    Calls Tryz.prog 45 #[devp jb, v] W fun e w' => e = .returned (.tuple #[.int .u64 0, .int .i64 (whyL M.n F n l)]) ∧ Sys w w' rs := by
  obtain ⟨K, hH, -⟩ := h.dev hi
  exact (commit_bad jb b F n rec M.n v l W (JOn.of hH (h.mem hj)) hv hl hd hF h4 h256 hH.fine.n hwhy).mono fun e w' hx => ⟨hx.1, h.below hx.2⟩
end
end Go.Proofs.YthgdkpkhnhjifaaGreat
