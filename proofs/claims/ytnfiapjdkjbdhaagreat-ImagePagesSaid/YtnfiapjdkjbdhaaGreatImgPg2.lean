/- Layer 11 (image): one file on a disk with room, step by step. -/
import Derived.Test.YtnfiapjdkjbdhaaGreatImgPg
namespace Go.Proofs.YtnfiapjdkjbdhaaGreat
open Go.RowKit Go.Maps Go.Lib
set_option linter.unusedVariables false
set_option linter.unusedSimpArgs false
set_option maxRecDepth 10000
def pgG : Gm := ⟨4, 50, 60⟩
theorem pgG_sm : Sm pgG := ⟨by decide, by decide, by decide, by decide⟩
theorem pg_r2 : Rg pgG 2 := ⟨by decide, by decide⟩
theorem pg_cap : capL pgG.j = 57 := by decide
theorem nodup_sub : ∀ (l own : List Nat), l.Nodup → (∀ x ∈ l, x ∈ own) → l.length ≤ own.length
  | [], _, _, _ => Nat.zero_le _
  | a :: l, own, hn, hs => by
    have ha := hs a (List.mem_cons_self ..)
    have hl := nodup_sub l (own.erase a) (List.nodup_cons.1 hn).2 fun x hx => (List.mem_erase_of_ne (fun e => (List.nodup_cons.1 hn).1 (by rw [e] at hx; exact hx))).2 (hs x (List.mem_cons_of_mem _ hx))
    have := List.length_erase_of_mem ha
    have := List.length_pos_of_mem ha
    simp only [List.length_cons]
    omega
theorem two_free (own : List Nat) (h : own.length ≤ 37) : ∃ a c, a ≠ c ∧ (1 ≤ a ∧ a ≤ 50) ∧ (1 ≤ c ∧ c ≤ 50) ∧ a ∉ own ∧ c ∉ own := by
  have hn : (List.range' 1 50).Nodup := List.nodup_range'
  have hl : (List.range' 1 50).length = 50 := by simp
  have hm : ∀ x, x ∈ List.range' 1 50 → 1 ≤ x ∧ x ≤ 50 := fun x hx => by
    have := List.mem_range'_1.1 hx; omega
  by_cases h1 : ∃ a ∈ List.range' 1 50, a ∉ own
  · obtain ⟨a, ha, hao⟩ := h1
    by_cases h2 : ∃ c ∈ (List.range' 1 50).erase a, c ∉ own
    · obtain ⟨c, hc, hco⟩ := h2
      have := (List.Nodup.mem_erase_iff hn).1 hc
      exact ⟨a, c, fun e => this.1 e.symm, hm _ ha, hm _ this.2, hao, hco⟩
    · have := nodup_sub _ own (hn.erase a) fun x hx => Decidable.byContradiction fun hc => h2 ⟨x, hx, hc⟩
      rw [List.length_erase_of_mem ha, hl] at this
      omega
  · have := nodup_sub _ own hn fun x hx => Decidable.byContradiction fun hc => h1 ⟨x, hx, hc⟩
    rw [hl] at this
    omega
/-- What is told of the disk: inode 2 is a file of z bytes and these pages, no other has blocks. -/
structure PgT (v : Nat → List UInt8) (im : List UInt8) (tab : Nat → Im) (z : Nat) (D : Nat → List UInt8) : Prop where
  disk : Disk11 pgG v im tab
  k : (tab 2).k = 1
  z : (tab 2).z = z
  bl : ∀ j, j ≠ 2 → (tab j).bl = [0, 0, 0, 0, 0]
  dat : ∀ q, q < 36 → datV pgG v (tab 2) q = D q
theorem PgT.pick {v : Nat → List UInt8} {im : List UInt8} {tab : Nat → Im} {z : Nat} {D : Nat → List UInt8} (h : PgT v im tab z D) : pickL (pgG.b + 1) 2 (v (pgG.off 3)) ≠ none := by
  have hlen : (ownV pgG v (tab 2)).length ≤ 37 := by
    have h36 := h.disk.own.pg_length pg_r2
    unfold ownV
    rw [List.length_append]
    have h1 := List.length_filter_le (fun b => b != 0) (pgV pgG v (tab 2))
    have h2 : (inV (tab 2)).length ≤ 1 := by unfold inV; split <;> simp
    omega
  obtain ⟨a, c, hac, ha, hc, hao, hco⟩ := two_free _ hlen
  have hno : ∀ c, 1 ≤ c → c ≤ 50 → c ∉ ownV pgG v (tab 2) → Bits.bitL (v (pgG.off 3)) c = false := fun c h1 h2 hn => by
    cases hb : Bits.bitL (v (pgG.off 3)) c with
    | false => rfl
    | true =>
      rcases (h.disk.own.bit c ⟨h1, h2⟩).1 hb with e | ⟨j, hj, e⟩
      · simp at e
      · by_cases ej : j = 2
        · subst ej; exact absurd e hn
        · rw [plain_own _ _ (h.bl j ej)] at e; simp at e
  exact pick_two_free hac (by show a < 51; omega) (by show c < 51; omega) (hno a ha.1 ha.2 hao) (hno c hc.1 hc.2 hco) (by rw [h.disk.own.bits pgG_sm]; decide)
theorem PgT.resized {v v' : Nat → List UInt8} {im : List UInt8} {tab : Nat → Im} {z n : Nat} {D : Nat → List UInt8} (h : PgT v im tab z D) {y : Im} (hy : Resized pgG v v' im tab 2 n y) : PgT v' im (upd tab 2 y) n (cutDat D n) := by
  refine ⟨hy.disk, by rw [upd_same, hy.k, h.k], by rw [upd_same, hy.zz], fun j hj => by rw [upd_other _ _ hj]; exact h.bl j hj, fun q hq => ?_⟩
  rw [upd_same, hy.dat]
  unfold cutDat
  rw [h.dat q hq]
theorem PgT.set {v v' : Nat → List UInt8} {im : List UInt8} {tab : Nat → Im} {z p : Nat} {D : Nat → List UInt8} {s : List UInt8} (h : PgT v im tab z D) {y : Im} (hy : PageSet pgG v v' im tab 2 p s y) : PgT v' im (upd tab 2 y) z (fun q => if q = p then padL (s.take (min (z - 64 * p) 64)) else D q) := by
  refine ⟨hy.disk, by rw [upd_same, hy.k, h.k], by rw [upd_same, hy.z, h.z], fun j hj => by rw [upd_other _ _ hj]; exact h.bl j hj, fun q hq => ?_⟩
  rw [upd_same, hy.dat]
  unfold pageL
  rw [h.z]
  split
  · rfl
  · exact h.dat q hq
theorem PgT.next {v v' : Nat → List UInt8} {im : List UInt8} {tab : Nat → Im} {z : Nat} {D : Nat → List UInt8} (h : PgT v im tab z D) (hl : ∀ k, k < pgG.all → (v' k).length = 64) (he : ∀ k, k < pgG.all → (k < 1 ∨ 1 + pgG.j ≤ k) → v' k = v k) : PgT v' im tab z D := by
  obtain ⟨h1, h2⟩ := h.disk.next pgG_sm hl he
  exact ⟨h1, h.k, h.z, h.bl, fun q hq => (h2 2 pg_r2 q).trans (h.dat q hq)⟩
/-- The device's side: after n commits. -/
structure PgM (M : Dv) (g n : Nat) : Prop where
  rest : Rest11 M g
  wr : M.wr ≤ 600 * n + 1000
  g : g ≤ n
  n : n ≤ 100
  all : M.n = pgG.all
/-- At a step's beginning. -/
def PgD (w W : World) (b jb tb mb n z : Nat) (D : Nat → List UInt8) (L : PutL) (qs : List Res) : Prop := ∃ M g im tab, ISys w W b jb tb mb 0 pgG M L qs ∧ PgM M g n ∧ PgT (vw M.cur L) im tab z D
/-- Behind a commit, and behind a begin. -/
def PgC (w W : World) (b jb tb mb n z : Nat) (D : Nat → List UInt8) (qs : List Res) : Prop := ∃ M g im tab, Sys w W (devR b M :: jourR jb b 1 60 0 :: doneR tb :: imgR mb tb pgG :: qs) ∧ PgM M g n ∧ PgT (vw M.cur []) im tab z D
def PgB (w W : World) (b jb tb n z : Nat) (D : Nat → List UInt8) (qs : List Res) : Prop := ∃ M g im tab, Sys w W (devR b M :: jourR jb b 1 60 0 :: txR tb b jb M.n [] :: qs) ∧ PgM M g n ∧ PgT (vw M.cur []) im tab z D
section
variable {w W : World} {b jb tb mb n z : Nat} {D : Nat → List UInt8} {L : PutL} {qs : List Res}
theorem PgD.below (h : PgD w W b jb tb mb n z D L qs) {W' : World} (hb : Below W.heap.size W W') : PgD w W' b jb tb mb n z D L qs := by
  obtain ⟨M, g, im, tab, h1, h2, h3⟩ := h
  exact ⟨M, g, im, tab, h1.below hb, h2, h3⟩
theorem PgD.up (h : PgD w W b jb tb mb n z D L qs) {m : Nat} (hm : n ≤ m) (h1 : m ≤ 100) : PgD w W b jb tb mb m z D L qs := by
  obtain ⟨M, g, im, tab, hs, hM, h3⟩ := h
  exact ⟨M, g, im, tab, hs, ⟨hM.rest, by have := hM.wr; omega, by have := hM.g; omega, h1, hM.all⟩, h3⟩
theorem PgD.all (h : PgD w W b jb tb mb n z D L qs) : Below w.heap.size w W := by
  obtain ⟨M, g, im, tab, h1, -⟩ := h
  exact h1.all
theorem PgD.dats (h : PgD w W b jb tb mb n z D L qs) {D' : Nat → List UInt8} (he : ∀ q, q < 36 → D q = D' q) : PgD w W b jb tb mb n z D' L qs := by
  obtain ⟨M, g, im, tab, h1, h2, h3⟩ := h
  exact ⟨M, g, im, tab, h1, h2, h3.disk, h3.k, h3.z, h3.bl, fun q hq => (h3.dat q hq).trans (he q hq)⟩
theorem PgD.rowB {i p : Nat} {B : List UInt8} (h : PgD w W b jb tb mb n z D L qs) (hi : qs[i]? = some (rowBR p B)) : RowB W p B := by
  obtain ⟨M, g, im, tab, h1, h2, h3⟩ := h
  exact h1.rowB hi
theorem PgD.turnB {p : Nat} {B B' : List UInt8} (h : PgD w W b jb tb mb n z D L [rowBR p B]) {W' : World} (ho : Only (fun k => k = p) W W') (hB : RowB W' p B') : PgD w W' b jb tb mb n z D L [rowBR p B'] := by
  obtain ⟨M, g, im, tab, h1, h2, h3⟩ := h
  exact ⟨M, g, im, tab, h1.turnB ho hB, h2, h3⟩
theorem PgD.setB {p : Nat} {B : List UInt8} (h : PgD w W b jb tb mb n z D L [rowBR p B]) (i : Nat) (x : UInt8) : PgD w (W.setCell ⟨p, i, none⟩ (.int .u8 (x.toNat : Int))) b jb tb mb n z D L [rowBR p (B.set i x)] := by
  obtain ⟨M, g, im, tab, h1, h2, h3⟩ := h
  exact ⟨M, g, im, tab, h1.setB i x, h2, h3⟩
theorem pg_resize (h : PgD w W b jb tb mb n z D L qs) (hl : L.length ≤ 45) (m : Nat) (hm : m ≤ 2304) :
    Calls Tryz.prog 16 #[devp mb, .int .u32 2, .int .u32 (m : Int)] W fun e w' => e = .returned (.int .i64 0) ∧ ∃ L', PgD w w' b jb tb mb n m (cutDat D m) L' qs ∧ L'.length ≤ 57 := by
  obtain ⟨M, g, im, tab, h1, h2, h3⟩ := h
  refine (resize11_ok h1 h3.disk pg_r2 (by rw [h3.k]; decide) m hm (by rw [h3.k]; intro e; cases e)).mono ?_
  rintro e w' ⟨r, L', rfl, hp, hs⟩
  rcases hp with ⟨-, hf⟩ | ⟨rfl, ⟨y, hy⟩, hl'⟩
  · rw [pg_cap] at hf; omega
  · exact ⟨rfl, L', ⟨M, g, im, _, hs, h2, h3.resized hy⟩, by omega⟩
theorem pg_set (h : PgD w W b jb tb mb n z D L qs) (hl : L.length ≤ 45) (p : Nat) (hp : p < 36) (hz : 64 * p < z) (s : List UInt8) (hs : s.length = 64) :
    Calls Tryz.prog 14 #[devp mb, .int .u32 2, .int .i64 (p : Int), str s] W fun e w' => e = .returned (.int .i64 0) ∧ ∃ L', PgD w w' b jb tb mb n z (fun q => if q = p then padL (s.take (min (z - 64 * p) 64)) else D q) L' qs ∧ L'.length ≤ 57 := by
  obtain ⟨M, g, im, tab, h1, h2, h3⟩ := h
  refine (setPage_ok h1 h3.disk pg_r2 hp (by rw [h3.z]; exact hz) (by rw [h3.k]; decide) s hs).mono ?_
  rintro e w' ⟨r, L', rfl, hpp, hsy⟩
  rcases hpp with ⟨-, hf | hf⟩ | ⟨rfl, ⟨y, hy⟩, hl'⟩
  · rw [pg_cap] at hf; omega
  · exact absurd hf h3.pick
  · exact ⟨rfl, L', ⟨M, g, im, _, hsy, h2, h3.set hy⟩, by omega⟩
theorem pg_setBad (h : PgD w W b jb tb mb n z D L qs) (p : Nat) (hz : z ≤ 64 * p) (s : List UInt8) (hs : s.length = 64) :
    Calls Tryz.prog 14 #[devp mb, .int .u32 2, .int .i64 (p : Int), str s] W fun e w' => ∃ r : Int, e = .returned (.int .i64 r) ∧ r ≠ 0 ∧ PgD w w' b jb tb mb n z D L qs := by
  obtain ⟨M, g, im, tab, h1, h2, h3⟩ := h
  refine (setPage_any h1 h3.disk 2 (by decide) (by decide) (p : Int) s hs).mono ?_
  rintro e w' ⟨r, L', rfl, hsy, ⟨hr, -, rfl, -⟩ | ⟨j, q, hj, hq, -, -, hzz, -⟩⟩
  · exact ⟨r, rfl, hr, M, g, im, tab, hsy, h2, h3⟩
  · obtain rfl : j = 2 := by omega
    rw [h3.z] at hzz
    omega
theorem pg_page (h : PgD w W b jb tb mb n z D L qs) (p : Nat) (hp : p < 36) :
    Calls Tryz.prog 24 #[devp mb, .int .u32 2, .int .i64 (p : Int)] W fun e w' => e = .returned (.tuple #[str (D p), .int .i64 0]) ∧ Below W.heap.size W w' := by
  obtain ⟨M, g, im, tab, h1, h2, h3⟩ := h
  rw [← h3.dat p hp]
  exact page11_ok h1 2 pg_r2 (h3.disk.own.ino 2 pg_r2).fit11 (h3.disk.may pg_r2) (h3.disk.tab.zero pg_r2) (by rw [h3.k]; decide) hp
theorem pg_room (h : PgD w W b jb tb mb n z D L qs) :
    Calls Tryz.prog 20 #[devp tb] W fun e w' => e = .returned (.int .i64 (57 - (L.length : Int))) ∧ Below W.heap.size W w' := by
  obtain ⟨M, g, im, tab, h1, h2, h3⟩ := h
  have := sys_room11 h1.tx
  rw [pg_cap] at this
  exact this
theorem pg_commit (h : PgD w W b jb tb mb n z D L qs) (hne : L ≠ []) (hn : n < 100) :
    Calls Tryz.prog 21 #[devp tb] W fun e w' => ∃ g : Nat, e = .returned (.tuple #[.int .u64 (g : Int), .int .i64 0]) ∧ PgC w w' b jb tb mb (n + 1) z D qs := by
  obtain ⟨M, g, im, tab, h1, h2, h3⟩ := h
  have hw := h2.wr
  have hg := h2.g
  refine (commit11 h1 h2.rest (by omega) (by omega) hne).mono ?_
  rintro e w' ⟨rfl, M2, hs, hr, hN, hw2, hc⟩
  refine ⟨g + 1, by simp, M2, g + 1, im, tab, hs, ⟨hr, by omega, by omega, by omega, hN.trans h1.N⟩, h3.next (fun k hk => ?_) fun k hk ho => ?_⟩
  · rw [vw_nil]
    obtain ⟨K, hK, -⟩ := hs.dev (i := 0) (b := b) (M := M2) rfl
    exact hK.fine.cur (by rw [hN, h1.N]; exact hk)
  · rw [vw_nil]
    exact hc k (by rw [h1.N]; exact hk) ho
theorem pg_begin (h : PgC w W b jb tb mb n z D qs) :
    Calls Tryz.prog 22 #[devp b, devp jb] W fun e w' => ∃ tb, e = .returned (.tuple #[devp tb, .int .i64 0]) ∧ PgB w w' b jb tb n z D qs := by
  obtain ⟨M, g, im, tab, h1, h2, h3⟩ := h
  refine (begun11 h1 pgG_sm h2.all).mono ?_
  rintro e w' ⟨tb2, rfl, hs⟩
  exact ⟨tb2, rfl, M, g, im, tab, hs, h2, h3⟩
theorem pg_new (h : PgB w W b jb tb n z D qs) :
    Calls Tryz.prog 23 #[devp tb, gv pgG] W fun e w' => ∃ mb, e = .returned (.tuple #[devp mb, .int .i64 0]) ∧ PgD w w' b jb tb mb n z D [] qs := by
  obtain ⟨M, g, im, tab, h1, h2, h3⟩ := h
  have hw := h2.wr
  have hn := h2.n
  refine (newed11 h1 pgG_sm h2.all h2.rest.up (by omega)).mono ?_
  rintro e w' ⟨mb2, rfl, hs⟩
  exact ⟨mb2, rfl, M, g, im, tab, hs, h2, h3⟩
end
end Go.Proofs.YtnfiapjdkjbdhaaGreat
