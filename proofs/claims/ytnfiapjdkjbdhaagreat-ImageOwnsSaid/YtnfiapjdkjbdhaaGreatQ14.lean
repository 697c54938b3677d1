import Derived.Test.YtnfiapjdkjbdhaaGreatQ13
import Derived.Deep.RegionLaw
namespace Go.Proofs.YtnfiapjdkjbdhaaGreat
open Go.RowKit Go.Maps Go.Lib
set_option linter.unusedVariables false
set_option linter.unusedSimpArgs false
set_option maxRecDepth 10000
attribute [local go_sem ↓] ino_store_fold
def inoR (p : Nat) (x : Im) : Res := memR (fun k => k = p) (fun W => InoAt W p x) fun W W' h hb => (hb p rfl).trans h
theorem u16s_keep {W W' : World} {v : Value} {l : List Nat} (h : U16s W v l) (hb : l ≠ [] → ∀ k, v.ownBlock = some k → W'.heap[k]? = W.heap[k]?) : U16s W' v l := by
  obtain ⟨A, c, rfl, hc⟩ := h
  refine ⟨A, c, rfl, fun j n hj => ?_⟩
  have hl : l ≠ [] := fun e => by rw [e] at hj; simp at hj
  obtain ⟨a, ha, hx⟩ := hc j n hj
  subst ha
  refine ⟨a, rfl, ?_⟩
  have hblk : (a.add j).block = a.block := by unfold Addr.add; split <;> rfl
  exact (World.cell?_of_block (by rw [hblk]; exact hb hl _ rfl)).trans hx
def numR (v : Value) (l : List Nat) : Res := memR (fun k => v.ownBlock = some k ∧ l ≠ []) (fun W => U16s W v l) fun W W' h hb => u16s_keep h fun hl k hk => hb k ⟨hk, hl⟩
section
variable {w W : World} {rs : List Res}
theorem Sys.ren11 (h : Sys w W rs) (qs : List Res) (f : Nat → Nat) (hinj : ∀ a b, a < qs.length → b < qs.length → f a = f b → a = b) (hq : ∀ j, j < qs.length → qs[j]? = rs[f j]?) : Sys w W qs := by
  obtain ⟨S, h⟩ := h
  have hlt : ∀ j, j < qs.length → f j < rs.length := fun j hj => by
    have h1 := hq j hj
    rw [List.getElem?_eq_getElem hj] at h1
    exact idx_lt h1.symm
  exact ⟨fun j => S (f j), h.keeps, fun j r hj => h.at_ _ _ ((hq j (idx_lt hj)).symm.trans hj), fun j hj k hk => h.new _ (hlt j hj) k hk, fun a b ha hb hne k hk hk2 => h.apart _ _ (hlt a ha) (hlt b hb) (fun e => hne (hinj a b ha hb e)) k hk hk2⟩
theorem Sys.front11 {A B : List Res} {x : Res} (h : Sys w W (A ++ B ++ [x])) : Sys w W (A ++ x :: B) := by
  refine h.ren11 _ (fun j => if j < A.length then j else if j = A.length then A.length + B.length else j - 1) (fun a b ha hb e => ?_) (fun j hj => ?_)
  · simp only [List.length_append, List.length_cons] at ha hb
    split at e <;> split at e <;> (try split at e) <;> (try split at e) <;> omega
  · simp only [List.length_append, List.length_cons] at hj
    by_cases h1 : j < A.length
    · simp only [if_pos h1]
      rw [List.getElem?_append_left h1, List.append_assoc, List.getElem?_append_left h1]
    · by_cases h2 : j = A.length
      · subst h2
        simp
      · simp only [if_neg h1, if_neg h2]
        obtain ⟨k, rfl⟩ : ∃ k, j = A.length + (k + 1) := ⟨j - A.length - 1, by omega⟩
        rw [List.getElem?_append_right (by omega), show A.length + (k + 1) - A.length = k + 1 by omega, List.getElem?_cons_succ, show A.length + (k + 1) - 1 = A.length + k by omega, List.getElem?_append_left (by rw [List.length_append]; omega), List.getElem?_append_right (by omega), show A.length + k - A.length = k by omega]
theorem Sys.unfront11 {A B : List Res} {x : Res} (h : Sys w W (A ++ x :: B)) : Sys w W (A ++ B) := by
  refine h.ren11 _ (fun j => if j < A.length then j else j + 1) (fun a b ha hb e => ?_) (fun j hj => ?_)
  · split at e <;> split at e <;> omega
  · by_cases h1 : j < A.length
    · simp only [if_pos h1]
      rw [List.getElem?_append_left h1, List.getElem?_append_left h1]
    · simp only [if_neg h1]
      obtain ⟨k, rfl⟩ : ∃ k, j = A.length + k := ⟨j - A.length, by omega⟩
      rw [List.getElem?_append_right (by omega), List.getElem?_append_right (by omega), show A.length + k - A.length = k by omega, show A.length + k + 1 - A.length = k + 1 by omega, List.getElem?_cons_succ]
theorem Sys.turn11 (h : Sys w W rs) {i p : Nat} {P : World → Prop} {hP : ∀ W W', P W → (∀ k, k = p → W'.heap[k]? = W.heap[k]?) → P W'} (hi : rs[i]? = some (memR (fun k => k = p) P hP)) {W' : World} (ho : Only (fun k => k = p) W W')
    {Q : World → Prop} {hQ : ∀ W W', Q W → (∀ k, k = p → W'.heap[k]? = W.heap[k]?) → Q W'} (hq : Q W') : Sys w W' (rs.set i (memR (fun k => k = p) Q hQ)) := by
  obtain ⟨S, ⟨h1, h2, h3⟩, -, -, hs, -⟩ := h.use hi
  exact hs W' (memR (fun k => k = p) Q hQ) S ⟨ho.os, ho.tape, ho.output, ho.size, fun k hk hS => ho.block k hk fun e => hS ((h1 k).2 e)⟩ ⟨h1, fun k hk => Nat.lt_of_lt_of_le (h2 k hk) ho.size, hq⟩ fun k hk => .inl hk
theorem Sys.setIno11 (h : Sys w W rs) {i p : Nat} {x : Im} (hi : rs[i]? = some (inoR p x)) (y : Im) : ∃ W', (inoStore (.pointer (some ⟨p, 0, none⟩)) y.v).run Tryz.prog W = .ok () W' ∧ Sys w W' (rs.set i (inoR p y)) ∧ Only (fun k => k = p) W W' := by
  obtain ⟨W', h1, h2, h3, h4⟩ := ino_store (h.mem hi) y
  have hb := h4 p (Nat.le_refl _)
  have ho : Only (fun k => k = p) W W' := ⟨hb.os, hb.tape, hb.output, (Array.getElem?_eq_some_iff.1 h2).1 |> fun _ => by
    have := h4 0 (Nat.zero_le _); exact this.size, fun k hk hne => h3 k hne⟩
  exact ⟨W', h1, h.turn11 hi ho h2, ho⟩
theorem Sys.inoBox (h : Sys w W rs) (x : Im) : Sys w (W.alloc (.cells #[.int .u8 x.k, w16 x.n, .int .u32 x.z, w16 x.d0, w16 x.d1, w16 x.d2, w16 x.d3, w16 x.i] 41)) (rs ++ [inoR W.heap.size x]) :=
  h.addMem ((Below.refl _ W).alloc (Nat.le_refl _) _) (ino_new11 W x) fun k hk => by rw [hk]; exact ⟨Nat.le_refl _, by simp⟩
end
section
variable {w W : World} {b jb tb mb rec : Nat} {G : Gm} {M : Dv} {L : PutL} {qs : List Res}
theorem ISys.with (h : ISys w W b jb tb mb rec G M L qs) {W' : World} {qs' : List Res} (hs : Sys w W' (iR b jb tb mb rec G M L qs')) : ISys w W' b jb tb mb rec G M L qs' :=
  ⟨⟨hs, rfl, rfl, rfl, h.tx.ti, h.tx.tj, h.tx.ij, h.tx.up, h.tx.wr, h.tx.h4, h.tx.h256, h.tx.ok⟩, h.sm, h.N, h.ours⟩
theorem ISys.front (h : ISys w W b jb tb mb rec G M L qs) {W' : World} {x : Res} (hs : Sys w W' (iR b jb tb mb rec G M L qs ++ [x])) : ISys w W' b jb tb mb rec G M L (x :: qs) :=
  h.with (Sys.front11 (A := [devR b M, jourR jb b 1 G.j rec, txR tb b jb M.n L, imgR mb tb G]) (B := qs) hs)
theorem ISys.drop {x : Res} (h : ISys w W b jb tb mb rec G M L (x :: qs)) : ISys w W b jb tb mb rec G M L qs :=
  h.with (Sys.unfront11 (A := [devR b M, jourR jb b 1 G.j rec, txR tb b jb M.n L, imgR mb tb G]) (B := qs) h.tx.sys)
theorem ISys.box (h : ISys w W b jb tb mb rec G M L qs) (x : Im) : ISys w (W.alloc (.cells #[.int .u8 x.k, w16 x.n, .int .u32 x.z, w16 x.d0, w16 x.d1, w16 x.d2, w16 x.d3, w16 x.i] 41)) b jb tb mb rec G M L (inoR W.heap.size x :: qs) := h.front (h.tx.sys.inoBox x)
theorem ISys.ino0 (h : ISys w W b jb tb mb rec G M L qs) {p : Nat} {x : Im} {i : Nat} (hi : qs[i]? = some (inoR p x)) : InoAt W p x := by
  have hj : (iR b jb tb mb rec G M L qs)[i + 4]? = some (inoR p x) := hi
  exact h.tx.sys.mem hj
theorem ISys.put (h : ISys w W b jb tb mb rec G M L qs) {i p : Nat} {x : Im} (hi : qs[i]? = some (inoR p x)) (y : Im) : ∃ W', (inoStore (.pointer (some ⟨p, 0, none⟩)) y.v).run Tryz.prog W = .ok () W' ∧ ISys w W' b jb tb mb rec G M L (qs.set i (inoR p y)) ∧ Only (fun k => k = p) W W' := by
  obtain ⟨W', h1, h2, h3⟩ := h.tx.sys.setIno11 (i := i + 4) hi y
  exact ⟨W', h1, h.with h2, h3⟩
theorem ISys.fresh (h : ISys w W b jb tb mb rec G M L qs) (y : Im) : ∃ W', (inoStore (.pointer (some ⟨W.heap.size, 0, none⟩)) y.v).run Tryz.prog (W.alloc (.cells #[.int .u8 0, .int .u16 0, .int .u32 0, .int .u16 0, .int .u16 0, .int .u16 0, .int .u16 0, .int .u16 0] 41)) = .ok () W' ∧ ISys w W' b jb tb mb rec G M L (inoR W.heap.size y :: qs) := by
  have h0 : ISys w (W.alloc (.cells #[.int .u8 0, .int .u16 0, .int .u32 0, .int .u16 0, .int .u16 0, .int .u16 0, .int .u16 0, .int .u16 0] 41)) b jb tb mb rec G M L (inoR W.heap.size Im.nought :: qs) := h.box Im.nought
  obtain ⟨W', h1, h2, -⟩ := h0.put (i := 0) rfl y
  exact ⟨W', h1, h2⟩
theorem ISys.row (h : ISys w W b jb tb mb rec G M L qs) {v : Value} {l : List Nat} {i : Nat} (hi : qs[i]? = some (numR v l)) : U16s W v l := by
  have hj : (iR b jb tb mb rec G M L qs)[i + 4]? = some (numR v l) := hi
  exact h.tx.sys.mem hj
end
end Go.Proofs.YtnfiapjdkjbdhaaGreat
/- Layer 11 (image): where a page lies; what it has. -/
namespace Go.Proofs.YtnfiapjdkjbdhaaGreat
open Go.RowKit Go.Maps Go.Lib
set_option linter.unusedVariables false
set_option linter.unusedSimpArgs false
set_option maxRecDepth 10000
attribute [local go_sem ↓] ino_store_fold
structure Fit (G : Gm) (v : Nat → List UInt8) (x : Im) : Prop where
  fits : x.fits
  fit : fitB G x 0
  le : ∀ c ∈ pgV G v x, c ≤ G.b
theorem InoOk.fit11 {G : Gm} {v : Nat → List UInt8} {x : Im} (h : InoOk G v x) : Fit G v x := ⟨h.fits, h.fit (Nat.zero_le _), h.le⟩
theorem getD_mem {l : List Nat} {p : Nat} (h : l.getD p 0 ≠ 0) : l.getD p 0 ∈ l := by
  rw [List.getD_eq_getElem?_getD] at h ⊢
  cases he : l[p]? with
  | none => rw [he] at h; exact absurd rfl h
  | some c => rw [Option.getD_some]; exact List.mem_of_getElem? he
section
variable {w W : World} {b jb tb mb rec : Nat} {G : Gm} {M : Dv} {L : PutL} {qs : List Res}
theorem get_in {x : Im} (hx : Fit G (vw M.cur L) x) {p : Int} (hp : pageP p) : gtE G x p = 0 ∧ gtV G M.cur L x p = (pgV G (vw M.cur L) x).getD p.toNat 0 := by
  have hok : fitB G x 0 ∧ pageP p := ⟨hx.fit, hp⟩
  refine ⟨if_pos hok, ?_⟩
  unfold gtV pgV
  rw [if_pos hok]
  have hdl : x.dir.length = 4 := rfl
  have h0 := hp.1
  by_cases h4 : p < 4
  · rw [if_pos h4, List.getD_eq_getElem?_getD, List.getD_eq_getElem?_getD, List.getElem?_append_left (by omega)]
  · rw [if_neg h4, List.getD_eq_getElem?_getD, List.getD_eq_getElem?_getD, List.getElem?_append_right (by omega), hdl, lis_vw]
set_option maxHeartbeats 4000000 in
theorem wherePage_of (h : ISys w W b jb tb mb rec G M L qs) (x : Im) (p : Int) (c : Nat) (e0 : Int) (hc : e0 = 0 → c ≠ 0 → Bg G c)
    (hg : ∀ V, ISys w V b jb tb mb rec G M L qs → Calls Tryz.prog 102 #[devp tb, gv G, x.v, .int .i64 p] V fun e w' => e = .returned (.tuple #[w16 c, .int .i64 e0]) ∧ Below V.heap.size V w') :
    Calls Tryz.prog 48 #[devp mb, x.v, .int .i64 p] W fun e w' => e = .returned (.tuple #[.int .i64 (if e0 = 0 ∧ c ≠ 0 then (secB G c : Nat) else 0 : Int), .bool (decide (e0 = 0 ∧ c ≠ 0)), .int .i64 e0]) ∧ Below W.heap.size W w' := by
  have hb0 : Below W.heap.size W (W.alloc (.cells #[.int .u8 x.k, w16 x.n, .int .u32 x.z, w16 x.d0, w16 x.d1, w16 x.d2, w16 x.d3, w16 x.i] 41)) := (Below.refl _ _).alloc (Nat.le_refl _) _
  have hx0 := ino_new11 W x
  have h0 := h.below hb0
  generalize hW : (W.alloc (.cells #[.int .u8 x.k, w16 x.n, .int .u32 x.z, w16 x.d0, w16 x.d1, w16 x.d2, w16 x.d3, w16 x.i] 41)) = W0 at *
  obtain ⟨c0, c1, c2, c3⟩ := h0.cells
  obtain ⟨x0, x1, x2, x3, x4, x5, x6, x7⟩ := Boxes.cells hx0
  have HW := Lib.hid hW
  have H0 := Lib.hid h0
  have HX := Lib.hid hx0
  have HB := Lib.hid hb0
  have HG := Lib.hid hg
  have HC := Lib.hid hc
  clear h h0 hx0 hb0 hg hW hc
  by_cases he : e0 = 0
  · by_cases hz : c = 0
    · rw [if_neg (by rintro ⟨-, h⟩; exact h hz), decide_eq_false (by rintro ⟨-, h⟩; exact h hz)]
      subst he
      subst hz
      go_enter Tryz.func48, Tryz.ntmps48
      go_wp2_with fail
      rw [HW.out]
      clear HW
      go_region_held3 (fun W' => W'.cell? ⟨mb, 0, none⟩ = some (devp tb) ∧ W'.cell? ⟨mb, 1, none⟩ = some (.int .i64 (G.i : Int)) ∧ W'.cell? ⟨mb, 2, none⟩ = some (.int .i64 (G.b : Int)) ∧ W'.cell? ⟨mb, 3, none⟩ = some (.int .i64 (G.j : Int)) ∧ W'.cell? ⟨W.heap.size, 0, none⟩ = some (.int .u8 x.k) ∧ W'.cell? ⟨W.heap.size, 1, none⟩ = some (w16 x.n) ∧ W'.cell? ⟨W.heap.size, 2, none⟩ = some (.int .u32 x.z) ∧ W'.cell? ⟨W.heap.size, 3, none⟩ = some (w16 x.d0) ∧ W'.cell? ⟨W.heap.size, 4, none⟩ = some (w16 x.d1) ∧ W'.cell? ⟨W.heap.size, 5, none⟩ = some (w16 x.d2) ∧ W'.cell? ⟨W.heap.size, 6, none⟩ = some (w16 x.d3) ∧ W'.cell? ⟨W.heap.size, 7, none⟩ = some (w16 x.i))
        (first | exact ⟨c0, c1, c2, c3, x0, x1, x2, x3, x4, x5, x6, x7⟩ | go_keep)
        (first | (go_at_call 102; ((with_reducible refine (HG.out _ (by first | with_reducible exact H0.out.drew | with_reducible exact H0.out)).mono ?_); rintro e w1 ⟨rfl, hb⟩; have HB1 := Lib.hid (below_of_drew hb); have HX1 := Lib.hid (HX.out.keep HB1.out); have H1 := Lib.hid (H0.out.below HB1.out); obtain ⟨c0, c1, c2, c3⟩ := H1.out.cells; obtain ⟨x0, x1, x2, x3, x4, x5, x6, x7⟩ := Boxes.cells HX1.out; clear hb)))
      go_wp2_with fail
      go_ret3
      exact ⟨rfl, HB.out.trans (HB1.out.mono HB.out.size)⟩
    · have hBg := HC.out he hz
      rw [if_pos ⟨he, hz⟩, decide_eq_true ⟨he, hz⟩]
      subst he
      have hcz : ((c : Int) == 0) = false := by simp; omega
      clear hz
      go_enter Tryz.func48, Tryz.ntmps48
      go_wp2_with fail
      rw [HW.out]
      clear HW
      go_region_held3 (fun W' => W'.cell? ⟨mb, 0, none⟩ = some (devp tb) ∧ W'.cell? ⟨mb, 1, none⟩ = some (.int .i64 (G.i : Int)) ∧ W'.cell? ⟨mb, 2, none⟩ = some (.int .i64 (G.b : Int)) ∧ W'.cell? ⟨mb, 3, none⟩ = some (.int .i64 (G.j : Int)) ∧ W'.cell? ⟨W.heap.size, 0, none⟩ = some (.int .u8 x.k) ∧ W'.cell? ⟨W.heap.size, 1, none⟩ = some (w16 x.n) ∧ W'.cell? ⟨W.heap.size, 2, none⟩ = some (.int .u32 x.z) ∧ W'.cell? ⟨W.heap.size, 3, none⟩ = some (w16 x.d0) ∧ W'.cell? ⟨W.heap.size, 4, none⟩ = some (w16 x.d1) ∧ W'.cell? ⟨W.heap.size, 5, none⟩ = some (w16 x.d2) ∧ W'.cell? ⟨W.heap.size, 6, none⟩ = some (w16 x.d3) ∧ W'.cell? ⟨W.heap.size, 7, none⟩ = some (w16 x.i))
        (first | exact ⟨c0, c1, c2, c3, x0, x1, x2, x3, x4, x5, x6, x7⟩ | go_keep)
        (first | (go_at_call 102; ((with_reducible refine (HG.out _ (by first | with_reducible exact H0.out.drew | with_reducible exact H0.out)).mono ?_); rintro e w1 ⟨rfl, hb⟩; have HB1 := Lib.hid (below_of_drew hb); have HX1 := Lib.hid (HX.out.keep HB1.out); have H1 := Lib.hid (H0.out.below HB1.out); obtain ⟨c0, c1, c2, c3⟩ := H1.out.cells; obtain ⟨x0, x1, x2, x3, x4, x5, x6, x7⟩ := Boxes.cells HX1.out; clear hb)))
      go_wp2_with fail
      refine (placed_ok H1.out c hBg).mono ?_
      rintro e w2 ⟨rfl, hb⟩
      have HB2 := Lib.hid (HB1.out.trans (hb.mono HB1.out.size))
      clear hb
      go_wp2_with fail
      go_ret3
      exact ⟨rfl, HB.out.trans (HB2.out.mono HB.out.size)⟩
  · rw [if_neg (by rintro ⟨h, -⟩; exact he h), decide_eq_false (by rintro ⟨h, -⟩; exact he h)]
    have hne : (e0 != 0) = true := by simpa using he
    clear he
    go_enter Tryz.func48, Tryz.ntmps48
    go_wp2_with fail
    rw [HW.out]
    clear HW
    go_region_held3 (fun W' => W'.cell? ⟨mb, 0, none⟩ = some (devp tb) ∧ W'.cell? ⟨mb, 1, none⟩ = some (.int .i64 (G.i : Int)) ∧ W'.cell? ⟨mb, 2, none⟩ = some (.int .i64 (G.b : Int)) ∧ W'.cell? ⟨mb, 3, none⟩ = some (.int .i64 (G.j : Int)) ∧ W'.cell? ⟨W.heap.size, 0, none⟩ = some (.int .u8 x.k) ∧ W'.cell? ⟨W.heap.size, 1, none⟩ = some (w16 x.n) ∧ W'.cell? ⟨W.heap.size, 2, none⟩ = some (.int .u32 x.z) ∧ W'.cell? ⟨W.heap.size, 3, none⟩ = some (w16 x.d0) ∧ W'.cell? ⟨W.heap.size, 4, none⟩ = some (w16 x.d1) ∧ W'.cell? ⟨W.heap.size, 5, none⟩ = some (w16 x.d2) ∧ W'.cell? ⟨W.heap.size, 6, none⟩ = some (w16 x.d3) ∧ W'.cell? ⟨W.heap.size, 7, none⟩ = some (w16 x.i))
      (first | exact ⟨c0, c1, c2, c3, x0, x1, x2, x3, x4, x5, x6, x7⟩ | go_keep)
      (first | (go_at_call 102; ((with_reducible refine (HG.out _ (by first | with_reducible exact H0.out.drew | with_reducible exact H0.out)).mono ?_); rintro e w1 ⟨rfl, hb⟩; have HB1 := Lib.hid (below_of_drew hb); have HX1 := Lib.hid (HX.out.keep HB1.out); have H1 := Lib.hid (H0.out.below HB1.out); obtain ⟨c0, c1, c2, c3⟩ := H1.out.cells; obtain ⟨x0, x1, x2, x3, x4, x5, x6, x7⟩ := Boxes.cells HX1.out; clear hb)))
    go_wp2_with fail
    go_ret3
    exact ⟨rfl, HB.out.trans (HB1.out.mono HB.out.size)⟩
theorem pgV_le {x : Im} (hx : Fit G (vw M.cur L) x) (p : Nat) (h : (pgV G (vw M.cur L) x).getD p 0 ≠ 0) : Bg G ((pgV G (vw M.cur L) x).getD p 0) := ⟨by omega, hx.le _ (getD_mem h)⟩
theorem get11_in (h : ISys w W b jb tb mb rec G M L qs) {x : Im} (hx : Fit G (vw M.cur L) x) {p : Nat} (hp : p < 36) :
    Calls Tryz.prog 102 #[devp tb, gv G, x.v, .int .i64 (p : Int)] W fun e w' => e = .returned (.tuple #[w16 ((pgV G (vw M.cur L) x).getD p 0), .int .i64 0]) ∧ Below W.heap.size W w' := by
  have := bget_tx h.tx h.sm.ok h.N x hx.fits (p : Int)
  obtain ⟨h1, h2⟩ := get_in hx (p := (p : Int)) (by unfold pageP; omega)
  rw [Int.toNat_natCast] at h2
  rw [h1, h2] at this
  exact this
theorem get11_out (h : ISys w W b jb tb mb rec G M L qs) {x : Im} (hx : x.fits) {p : Int} (hp : ¬ pageP p) :
    Calls Tryz.prog 102 #[devp tb, gv G, x.v, .int .i64 p] W fun e w' => e = .returned (.tuple #[w16 0, .int .i64 2]) ∧ Below W.heap.size W w' := by
  have := bget_tx h.tx h.sm.ok h.N x hx p
  have h1 : gtE G x p = 2 := if_neg fun e => hp e.2
  have h2 : gtV G M.cur L x p = 0 := if_neg fun e => hp e.2
  rw [h1, h2] at this
  exact this
theorem wherePage_out (h : ISys w W b jb tb mb rec G M L qs) {x : Im} (hx : x.fits) {p : Int} (hp : ¬ pageP p) :
    Calls Tryz.prog 48 #[devp mb, x.v, .int .i64 p] W fun e w' => e = .returned (.tuple #[.int .i64 0, .bool false, .int .i64 2]) ∧ Below W.heap.size W w' := by
  have := wherePage_of h x p 0 2 (by omega) fun V hV => get11_out hV hx hp
  rw [if_neg (by omega), decide_eq_false (by omega)] at this
  exact this
theorem wherePage_no (h : ISys w W b jb tb mb rec G M L qs) {x : Im} (hx : Fit G (vw M.cur L) x) {p : Nat} (hp : p < 36) (h0 : (pgV G (vw M.cur L) x).getD p 0 = 0) :
    Calls Tryz.prog 48 #[devp mb, x.v, .int .i64 (p : Int)] W fun e w' => e = .returned (.tuple #[.int .i64 0, .bool false, .int .i64 0]) ∧ Below W.heap.size W w' := by
  have := wherePage_of h x p 0 0 (fun _ h => absurd rfl h) fun V hV => by have := get11_in hV hx hp; rw [h0] at this; exact this
  rw [if_neg (by omega), decide_eq_false (by omega)] at this
  exact this
theorem wherePage_yes (h : ISys w W b jb tb mb rec G M L qs) {x : Im} (hx : Fit G (vw M.cur L) x) {p : Nat} (hp : p < 36) (h0 : (pgV G (vw M.cur L) x).getD p 0 ≠ 0) :
    Calls Tryz.prog 48 #[devp mb, x.v, .int .i64 (p : Int)] W fun e w' => e = .returned (.tuple #[.int .i64 (secB G ((pgV G (vw M.cur L) x).getD p 0) : Nat), .bool true, .int .i64 0]) ∧ Below W.heap.size W w' := by
  have := wherePage_of h x p ((pgV G (vw M.cur L) x).getD p 0) 0 (fun _ _ => pgV_le hx p h0) fun V hV => get11_in hV hx hp
  rw [if_pos ⟨rfl, h0⟩, decide_eq_true ⟨rfl, h0⟩] at this
  exact this
set_option maxHeartbeats 2000000 in
theorem content_in (h : ISys w W b jb tb mb rec G M L qs) {x : Im} (hx : Fit G (vw M.cur L) x) {p : Nat} (hp : p < 36) :
    Calls Tryz.prog 64 #[devp mb, x.v, .int .i64 (p : Int)] W fun e w' => e = .returned (.tuple #[str (datV G (vw M.cur L) x p), .int .i64 0]) ∧ Below W.heap.size W w' := by
  have hb0 : Below W.heap.size W (W.alloc (.cells #[.int .u8 x.k, w16 x.n, .int .u32 x.z, w16 x.d0, w16 x.d1, w16 x.d2, w16 x.d3, w16 x.i] 41)) := (Below.refl _ _).alloc (Nat.le_refl _) _
  have hx0 := ino_new11 W x
  have h0 := h.below hb0
  obtain ⟨x0, x1, x2, x3, x4, x5, x6, x7⟩ := Boxes.cells hx0
  have H0 := Lib.hid h0
  have HB := Lib.hid hb0
  have HP := Lib.hid fun V => padded_nil V
  clear h hx0 hb0
  by_cases hz : (pgV G (vw M.cur L) x).getD p 0 = 0
  · have HW := Lib.hid (wherePage_no h0 hx hp hz)
    have hd : datV G (vw M.cur L) x p = z64 := if_pos hz
    rw [hd]
    clear h0 hz hd hx
    go_enter Tryz.func64, Tryz.ntmps64
    go_wp2_with fail
    refine HW.out.mono ?_
    rintro e w1 ⟨rfl, hb⟩
    have HB1 := Lib.hid (HB.out.trans (hb.mono HB.out.size))
    clear hb x0 x1 x2 x3 x4 x5 x6 x7
    go_wp2_with fail
    refine (HP.out _).mono ?_
    rintro e w2 ⟨rfl, hb⟩
    have HB2 := Lib.hid (HB1.out.trans (hb.mono HB1.out.size))
    clear hb
    go_wp2_with fail
    go_ret2
    exact ⟨rfl, HB2.out⟩
  · have HW := Lib.hid (wherePage_yes h0 hx hp hz)
    have hd : datV G (vw M.cur L) x p = vw M.cur L (secB G ((pgV G (vw M.cur L) x).getD p 0)) := if_neg hz
    have hBg := pgV_le hx p hz
    rw [hd]
    have hsec := secB_all hBg
    clear h0 hz hd hx hBg
    generalize (pgV G (vw M.cur L) x).getD p 0 = c at *
    go_enter Tryz.func64, Tryz.ntmps64
    go_wp2_with fail
    refine HW.out.mono ?_
    rintro e w1 ⟨rfl, hb⟩
    have HB1 := Lib.hid (HB.out.trans (hb.mono HB.out.size))
    have h1 := H0.out.below hb
    obtain ⟨c0, c1, c2, c3⟩ := h1.cells
    have HR := Lib.hid (h1.read (secB G c) hsec)
    clear hb x0 x1 x2 x3 x4 x5 x6 x7 h1
    go_wp2_with fail
    refine HR.out.mono ?_
    rintro e w2 ⟨rfl, hb⟩
    have HB2 := Lib.hid (HB1.out.trans (hb.mono HB1.out.size))
    clear hb
    go_wp2_with fail
    go_ret2
    exact ⟨rfl, HB2.out⟩
/-! Which inode it is. -/
theorem live_ok (h : ISys w W b jb tb mb rec G M L qs) (k : Nat) (hk : Rg G k) (x : Im) (hx : x.fits) (hm : x.may) (hI : inB G (vw M.cur L) k = x.putL) :
    Calls Tryz.prog 45 #[devp mb, .int .u32 (k : Int)] W fun e w' => e = .returned (.tuple #[x.v, .int .i64 (if x.k = 0 then 3 else 0)]) ∧ Below W.heap.size W w' := by
  have := live_of (W := W) (mb := mb) (k : Int) x 0 fun V hV => inode11_ok (h.below hV) k hk x hx hm hI
  have e : liveE x 0 = if x.k = 0 then 3 else 0 := by unfold liveE; simp
  rw [e] at this
  exact this
theorem live_bad (h : ISys w W b jb tb mb rec G M L qs) (k : Int) (hk : k < 1 ∨ (G.i : Int) < k) (h0 : 0 ≤ k) (h9 : k < 4294967296) :
    Calls Tryz.prog 45 #[devp mb, .int .u32 k] W fun e w' => e = .returned (.tuple #[Im.nought.v, .int .i64 2]) ∧ Below W.heap.size W w' :=
  live_of (W := W) (mb := mb) k Im.nought 2 fun V hV => inode11_bad (h.below hV) k hk h0 h9
end
end Go.Proofs.YtnfiapjdkjbdhaaGreat
/- Layer 11 (image): whether a page can be set. -/
namespace Go.Proofs.YtnfiapjdkjbdhaaGreat
open Go.RowKit Go.Maps Go.Lib
set_option linter.unusedVariables false
set_option linter.unusedSimpArgs false
set_option maxRecDepth 10000
attribute [local go_sem ↓] ino_store_fold
def tryX (x : Im) (p c : Nat) : Im := if p < 4 then x.setDir p c else if x.i = 0 then { x with i := c } else x
def wantN (x : Im) (p : Nat) : Nat := if 4 ≤ p ∧ x.i = 0 then 2 else 1
def pickE (m n : Nat) (s : List UInt8) : Int := if (pickL m n s).isSome then 0 else 4
theorem pickE_some {m n : Nat} {s : List UInt8} (h : (pickL m n s).isSome = true) : pickE m n s = 0 := if_pos h
theorem pickE_none {m n : Nat} {s : List UInt8} (h : pickL m n s = none) : pickE m n s = 4 := by unfold pickE; rw [h]; rfl
theorem pickL_head {m n : Nat} {s : List UInt8} {l : List Nat} (h : pickL m n s = some l) (hn : 1 ≤ n) : ∃ c, l[0]? = some c ∧ Bits.leastL s false m = some c := by
  obtain ⟨k, rfl⟩ : ∃ k, n = k + 1 := ⟨n - 1, by omega⟩
  cases hl : Bits.leastL s false m with
  | none => rw [pickL_none hl] at h; cases h
  | some c =>
    rw [pickL_some hl, Option.map_eq_some_iff] at h
    obtain ⟨r, hr, rfl⟩ := h
    exact ⟨c, rfl, rfl⟩
theorem setDir_fits {x : Im} (h : x.fits) {p c : Nat} (hp : p < 4) (hc : c < 65536) : (x.setDir p c).fits := by
  obtain ⟨q1, q2, q3, q4, q5, q6, q7, q8⟩ := h
  match p, hp with
  | 0, _ => exact ⟨q1, q2, q3, hc, q5, q6, q7, q8⟩
  | 1, _ => exact ⟨q1, q2, q3, q4, hc, q6, q7, q8⟩
  | 2, _ => exact ⟨q1, q2, q3, q4, q5, hc, q7, q8⟩
  | 3, _ => exact ⟨q1, q2, q3, q4, q5, q6, hc, q8⟩
theorem setInd_fits {x : Im} (h : x.fits) {c : Nat} (hc : c < 65536) : ({ x with i := c } : Im).fits := by
  obtain ⟨q1, q2, q3, q4, q5, q6, q7, q8⟩ := h
  exact ⟨q1, q2, q3, q4, q5, q6, q7, hc⟩
section
variable {w W : World} {b jb tb mb rec : Nat} {G : Gm} {M : Dv} {L : PutL} {qs : List Res}
set_option maxHeartbeats 2000000 in
theorem settable_out (h : ISys w W b jb tb mb rec G M L qs) {x : Im} (hx : x.fits) {p : Int} (hp : ¬ pageP p) :
    Calls Tryz.prog 46 #[devp mb, x.v, .int .i64 p] W fun e w' => e = .returned (.int .i64 2) ∧ Below W.heap.size W w' := by
  have hb0 : Below W.heap.size W (W.alloc (.cells #[.int .u8 x.k, w16 x.n, .int .u32 x.z, w16 x.d0, w16 x.d1, w16 x.d2, w16 x.d3, w16 x.i] 41)) := (Below.refl _ _).alloc (Nat.le_refl _) _
  obtain ⟨x0, x1, x2, x3, x4, x5, x6, x7⟩ := Boxes.cells (ino_new11 W x)
  have HW := Lib.hid (wherePage_out (h.below hb0) hx hp)
  have HB := Lib.hid hb0
  clear h hb0 hx hp
  go_enter Tryz.func46, Tryz.ntmps46
  go_wp2_with fail
  refine HW.out.mono ?_
  rintro e w1 ⟨rfl, hb⟩
  have HB1 := Lib.hid (HB.out.trans (hb.mono HB.out.size))
  clear hb
  go_wp2_with fail
  go_ret
  exact ⟨rfl, HB1.out⟩
set_option maxHeartbeats 2000000 in
theorem settable_yes (h : ISys w W b jb tb mb rec G M L qs) {x : Im} (hx : Fit G (vw M.cur L) x) {p : Nat} (hp : p < 36) (h0 : (pgV G (vw M.cur L) x).getD p 0 ≠ 0) :
    Calls Tryz.prog 46 #[devp mb, x.v, .int .i64 (p : Int)] W fun e w' => e = .returned (.int .i64 0) ∧ Below W.heap.size W w' := by
  have hb0 : Below W.heap.size W (W.alloc (.cells #[.int .u8 x.k, w16 x.n, .int .u32 x.z, w16 x.d0, w16 x.d1, w16 x.d2, w16 x.d3, w16 x.i] 41)) := (Below.refl _ _).alloc (Nat.le_refl _) _
  obtain ⟨x0, x1, x2, x3, x4, x5, x6, x7⟩ := Boxes.cells (ino_new11 W x)
  have HW := Lib.hid (wherePage_yes (h.below hb0) hx hp h0)
  have HB := Lib.hid hb0
  clear h hb0 hx hp h0
  go_enter Tryz.func46, Tryz.ntmps46
  go_wp2_with fail
  refine HW.out.mono ?_
  rintro e w1 ⟨rfl, hb⟩
  have HB1 := Lib.hid (HB.out.trans (hb.mono HB.out.size))
  clear hb
  go_wp2_with fail
  go_ret
  exact ⟨rfl, HB1.out⟩
set_option maxHeartbeats 4000000 in
theorem settable_no (h : ISys w W b jb tb mb rec G M L qs) {x : Im} (hx : Fit G (vw M.cur L) x) {p : Nat} (hp : p < 36) (h0 : (pgV G (vw M.cur L) x).getD p 0 = 0) (hb0 : Bits.bitL (vw M.cur L (G.off 3)) 0 = true)
    (hm : ∀ c, Bits.leastL (vw M.cur L (G.off 3)) false (G.b + 1) = some c → (tryX x p c).may) :
    Calls Tryz.prog 46 #[devp mb, x.v, .int .i64 (p : Int)] W fun e w' => e = .returned (.int .i64 (pickE (G.b + 1) (wantN x p) (vw M.cur L (G.off 3)))) ∧ Below W.heap.size W w' := by
  have hbb : Below W.heap.size W (W.alloc (.cells #[.int .u8 x.k, w16 x.n, .int .u32 x.z, w16 x.d0, w16 x.d1, w16 x.d2, w16 x.d3, w16 x.i] 41)) := (Below.refl _ _).alloc (Nat.le_refl _) _
  have hx0 := ino_new11 W x
  have h1 := h.below hbb
  have h60 := h.sm.b
  obtain ⟨n, hn⟩ : ∃ n, n = wantN x p := ⟨_, rfl⟩
  have hn2 : n ≤ 2 := by rw [hn]; unfold wantN; split <;> omega
  have hn1 : 1 ≤ n := by rw [hn]; unfold wantN; split <;> omega
  obtain ⟨nb, hnb⟩ : ∃ nb, nb = decide (4 ≤ (p : Int) ∧ (p : Int) < 36 ∧ x.i = 0) := ⟨_, rfl⟩
  have hnd := fun V => needs_any x (p : Int) V
  rw [← hnb] at hnd
  have HN := Lib.hid hnd
  have HNB := Lib.hid hnb
  have hnn : n = if nb = true then 2 else 1 := by
    rw [hn, hnb]; unfold wantN
    by_cases e : 4 ≤ p ∧ x.i = 0
    · rw [if_pos e, if_pos (decide_eq_true ⟨by omega, by omega, e.2⟩)]
    · rw [if_neg e, if_neg (by rw [decide_eq_true_iff]; rintro ⟨q1, q2, q3⟩; exact e ⟨by omega, q3⟩)]
  have hS := fun V (hV : Below W.heap.size W V) => spare11_any (h.below hV) n hn2 hb0
  rw [← hn]
  have HW := Lib.hid (wherePage_no h1 hx hp h0)
  have HX := Lib.hid hx0
  have HB := Lib.hid hbb
  obtain ⟨x0, x1, x2, x3, x4, x5, x6, x7⟩ := Boxes.cells hx0
  have HFF := Lib.hid hx
  generalize hBt : vw M.cur L (G.off 3) = t at hm hS hb0 ⊢
  have HM := Lib.hid hm
  have HS := Lib.hid hS
  have HP4 : (decide ((p : Int) < 4)) = decide (p < 4) := by rw [Bool.eq_iff_iff, decide_eq_true_iff, decide_eq_true_iff]; omega
  clear h hx0 hbb h1 h0 hx hm hS hn hnd hBt hb0 hnb
  cases nb
  · obtain rfl : n = 1 := hnn
    go_enter Tryz.func46, Tryz.ntmps46
    go_wp2_with fail
    refine HW.out.mono ?_
    rintro e w1 ⟨rfl, hb⟩
    have HB1 := Lib.hid (HB.out.trans (hb.mono HB.out.size))
    have HX1 := Lib.hid (HX.out.keep hb)
    clear hb x0 x1 x2 x3 x4 x5 x6 x7
    obtain ⟨x0, x1, x2, x3, x4, x5, x6, x7⟩ := Boxes.cells HX1.out
    go_wp2_with fail
    refine (HN.out _).mono ?_
    rintro e w2 ⟨rfl, hb⟩
    have HB2 := Lib.hid (HB1.out.trans (hb.mono HB1.out.size))
    have HX2 := Lib.hid (HX1.out.keep hb)
    clear hb x0 x1 x2 x3 x4 x5 x6 x7
    go_wp2_with fail
    refine (HS.out _ HB2.out).mono ?_
    rintro e w3 (⟨v, l, hl, rfl, hu, hb⟩ | ⟨hl, rfl, hb⟩)
    · have hlen := pickL_length hl
      obtain ⟨c, hc, hct⟩ := pickL_head hl (by omega)
      obtain ⟨A, q, hv, hcell⟩ := hu
      subst hv
      obtain ⟨a, ha, hca⟩ := hcell 0 c hc
      subst ha
      have hca : w3.cell? a = some (w16 c) := by
        have : a.add 0 = a := by cases a; rename_i x y z; cases z <;> rfl
        rwa [this] at hca
      have hmay := HM.out c hct
      have hcl := (Bits.leastL_some _ _ _ _ hct).1
      have HB3 := Lib.hid (HB2.out.trans (hb.mono HB2.out.size))
      have hX3 := HX2.out.keep hb
      have HI := Lib.hid (by rw [hl]; rfl : (pickL (G.b + 1) 1 t).isSome = true)
      rw [hlen]
      clear hb hcell hc hl hct
      by_cases h4 : p < 4
      · have hXs := setDir_cells hX3 p c h4
        have ht : tryX x p c = x.setDir p c := if_pos h4
        rw [ht] at hmay
        have hck := fun V => check_any (x.setDir p c) (setDir_fits HFF.out.fits h4 (by omega)) 0 (if_pos hmay).symm V
        have HCK := Lib.hid hck
        have hv0 := dir_cell hX3 p h4
        have hfr : w3.frozen? ⟨W.heap.size, 3 + p, none⟩ = false := frozen_of_row w3 _ _ _ _ hX3
        obtain ⟨x0, x1, x2, x3, x4, x5, x6, x7⟩ := Boxes.cells hXs
        have hd4 : decide ((p : Int) < 4) = true := decide_eq_true (by omega)
        have hp4 : (p : Int) < 4 := by omega
        have HBs := Lib.hid (HB3.out.setCell (p := ⟨W.heap.size, 3 + p, none⟩) (Nat.le_refl _) (w16 c))
        clear hXs ht hmay hck hX3 HP4 HM HS
        go_wp2_with fail
        refine (HCK.out _).mono ?_
        rintro e w4 ⟨rfl, hb⟩
        go_wp2_with fail
        go_ret
        exact ⟨by rw [pickE_some HI.out]; rfl, HBs.out.trans (hb.mono HBs.out.size)⟩
      · have hi : x.i ≠ 0 := fun e => by have := of_decide_eq_false HNB.out.symm; exact this ⟨by omega, by omega, e⟩
        have ht : tryX x p c = x := by unfold tryX; rw [if_neg h4, if_neg hi]
        rw [ht] at hmay
        have hck := fun V => check_any x HFF.out.fits 0 (if_pos hmay).symm V
        have HCK := Lib.hid hck
        obtain ⟨x0, x1, x2, x3, x4, x5, x6, x7⟩ := Boxes.cells hX3
        have hd4 : decide ((p : Int) < 4) = false := decide_eq_false (by omega)
        clear ht hmay hck hX3 HP4 HM HS h4
        go_wp2_with fail
        refine (HCK.out _).mono ?_
        rintro e w4 ⟨rfl, hb⟩
        go_wp2_with fail
        go_ret
        exact ⟨by rw [pickE_some HI.out]; rfl, HB3.out.trans (hb.mono HB3.out.size)⟩
    · have HB3 := Lib.hid (HB2.out.trans (hb.mono HB2.out.size))
      have HE := Lib.hid hl
      clear hb hl
      go_wp2_with fail
      go_ret
      exact ⟨by rw [pickE_none HE.out]; rfl, HB3.out⟩
  · obtain rfl : n = 2 := hnn
    go_enter Tryz.func46, Tryz.ntmps46
    go_wp2_with fail
    refine HW.out.mono ?_
    rintro e w1 ⟨rfl, hb⟩
    have HB1 := Lib.hid (HB.out.trans (hb.mono HB.out.size))
    have HX1 := Lib.hid (HX.out.keep hb)
    clear hb x0 x1 x2 x3 x4 x5 x6 x7
    obtain ⟨x0, x1, x2, x3, x4, x5, x6, x7⟩ := Boxes.cells HX1.out
    go_wp2_with fail
    refine (HN.out _).mono ?_
    rintro e w2 ⟨rfl, hb⟩
    have HB2 := Lib.hid (HB1.out.trans (hb.mono HB1.out.size))
    have HX2 := Lib.hid (HX1.out.keep hb)
    clear hb x0 x1 x2 x3 x4 x5 x6 x7
    go_wp2_with fail
    refine (HS.out _ HB2.out).mono ?_
    rintro e w3 (⟨v, l, hl, rfl, hu, hb⟩ | ⟨hl, rfl, hb⟩)
    · have hlen := pickL_length hl
      obtain ⟨c, hc, hct⟩ := pickL_head hl (by omega)
      obtain ⟨A, q, hv, hcell⟩ := hu
      subst hv
      obtain ⟨a, ha, hca⟩ := hcell 0 c hc
      subst ha
      have hca : w3.cell? a = some (w16 c) := by
        have : a.add 0 = a := by cases a; rename_i x y z; cases z <;> rfl
        rwa [this] at hca
      have hmay := HM.out c hct
      have hcl := (Bits.leastL_some _ _ _ _ hct).1
      have HB3 := Lib.hid (HB2.out.trans (hb.mono HB2.out.size))
      have hX3 := HX2.out.keep hb
      have HI := Lib.hid (by rw [hl]; rfl : (pickL (G.b + 1) 2 t).isSome = true)
      rw [hlen]
      clear hb hcell hc hl hct
      have h4 : ¬ p < 4 := fun e => by have := of_decide_eq_true HNB.out.symm; omega
      have hi : x.i = 0 := (of_decide_eq_true HNB.out.symm).2.2
      have hXs := setInd_cells hX3 c
      have ht : tryX x p c = { x with i := c } := by unfold tryX; rw [if_neg h4, if_pos hi]
      rw [ht] at hmay
      have hck := fun V => check_any { x with i := c } (setInd_fits HFF.out.fits (by omega)) 0 (if_pos hmay).symm V
      have HCK := Lib.hid hck
      have hv0 := (Boxes.cells hX3).2.2.2.2.2.2.2
      have hfr : w3.frozen? ⟨W.heap.size, 7, none⟩ = false := frozen_of_row w3 _ _ _ _ hX3
      obtain ⟨x0, x1, x2, x3, x4, x5, x6, x7⟩ := Boxes.cells hXs
      have hd4 : decide ((p : Int) < 4) = false := decide_eq_false (by omega)
      have HBs := Lib.hid (HB3.out.setCell (p := ⟨W.heap.size, 7, none⟩) (Nat.le_refl _) (w16 c))
      clear hXs ht hmay hck hX3 HP4 HM HS h4 hi
      go_wp2_with fail
      refine (HCK.out _).mono ?_
      rintro e w4 ⟨rfl, hb⟩
      go_wp2_with fail
      go_ret
      exact ⟨by rw [pickE_some HI.out]; rfl, HBs.out.trans (hb.mono HBs.out.size)⟩
    · have HB3 := Lib.hid (HB2.out.trans (hb.mono HB2.out.size))
      have HE := Lib.hid hl
      clear hb hl
      go_wp2_with fail
      go_ret
      exact ⟨by rw [pickE_none HE.out]; rfl, HB3.out⟩
end
end Go.Proofs.YtnfiapjdkjbdhaaGreat
/- Layer 11 (image): a page's block is set, an indirect block begun, pages cut, beside an image. -/
namespace Go.Proofs.YtnfiapjdkjbdhaaGreat
open Go.RowKit Go.Maps Go.Lib
set_option linter.unusedVariables false
set_option linter.unusedSimpArgs false
set_option maxRecDepth 10000
/-! A row of numbers stays, whatever a call writes into the transaction (as in layer 9's texts). -/
theorem numR_at {W : World} {v : Value} {l : List Nat} (hu : U16s W v l) : (numR v l).at_ (fun k => v.ownBlock = some k ∧ l ≠ []) W := by
  refine ⟨fun k => Iff.rfl, fun k hk => ?_, hu⟩
  obtain ⟨A, c, rfl, hc⟩ := hu
  obtain ⟨n, r, hl⟩ := List.exists_cons_of_ne_nil hk.2
  obtain ⟨a, ha, hx⟩ := hc 0 n (by rw [hl]; rfl)
  subst ha
  have h1 := World.block_lt_of_cell? W _ hx
  have hblk : (a.add 0).block = a.block := by unfold Addr.add; split <;> rfl
  rw [hblk] at h1
  have : a.block = k := Option.some.inj hk.1
  omega
section
variable {w W : World} {rs : List Res} {t i j tb b jb F n rec : Nat} {M : Dv} {L : PutL} {G : Gm}
theorem TxSys.onR (h : TxSys w W rs t i j tb b jb F n rec M L) : ∃ m, TxOn W tb b jb m M L F n rec ∧ ∀ W' L' v l, TxIn W' tb b jb m M.n L' → Only (fun k => k = m) W W' → WrOk M.n (capL n) L' → U16s W' v l → (∀ k, v.ownBlock = some k → W.heap.size ≤ k) → TxSys w W' (rs.set t (txR tb b jb M.n L') ++ [numR v l]) t i j tb b jb F n rec M L' := by
  obtain ⟨S, ⟨m, hT, hS⟩, -, ho, -, hset⟩ := h.sys.use h.ht
  obtain ⟨T, hD, -⟩ := ho i _ h.ti h.hi
  refine ⟨m, ⟨hT, ⟨T, hD⟩, h.sys.mem h.hj, h.up, h.wr, h.h4, h.h256, h.ok.cap⟩, fun W' L' v l hT' hO hok hu hfr => ?_⟩
  have hs := hset W' (txR tb b jb M.n L') S (numR v l) (fun k => v.ownBlock = some k ∧ l ≠ []) ⟨hO.os, hO.tape, hO.output, hO.size, fun k hk hn => hO.block k hk fun e => hn ((hS k).2 (.inr e))⟩ ⟨m, hT', hS⟩ (fun k hk => .inl hk) (numR_at hu) (fun k hk => hfr k hk.1) fun k hk hk2 => by
    have h1 := hfr k hk2.1
    have h2 := hT.lt
    rcases (hS k).1 hk with e | e <;> omega
  exact ⟨hs, app_left (List.getElem?_set_self (idx_lt h.ht)), app_left (by rw [List.getElem?_set_ne (fun e => h.ti e.symm)]; exact h.hi), app_left (by rw [List.getElem?_set_ne (fun e => h.tj e.symm)]; exact h.hj), h.ti, h.tj, h.ij, h.up, h.wr, h.h4, h.h256, hok⟩
theorem TxSys.sameR (h : TxSys w W rs t i j tb b jb F n rec M L) {W' : World} (hb : Below W.heap.size W W') {v : Value} {l : List Nat} (hu : U16s W' v l) (hfr : ∀ k, v.ownBlock = some k → W.heap.size ≤ k) : TxSys w W' (rs.set t (txR tb b jb M.n L) ++ [numR v l]) t i j tb b jb F n rec M L := by
  obtain ⟨m, hT, hset⟩ := h.onR
  exact hset W' L v l (hT.tx.below hb) (Only.of_below hb) h.ok hu hfr
theorem bcut_tx11 (h : TxSys w W rs t i j tb b jb F n rec M L) (hG : G.ok) (hN : M.n = G.all) (x : Im) (hxf : x.fits) (p : Int) :
    Calls Tryz.prog 109 #[devp tb, gv G, x.v, .int .i64 p] W fun e w' => ∃ v, e = .returned (.tuple #[(ctX x p (ctE M.n (capL n) G M.cur L x p)).v, v, .int .i64 (ctE M.n (capL n) G M.cur L x p)]) ∧ U16s w' v (ctF G M.cur L x p (ctE M.n (capL n) G M.cur L x p)) ∧ (∀ k, v.ownBlock = some k → W.heap.size ≤ k) ∧ 
      TxSys w w' (rs.set t (txR tb b jb M.n (ctL M.n (capL n) G M.cur L x p)) ++ [numR v (ctF G M.cur L x p (ctE M.n (capL n) G M.cur L x p))]) t i j tb b jb F n rec M (ctL M.n (capL n) G M.cur L x p) := by
  have hr := fun r hr V => ref_none hG tb x hxf (decide (0 ≤ p ∧ p ≤ 36)) r hr V
  by_cases hok : fitB G x 0 ∧ cutP p
  · have h0 : (0 : Int) = if fitB G x 0 ∧ decide (0 ≤ p ∧ p ≤ 36) = true then 0 else 2 := by rw [if_pos ⟨hok.1, decide_eq_true hok.2⟩]
    have hll := h.lis hN hok.1.2.2.2.2.2
    by_cases h4 : p ≤ 4
    · have hE : ctE M.n (capL n) G M.cur L x p = 0 := by unfold ctE; rw [if_pos hok, if_pos h4]
      have hL : ctL M.n (capL n) G M.cur L x p = L := by unfold ctL; rw [if_neg (by rintro ⟨-, -, h1, -⟩; omega)]
      rw [hE, hL]
      unfold ctX ctF
      rw [if_pos rfl, if_pos h4, if_pos rfl]
      obtain ⟨q, rfl⟩ : ∃ q : Nat, p = (q : Int) := ⟨p.toNat, by have := hok.2.1; omega⟩
      rw [Int.toNat_natCast]
      refine (cut_low _ _ _ _ x hxf q (by omega) _ hll (lisL_lt _ _ _ _) W (fun V => hr 0 h0 V) fun V hV => read_tx (h.below hV) hG hN x.i hok.1.2.2.2.2.2).mono ?_
      rintro e w' ⟨v, rfl, hfr, hu, hb⟩
      exact ⟨v, rfl, hu, hfr, h.sameR hb hu hfr⟩
    · obtain ⟨q, rfl⟩ : ∃ q : Nat, p = (q : Int) := ⟨p.toNat, by have := hok.2.1; omega⟩
      have hq36 : q ≤ 36 := by have := hok.2.2; omega
      have hS : ctS G M.cur L x (q : Int) = keepL (lisL G M.cur L x.i) (q - 4) := by unfold ctS; rw [Int.toNat_natCast]
      by_cases hk : keepL (lisL G M.cur L x.i) (q - 4) = lisL G M.cur L x.i
      · have hE : ctE M.n (capL n) G M.cur L x (q : Int) = 0 := by unfold ctE; rw [if_pos hok, if_neg h4, hS, if_pos hk]
        have hL : ctL M.n (capL n) G M.cur L x (q : Int) = L := by unfold ctL; rw [if_neg (by rintro ⟨-, -, -, h1⟩; rw [hS] at h1; exact h1 hk)]
        rw [hE, hL]
        unfold ctX ctF
        rw [if_pos rfl, if_neg h4, if_pos rfl]
        obtain ⟨m, hT, hset⟩ := h.onR
        refine (cut_high _ _ _ _ x hxf q (by omega) hq36 _ hll (lisL_lt _ _ _ _) 0 W m (txIn_lt hT.tx) (fun w' => TxIn w' tb b jb m M.n L) (fun V V' hV hs => hV.kept (hs _ hT.tx.lt.1) (hs _ hT.tx.lt.2)) (fun V => hr 0 h0 V) (fun V hV => read_tx (h.below hV) hG hN x.i hok.1.2.2.2.2.2)
          (fun V hV => (shorten_same _ _ _ _ x.i _ hll (q - 4) (by omega) _ (by omega) hk V).mono fun e w' hx => ⟨hx.1, (hT.tx.below hV).below hx.2, Only.of_below hx.2⟩)).mono ?_
        rintro e w' ⟨y, v, rfl, hy, -, hT', ho⟩
        obtain ⟨rfl, hfr, hu⟩ := hy rfl
        exact ⟨v, rfl, hu, hfr, hset w' _ v _ hT' ho h.ok hu hfr⟩
      · have hi : x.i ≠ 0 := fun hi => hk (by
          unfold lisL
          rw [if_pos hi]
          unfold keepL
          rw [List.take_replicate, List.replicate_append_replicate]
          congr 1; omega)
        have hE : ctE M.n (capL n) G M.cur L x (q : Int) = wrE M.n (capL n) L (secB G x.i : Nat) (tellL (keepL (lisL G M.cur L x.i) (q - 4))) := by unfold ctE; rw [if_pos hok, if_neg h4, hS, if_neg hk]
        have hL : ctL M.n (capL n) G M.cur L x (q : Int) = wrL M.n (capL n) L (secB G x.i : Nat) (tellL (keepL (lisL G M.cur L x.i) (q - 4))) := by unfold ctL; rw [hS, if_pos ⟨hok.1, hok.2, by omega, hk⟩]
        rw [hE, hL]
        obtain ⟨m, hT, hset⟩ := h.onR
        refine (cut_high _ _ _ _ x hxf q (by omega) hq36 _ hll (lisL_lt _ _ _ _) _ W m (txIn_lt hT.tx) (fun w' => TxIn w' tb b jb m M.n (wrL M.n (capL n) L (secB G x.i : Nat) (tellL (keepL (lisL G M.cur L x.i) (q - 4))))) (fun V V' hV hs => hV.kept (hs _ hT.tx.lt.1) (hs _ hT.tx.lt.2)) (fun V => hr 0 h0 V) (fun V hV => read_tx (h.below hV) hG hN x.i hok.1.2.2.2.2.2)
          (fun V hV => shorten_in h hG x.i (by omega) hok.1.2.2.2.2.2 _ hll (lisL_lt _ _ _ _) (q - 4) (by omega) _ (by omega) hk hT V hV)).mono ?_
        rintro e w' ⟨y, v, rfl, hy0, hy1, hT', ho⟩
        have hnl : ¬ ((q : Int) ≤ 4) := h4
        unfold ctX ctF
        by_cases hz : wrE M.n (capL n) L (secB G x.i : Nat) (tellL (keepL (lisL G M.cur L x.i) (q - 4))) = 0
        · obtain ⟨rfl, hfr, hu⟩ := hy0 hz
          rw [if_pos hz, if_neg hnl, if_pos hz]
          exact ⟨v, rfl, hu, hfr, hset w' _ v _ hT' ho (h.ok.wr _ _) hu hfr⟩
        · obtain ⟨rfl, rfl⟩ := hy1 hz
          rw [if_neg hz, if_neg hz]
          exact ⟨_, rfl, u16s_nil _, fun k hk => (by cases hk), hset w' _ _ _ hT' ho (h.ok.wr _ _) (u16s_nil _) fun k hk => (by cases hk)⟩
  · have h2 : (2 : Int) = if fitB G x 0 ∧ decide (0 ≤ p ∧ p ≤ 36) = true then 0 else 2 := by rw [if_neg (fun e => hok ⟨e.1, of_decide_eq_true e.2⟩)]
    have hE : ctE M.n (capL n) G M.cur L x p = 2 := by unfold ctE; rw [if_neg hok]
    have hL : ctL M.n (capL n) G M.cur L x p = L := by unfold ctL; rw [if_neg (by rintro ⟨h1, h3, -⟩; exact hok ⟨h1, h3⟩)]
    have hX : ctX x p 2 = Im.nought := by unfold ctX; rw [if_neg (by decide)]
    have hF : ctF G M.cur L x p 2 = [] := by unfold ctF; rw [if_neg (by decide)]
    rw [hE, hL, hX, hF]
    exact (cut_no _ _ _ _ x p 2 (by decide) W fun V => hr 2 h2 V).mono fun e w' hx => ⟨_, hx.1, u16s_nil _, fun k hk => (by cases hk), h.sameR hx.2 (u16s_nil _) fun k hk => (by cases hk)⟩
end
section
variable {w W : World} {b jb tb mb rec : Nat} {G : Gm} {M : Dv} {L : PutL} {qs : List Res}
theorem secB_ours {G : Gm} (hG : Sm G) (c : Nat) : 1 + G.j ≤ secB G c := by
  have := off_lt hG
  have := Sm.o2 G
  have := @secB_off G c
  omega
theorem ISys.turnR (h : ISys w W b jb tb mb rec G M L qs) {W' : World} {L' : PutL} {x : Res} (ht : TxSys w W' ((iR b jb tb mb rec G M L qs).set 2 (txR tb b jb M.n L') ++ [x]) 2 0 1 tb b jb 1 G.j rec M L') (ho : Ours G L') : ISys w W' b jb tb mb rec G M L' (x :: qs) :=
  (ISys.mk ⟨ht.sys.take (iR b jb tb mb rec G M L' qs).length |> fun h => (by rw [List.take_left'] at h; exact h; rfl), rfl, rfl, rfl, h.tx.ti, h.tx.tj, h.tx.ij, h.tx.up, h.tx.wr, h.tx.h4, h.tx.h256, ht.ok⟩ h.sm h.N ho : ISys w W' b jb tb mb rec G M L' qs).front ht.sys
def OncePost (cap : Nat) (f : Nat → List UInt8) (L L' : PutL) (v' : Nat → List UInt8) (r : Int) : Prop := (r = 4 ∧ cap < L.length + 1) ∨ r = 0 ∧ vw f L' = v' ∧ L'.length ≤ L.length + 1
theorem once_wr {cap : Nat} {f : Nat → List UInt8} {L : PutL} (ha : asc L) (k : Nat) (s : List UInt8) : OncePost cap f L (wL cap L k s) (upd (vw f L) k s) (wE cap L k) := by
  rcases wE_cases cap L k with e0 | ⟨e4, hf⟩
  · exact .inr ⟨e0, vw_wL e0, wL_len ha k s⟩
  · exact .inl ⟨e4, hf⟩
theorem pageP_nat {p : Nat} (hp : p < 36) : pageP (p : Int) := by unfold pageP; omega
theorem set11_tx (h : ISys w W b jb tb mb rec G M L qs) {x : Im} (hx : Fit G (vw M.cur L) x) {p c : Nat} (hp : p < 36) (hc : Bg G c) (hi : p < 4 ∨ x.i ≠ 0) :
    Calls Tryz.prog 101 #[devp tb, gv G, x.v, .int .i64 (p : Int), w16 c] W fun e w' => ∃ y r L', e = .returned (.tuple #[y.v, .int .i64 r]) ∧ (r = 0 → y = setX x p c) ∧ OncePost (capL G.j) M.cur L L' (setV G (vw M.cur L) x p c) r ∧ ISys w w' b jb tb mb rec G M L' qs := by
  have h60 := h.sm.b
  have hfit : fitB G x c := ⟨hc.2, hx.fit.2⟩
  have hs := bset_tx h.tx h.sm.ok h.N x hx.fits (p : Int) c (by have := hc.2; omega)
  by_cases h4 : p < 4
  · have hE : stE M.n (capL G.j) G M.cur L x (p : Int) c = 0 := by unfold stE; rw [if_pos ⟨hfit, pageP_nat hp⟩, if_pos (by omega)]
    have hL : stL M.n (capL G.j) G M.cur L x (p : Int) c = L := by unfold stL; rw [if_neg (by rintro ⟨-, -, h1, -⟩; omega)]
    rw [hE, hL] at hs
    refine hs.mono fun e w' hx' => ⟨_, 0, L, hx'.1, fun _ => ?_, .inr ⟨rfl, ?_, by omega⟩, h.turn hx'.2 h.ours⟩
    · unfold stX setX; rw [if_pos rfl, if_pos (by omega), if_pos h4, Int.toNat_natCast]
    · unfold setV; rw [if_pos h4]
  · have hi0 := hi.resolve_left h4
    have hk : secB G x.i < M.n := by rw [h.N]; exact secB_lt (by omega) hx.fit.2.2.2.2.2
    have hll : (lisL G M.cur L x.i).length = 32 := h.tx.lis h.N hx.fit.2.2.2.2.2
    have hS : stS G M.cur L x (p : Int) c = tellL ((lsV G (vw M.cur L) x.i).set (p - 4) c) := by unfold stS; rw [Int.toNat_natCast, lis_vw]
    have hSl : (tellL ((lsV G (vw M.cur L) x.i).set (p - 4) c)).length = 64 := tellL_length _ (by rw [List.length_set, ← lis_vw, hll]; omega)
    obtain ⟨w1, w2⟩ := wr_eq (N := M.n) (cap := capL G.j) (L := L) hk hSl
    have hE : stE M.n (capL G.j) G M.cur L x (p : Int) c = wE (capL G.j) L (secB G x.i) := by unfold stE; rw [if_pos ⟨hfit, pageP_nat hp⟩, if_neg (by omega), if_neg hi0, hS, w1]
    have hL : stL M.n (capL G.j) G M.cur L x (p : Int) c = wL (capL G.j) L (secB G x.i) (tellL ((lsV G (vw M.cur L) x.i).set (p - 4) c)) := by unfold stL; rw [if_pos ⟨hfit, pageP_nat hp, by omega, hi0⟩, hS, w2]
    rw [hE, hL] at hs
    refine hs.mono fun e w' hx' => ⟨_, _, _, hx'.1, fun e => ?_, ?_, h.turn hx'.2 (ours_wL h.ours (secB_ours h.sm _) _)⟩
    · rw [e]; unfold stX setX; rw [if_pos rfl, if_neg (by omega), if_neg h4]
    · have : setV G (vw M.cur L) x p c = upd (vw M.cur L) (secB G x.i) (tellL ((lsV G (vw M.cur L) x.i).set (p - 4) c)) := if_neg h4
      rw [this]
      exact once_wr h.asc _ _
theorem begin11_tx (h : ISys w W b jb tb mb rec G M L qs) {x : Im} (hx : Fit G (vw M.cur L) x) {c : Nat} (hc : Bg G c) (hi : x.i = 0) :
    Calls Tryz.prog 100 #[devp tb, gv G, x.v, w16 c] W fun e w' => ∃ y r L', e = .returned (.tuple #[y.v, .int .i64 r]) ∧ (r = 0 → y = { x with i := c }) ∧ OncePost (capL G.j) M.cur L L' (upd (vw M.cur L) (secB G c) z64) r ∧ ISys w w' b jb tb mb rec G M L' qs := by
  have h60 := h.sm.b
  have hc1 := hc.1
  have hok : fitB G x c ∧ c ≠ 0 ∧ x.i = 0 := ⟨⟨hc.2, hx.fit.2⟩, by omega, hi⟩
  have hs := bbeg_tx h.tx h.sm.ok x hx.fits c (by have := hc.2; omega)
  have hk : secB G c < M.n := by rw [h.N]; exact secB_all hc
  obtain ⟨w1, w2⟩ := wr_eq (N := M.n) (cap := capL G.j) (L := L) (s := z64) hk rfl
  have hE : bgE M.n (capL G.j) G L x c = wE (capL G.j) L (secB G c) := by unfold bgE; rw [if_pos hok]; exact w1
  have hL : bgL M.n (capL G.j) G L x c = wL (capL G.j) L (secB G c) z64 := by unfold bgL; rw [if_pos hok]; exact w2
  rw [hE, hL] at hs
  refine hs.mono fun e w' hx' => ⟨_, _, _, hx'.1, fun e => ?_, once_wr h.asc _ _, h.turn hx'.2 (ours_wL h.ours (secB_ours h.sm _) _)⟩
  rw [e]; unfold bgX; rw [if_pos rfl]
theorem cut11_tx (h : ISys w W b jb tb mb rec G M L qs) {x : Im} (hx : Fit G (vw M.cur L) x) {n : Nat} (hn : n ≤ 36) :
    Calls Tryz.prog 109 #[devp tb, gv G, x.v, .int .i64 (n : Int)] W fun e w' => ∃ y v l r L', e = .returned (.tuple #[y.v, v, .int .i64 r]) ∧ (r = 0 → y = cutI x n ∧ l = lostV G (vw M.cur L) x n) ∧ U16s w' v l ∧ (∀ k, v.ownBlock = some k → W.heap.size ≤ k) ∧ OncePost (capL G.j) M.cur L L' (cutV G (vw M.cur L) x n) r ∧ ISys w w' b jb tb mb rec G M L' (numR v l :: qs) := by
  have hfit := hx.fit
  have hok : fitB G x 0 ∧ cutP (n : Int) := ⟨hfit, by unfold cutP; omega⟩
  have hs := bcut_tx11 h.tx h.sm.ok h.N x hx.fits (n : Int)
  have hll : (lisL G M.cur L x.i).length = 32 := h.tx.lis h.N hx.fit.2.2.2.2.2
  have hS : ctS G M.cur L x (n : Int) = keepL (lsV G (vw M.cur L) x.i) (n - 4) := by unfold ctS; rw [Int.toNat_natCast, lis_vw]
  have hX : ctX x (n : Int) 0 = cutI x n := by
    unfold ctX cutI
    rw [if_pos rfl, Int.toNat_natCast]
    by_cases h4 : n ≤ 4
    · rw [if_pos (by omega), if_pos h4]
    · rw [if_neg (by omega), if_neg h4]
  have hF : ctF G M.cur L x (n : Int) 0 = lostV G (vw M.cur L) x n := by unfold ctF; rw [if_pos rfl]; exact lost_free G M.cur L x n
  by_cases hq : n ≤ 4 ∨ keepL (lsV G (vw M.cur L) x.i) (n - 4) = lsV G (vw M.cur L) x.i
  · have hE : ctE M.n (capL G.j) G M.cur L x (n : Int) = 0 := by
      unfold ctE
      rw [if_pos hok]
      by_cases h4 : n ≤ 4
      · rw [if_pos (by omega)]
      · rw [if_neg (by omega), hS, lis_vw, if_pos (hq.resolve_left h4)]
    have hL : ctL M.n (capL G.j) G M.cur L x (n : Int) = L := by
      unfold ctL
      rw [if_neg]
      rintro ⟨-, -, h1, h2⟩
      rw [hS] at h2
      rcases hq with h3 | h3
      · omega
      · exact h2 h3
    rw [hE, hL, hX, hF] at hs
    refine hs.mono ?_
    rintro e w' ⟨v, he, hu, hfr, ht⟩
    exact ⟨_, v, _, 0, L, he, fun _ => ⟨rfl, rfl⟩, hu, hfr, .inr ⟨rfl, by unfold cutV; rw [if_pos hq], by omega⟩, h.turnR ht h.ours⟩
  · have h4 : ¬ n ≤ 4 := fun e => hq (.inl e)
    have hke : keepL (lsV G (vw M.cur L) x.i) (n - 4) ≠ lsV G (vw M.cur L) x.i := fun e => hq (.inr e)
    have hi0 : x.i ≠ 0 := fun e => by
      have e5 : lsV G (vw M.cur L) x.i = List.replicate 32 0 := if_pos e
      rw [e5, keepL_zero _ (by omega)] at hke
      exact hke rfl
    have hk : secB G x.i < M.n := by rw [h.N]; exact secB_lt (by omega) hx.fit.2.2.2.2.2
    have hSl : (tellL (keepL (lsV G (vw M.cur L) x.i) (n - 4))).length = 64 := tellL_length _ (by rw [keepL_length (by rw [← lis_vw]; exact hll) (by omega)]; omega)
    obtain ⟨w1, w2⟩ := wr_eq (N := M.n) (cap := capL G.j) (L := L) hk hSl
    have hE : ctE M.n (capL G.j) G M.cur L x (n : Int) = wE (capL G.j) L (secB G x.i) := by unfold ctE; rw [if_pos hok, if_neg (by omega), hS, lis_vw, if_neg hke, w1]
    have hL : ctL M.n (capL G.j) G M.cur L x (n : Int) = wL (capL G.j) L (secB G x.i) (tellL (keepL (lsV G (vw M.cur L) x.i) (n - 4))) := by
      unfold ctL
      rw [hS, if_pos ⟨hok.1, hok.2, by omega, hke⟩, w2]
    rw [hE, hL] at hs
    refine hs.mono ?_
    rintro e w' ⟨v, he, hu, hfr, ht⟩
    refine ⟨_, v, _, _, _, he, fun e0 => ⟨by rw [e0, hX], by rw [e0, hF]⟩, hu, hfr, ?_, h.turnR ht (ours_wL h.ours (secB_ours h.sm _) _)⟩
    have : cutV G (vw M.cur L) x n = upd (vw M.cur L) (secB G x.i) (tellL (keepL (lsV G (vw M.cur L) x.i) (n - 4))) := if_neg hq
    rw [this]
    exact once_wr h.asc _ _
end
end Go.Proofs.YtnfiapjdkjbdhaaGreat
/- Layer 11 (image): a page gets a block. -/
namespace Go.Proofs.YtnfiapjdkjbdhaaGreat
open Go.RowKit Go.Maps Go.Lib
set_option linter.unusedVariables false
set_option linter.unusedSimpArgs false
set_option maxRecDepth 10000
attribute [local go_sem ↓] ino_store_fold
def Keep3 (G : Gm) (v v' : Nat → List UInt8) : Prop := v' (G.off 2) = v (G.off 2) ∧ ∀ k, G.off 4 ≤ k → k < G.off 5 → v' k = v k
theorem Keep3.refl (G : Gm) (v : Nat → List UInt8) : Keep3 G v v := ⟨rfl, fun _ _ _ => rfl⟩
theorem Keep3.trans {G : Gm} {v v' v'' : Nat → List UInt8} (h : Keep3 G v v') (k : Keep3 G v' v'') : Keep3 G v v'' := ⟨k.1.trans h.1, fun q h1 h2 => (k.2 q h1 h2).trans (h.2 q h1 h2)⟩
theorem Keep3.upd {G : Gm} (hG : Sm G) (v : Nat → List UInt8) {k : Nat} (s : List UInt8) (hk : k = G.off 3 ∨ G.off 5 ≤ k) : Keep3 G v (Go.Proofs.YtnfiapjdkjbdhaaGreat.upd v k s) := by
  have := off_lt hG
  exact ⟨upd_other _ _ (by omega), fun q h1 h2 => upd_other _ _ (by omega)⟩
structure Housed (G : Gm) (v v' : Nat → List UInt8) (tab : Nat → Im) (j p : Nat) (y : Im) : Prop where
  own : Own G v' (upd tab j y) []
  k : y.k = (tab j).k
  n : y.n = (tab j).n
  z : y.z = (tab j).z
  pg : (pgV G v' y).getD p 0 ≠ 0
  dat : ∀ q, datV G v' y q = datV G v (tab j) q
  keep : Keep3 G v v'
  way : p < 4 → (pgV G v (tab j)).getD p 0 = 0 → y.i = (tab j).i ∧ ∃ c, Bits.leastL (v (G.off 3)) false (G.b + 1) = some c ∧ pgV G v' y = (pgV G v (tab j)).set p c
def Scarce (G : Gm) (cap : Nat) (v : Nat → List UInt8) (n : Nat) : Prop := cap < n ∨ pickL (G.b + 1) 2 (v (G.off 3)) = none
theorem upd_twice {α : Type} (f : Nat → α) (i : Nat) (x y : α) : upd (upd f i x) i y = upd f i y := by
  funext j; unfold upd; split <;> rfl
theorem Own.block {G : Gm} {v : Nat → List UInt8} {tab : Nat → Im} {E : List Nat} (h : Own G v tab E) (hG : Sm G) {c : Nat} (hc : Bits.leastL (v (G.off 3)) false (G.b + 1) = some c) :
    Bg G c ∧ Own G (upd (upd v (G.off 3) (Bits.setL (v (G.off 3)) c true)) (secB G c) z64) tab (c :: E) ∧ (∀ j, Rg G j → pgV G (upd (upd v (G.off 3) (Bits.setL (v (G.off 3)) c true)) (secB G c) z64) (tab j) = pgV G v (tab j)) ∧
      (∀ j, Rg G j → ∀ q, datV G (upd (upd v (G.off 3) (Bits.setL (v (G.off 3)) c true)) (secB G c) z64) (tab j) q = datV G v (tab j) q) ∧ Keep3 G v (upd (upd v (G.off 3) (Bits.setL (v (G.off 3)) c true)) (secB G c) z64) := by
  obtain ⟨h1, h2, -⟩ := Bits.leastL_some _ _ _ _ hc
  have hoff := off_lt hG
  have hb : Bg G c := ⟨by
    rcases Nat.eq_zero_or_pos c with e | e
    · rw [e, h.bit0] at h2; cases h2
    · exact e, by omega⟩
  have ha := h.alloc hG hb h2
  have hs := ha.spare hG List.mem_cons_self (s := z64) (by rfl)
  refine ⟨hb, hs, fun j hj => ?_, fun j hj q => ?_, ?_⟩
  · rw [ha.pg_spare List.mem_cons_self hj, pg_low (by omega)]
  · rw [ha.dat_spare List.mem_cons_self hj, dat_low (by omega)]
  · exact (Keep3.upd hG v _ (.inl rfl)).trans (Keep3.upd hG _ _ (.inr secB_off))
theorem housed_set {G : Gm} {v v1 : Nat → List UInt8} {tab : Nat → Im} (hG : Sm G) {j p c : Nat} {x : Im} (h : Own G v1 (upd tab j x) [c]) (hj : Rg G j) (hp : p < 36) (hz : p < pagesN x.z) (hn : (pgV G v1 x).getD p 0 = 0) (hi : p < 4 ∨ x.i ≠ 0) (hk : x.k ≠ 0) (hv : v1 (secB G c) = z64)
    (e1 : x.k = (tab j).k) (e2 : x.n = (tab j).n) (e3 : x.z = (tab j).z) (hd : ∀ q, datV G v1 x q = datV G v (tab j) q) (hke : Keep3 G v v1) (hw : p < 4 → Bits.leastL (v (G.off 3)) false (G.b + 1) = some c ∧ pgV G v1 x = pgV G v (tab j) ∧ x.i = (tab j).i) : Housed G v (setV G v1 x p c) tab j p (setX x p c) := by
  have hc := h.er c List.mem_cons_self
  have hs : upd tab j x j = x := upd_same _ _ _
  have h36 := h.pg_length hj
  rw [hs] at h36
  obtain ⟨h1, h2, h3⟩ := h.set hG hj hp (by rw [hs]; exact hz) (by rw [hs]; exact hn) (by rw [hs]; exact hi) (by rw [hs]; exact hk)
  rw [hs, upd_twice] at h1
  rw [hs] at h2 h3
  obtain ⟨k1, k2, k3⟩ := setX_same x p c
  refine ⟨h1, k1.trans e1, k2.trans e2, k3.trans e3, ?_, fun q => (h3 hv q).trans (hd q), hke.trans ?_, fun hp4 _ => ?_⟩
  · rw [h2, List.getD_eq_getElem?_getD, List.getElem?_set_self (by omega)]
    have := hc.1
    show c ≠ 0
    omega
  · unfold setV
    split
    · exact Keep3.refl _ _
    · exact Keep3.upd hG _ _ (.inr secB_off)
  · obtain ⟨w1, w2, w3⟩ := hw hp4
    exact ⟨(setX_i x p c).trans w3, c, w1, by rw [h2, w2]⟩
section
variable {w W : World} {b jb tb mb rec : Nat} {G : Gm} {M : Dv} {L : PutL} {qs : List Res}
def HouPost (G : Gm) (cap : Nat) (f : Nat → List UInt8) (tab : Nat → Im) (j p : Nat) (L L' : PutL) (y : Im) (r : Int) : Prop :=
  (r = 4 ∧ Scarce G cap (vw f L) (L.length + 6)) ∨ r = 0 ∧ Housed G (vw f L) (vw f L') tab j p y ∧ L'.length ≤ L.length + 6
theorem ISys.box2 (h : ISys w W b jb tb mb rec G M L qs) (x : Im) : ISys w ((W.alloc (.cells #[.int .u8 x.k, w16 x.n, .int .u32 x.z, w16 x.d0, w16 x.d1, w16 x.d2, w16 x.d3, w16 x.i] 41)).alloc (.cells #[.int .u8 0, .int .u16 0, .int .u32 0, .int .u16 0, .int .u16 0, .int .u16 0, .int .u16 0, .int .u16 0] 41)) b jb tb mb rec G M L (inoR (W.heap.size + 1) Im.nought :: inoR W.heap.size x :: qs) := by
  have h1 := (h.box x).box Im.nought
  have e : (W.alloc (.cells #[.int .u8 x.k, w16 x.n, .int .u32 x.z, w16 x.d0, w16 x.d1, w16 x.d2, w16 x.d3, w16 x.i] 41)).heap.size = W.heap.size + 1 := by simp
  rw [e] at h1
  exact h1
set_option maxHeartbeats 4000000 in
theorem housed_has (h : ISys w W b jb tb mb rec G M L qs) {x : Im} (hx : Fit G (vw M.cur L) x) {p : Nat} (hp : p < 36) (h0 : (pgV G (vw M.cur L) x).getD p 0 ≠ 0) :
    Calls Tryz.prog 47 #[devp mb, x.v, .int .i64 (p : Int)] W fun e w' => e = .returned (.tuple #[x.v, .int .i64 0]) ∧ ISys w w' b jb tb mb rec G M L qs := by
  have hnd := fun V => needs_any x (p : Int) V
  have hin : 4 ≤ p → x.i ≠ 0 := fun h4 e => h0 (by
    unfold pgV
    have e5 : lsV G (vw M.cur L) x.i = List.replicate 32 0 := if_pos e
    rw [e5, List.getD_eq_getElem?_getD, List.getElem?_append_right (by show 4 ≤ p; exact h4), List.getElem?_replicate]
    split <;> rfl)
  rw [decide_eq_false (by rintro ⟨h4, -, e⟩; exact hin (by omega) e)] at hnd
  have HN := Lib.hid hnd
  have h2 := h.box2 x
  have H2 := Lib.hid h2
  have HX := Lib.hid hx
  have HP := Lib.hid h0
  obtain ⟨x0, x1, x2, x3, x4, x5, x6, x7⟩ := Boxes.cells (h2.ino0 (i := 1) rfl)
  clear h h2 hnd hin hx h0
  go_enter Tryz.func47, Tryz.ntmps47
  go_wp2_with fail
  refine (HN.out _).mono ?_
  rintro e w1 ⟨rfl, hb⟩
  have h3 := H2.out.below hb
  have H3 := Lib.hid h3
  clear x0 x1 x2 x3 x4 x5 x6 x7 hb
  obtain ⟨x0, x1, x2, x3, x4, x5, x6, x7⟩ := Boxes.cells (h3.ino0 (i := 1) rfl)
  clear h3
  go_wp2_with fail
  refine (wherePage_yes H3.out HX.out hp HP.out).mono ?_
  rintro e w2 ⟨rfl, hb⟩
  have h4 := H3.out.below hb
  clear x0 x1 x2 x3 x4 x5 x6 x7 hb
  obtain ⟨x0, x1, x2, x3, x4, x5, x6, x7⟩ := Boxes.cells (h4.ino0 (i := 1) rfl)
  obtain ⟨w3, hs, h5, -⟩ := h4.put (i := 0) rfl x
  have H5 := Lib.hid h5
  clear h4 h5
  go_wp2_with fail
  refine bodyPost_ret (v := .tuple #[x.v, .int .i64 0]) ?_ rfl ⟨rfl, H5.out.drop.drop⟩
  exact results_row_tmp (p := 6) (q := 7) rfl _ _ (W.heap.size + 1) _ rfl (ino_var (H5.out.ino0 (i := 0) rfl))
set_option maxHeartbeats 4000000 in
theorem housed_dir (h : ISys w W b jb tb mb rec G M L qs) {tab : Nat → Im} (ho : Own G (vw M.cur L) tab []) {j : Nat} (hj : Rg G j) {p : Nat} (hp : p < 36) (hz : p < pagesN (tab j).z) (hk : (tab j).k ≠ 0) (h0 : (pgV G (vw M.cur L) (tab j)).getD p 0 = 0) (hi : p < 4 ∨ (tab j).i ≠ 0) :
    Calls Tryz.prog 47 #[devp mb, (tab j).v, .int .i64 (p : Int)] W fun e w' => ∃ y r L', e = .returned (.tuple #[y.v, .int .i64 r]) ∧ HouPost G (capL G.j) M.cur tab j p L L' y r ∧ ISys w w' b jb tb mb rec G M L' qs := by
  have hG := h.sm
  obtain ⟨x, hxe⟩ : ∃ x, x = tab j := ⟨_, rfl⟩
  have hx := (ho.ino j hj).fit11
  rw [← hxe] at hx hz hk h0 hi ⊢
  have hnd := fun V => needs_any x (p : Int) V
  rw [decide_eq_false (by rintro ⟨h4, -, e⟩; rcases hi with q | q; omega; exact q e)] at hnd
  have HN := Lib.hid hnd
  have h2 := h.box2 x
  have H2 := Lib.hid h2
  have HX := Lib.hid hx
  have HP := Lib.hid h0
  have HO := Lib.hid ho
  have HE := Lib.hid hxe
  have HI := Lib.hid hi
  obtain ⟨x0, x1, x2, x3, x4, x5, x6, x7⟩ := Boxes.cells (h2.ino0 (i := 1) rfl)
  clear h h2 hnd hx h0 ho hxe hi
  go_enter Tryz.func47, Tryz.ntmps47
  go_wp2_with fail
  refine (HN.out _).mono ?_
  rintro e w1 ⟨rfl, hb⟩
  have h3 := H2.out.below hb
  have H3 := Lib.hid h3
  clear x0 x1 x2 x3 x4 x5 x6 x7 hb
  obtain ⟨x0, x1, x2, x3, x4, x5, x6, x7⟩ := Boxes.cells (h3.ino0 (i := 1) rfl)
  clear h3
  go_wp2_with fail
  refine (wherePage_no H3.out HX.out hp HP.out).mono ?_
  rintro e w2 ⟨rfl, hb⟩
  have H4 := Lib.hid (H3.out.below hb)
  clear x0 x1 x2 x3 x4 x5 x6 x7 hb
  go_wp2_with fail
  refine (block_any H4.out HO.out.bit0).mono ?_
  rintro e w3 ⟨c, r, L1, rfl, ⟨rfl, rfl, hs⟩ | ⟨rfl, hl, hv, hlen⟩, h5⟩
  · obtain ⟨w4, hs4, h6, -⟩ := h5.put (i := 0) rfl Im.nought
    have hs2 : (inoStore (.pointer (some ⟨W.heap.size + 1, 0, none⟩)) (.agg #[.int .u8 0, .int .u16 0, .int .u32 0, .int .u16 0, .int .u16 0, .int .u16 0, .int .u16 0, .int .u16 0])).run Tryz.prog w3 = .ok () w4 := hs4
    have H6 := Lib.hid h6
    have HS := Lib.hid hs
    clear h5 h6 hs hs4
    go_wp2_with fail
    refine bodyPost_ret (v := .tuple #[Im.nought.v, .int .i64 4]) ?_ rfl ⟨Im.nought, 4, L1, rfl, .inl ⟨rfl, ?_⟩, H6.out.drop.drop⟩
    · exact results_row_tmp (p := 6) (q := 7) rfl _ _ (W.heap.size + 1) _ rfl (ino_var (H6.out.ino0 (i := 0) rfl))
    · rcases HS.out with e | e
      · right
        exact pickL_none e
      · left; omega
  · obtain ⟨hBg, ho1, hpg, hdt, hke⟩ := HO.out.block hG hl
    rw [← hv] at ho1 hpg hdt hke
    have hpx := hpg j hj
    have hdx := hdt j hj
    have hx1 : Fit G (vw M.cur L1) x := by rw [HE.out]; exact (ho1.ino j hj).fit11
    have HV := Lib.hid (show vw M.cur L1 (secB G c) = z64 by rw [hv]; exact upd_same _ _ _)
    have HBL := Lib.hid hl
    have H5 := Lib.hid h5
    have HS := Lib.hid fun V (hV : ISys w V b jb tb mb rec G M L1 (inoR (W.heap.size + 1) Im.nought :: inoR W.heap.size x :: qs)) => set11_tx hV hx1 hp hBg HI.out
    have HO1 := Lib.hid ho1
    have HPX := Lib.hid hpx
    have HDX := Lib.hid hdx
    have HKE := Lib.hid hke
    have HL1 := Lib.hid hlen
    obtain ⟨c0, c1, c2, c3⟩ := h5.cells
    obtain ⟨x0, x1, x2, x3, x4, x5, x6, x7⟩ := Boxes.cells (h5.ino0 (i := 1) rfl)
    clear h5 hx1 ho1 hpx hdx hke hlen hv hl hpg hdt
    go_wp2_with fail
    go_region_held3 (fun W' => W'.cell? ⟨mb, 0, none⟩ = some (devp tb) ∧ W'.cell? ⟨mb, 1, none⟩ = some (.int .i64 (G.i : Int)) ∧ W'.cell? ⟨mb, 2, none⟩ = some (.int .i64 (G.b : Int)) ∧ W'.cell? ⟨mb, 3, none⟩ = some (.int .i64 (G.j : Int)) ∧ W'.cell? ⟨W.heap.size, 0, none⟩ = some (.int .u8 x.k) ∧ W'.cell? ⟨W.heap.size, 1, none⟩ = some (w16 x.n) ∧ W'.cell? ⟨W.heap.size, 2, none⟩ = some (.int .u32 x.z) ∧ W'.cell? ⟨W.heap.size, 3, none⟩ = some (w16 x.d0) ∧ W'.cell? ⟨W.heap.size, 4, none⟩ = some (w16 x.d1) ∧ W'.cell? ⟨W.heap.size, 5, none⟩ = some (w16 x.d2) ∧ W'.cell? ⟨W.heap.size, 6, none⟩ = some (w16 x.d3) ∧ W'.cell? ⟨W.heap.size, 7, none⟩ = some (w16 x.i))
      (first | exact ⟨c0, c1, c2, c3, x0, x1, x2, x3, x4, x5, x6, x7⟩ | exact ⟨d0, d1, d2, d3, y0, y1, y2, y3, y4, y5, y6, y7⟩ | go_keep)
      (first | (go_at_call 101; ((with_reducible refine (HS.out _ (by first | with_reducible exact H5.out.drew | with_reducible exact H5.out)).mono ?_); rintro e w6 ⟨y, r, L2, rfl, hy, hO, h6⟩; have HY := Lib.hid hy; have HOP := Lib.hid hO; obtain ⟨c0, c1, c2, c3⟩ := h6.cells; obtain ⟨x0, x1, x2, x3, x4, x5, x6, x7⟩ := Boxes.cells (h6.ino0 (i := 1) rfl); obtain ⟨w7, hs7, h7, ho7⟩ := h6.put (i := 0) rfl y; obtain ⟨d0, d1, d2, d3⟩ := h7.cells; obtain ⟨y0, y1, y2, y3, y4, y5, y6, y7⟩ := Boxes.cells (h7.ino0 (i := 1) (p := W.heap.size) (x := x) rfl); have H7 := Lib.hid h7; clear hy hO h6 h7 ho7)))
    go_wp2_with fail
    refine bodyPost_ret (v := .tuple #[y.v, .int .i64 r]) ?_ rfl ⟨y, r, L2, rfl, ?_, H7.out.drop.drop⟩
    · exact results_row_tmp (p := 6) (q := 7) rfl _ _ (W.heap.size + 1) _ rfl (ino_var (H7.out.ino0 (i := 0) rfl))
    · rcases HOP.out with ⟨e4, hs⟩ | ⟨e0, hv, hl⟩
      · exact .inl ⟨e4, .inl (by have := HL1.out; omega)⟩
      · refine .inr ⟨e0, ?_, by have := HL1.out; omega⟩
        have hex := HE.out
        have hup : upd tab j x = tab := by rw [hex]; exact upd_self tab j
        have := housed_set (v := vw M.cur L) (v1 := vw M.cur L1) (tab := tab) (x := x) hG (by rw [hup]; exact HO1.out) hj hp hz (by rw [hex]; rw [HPX.out, ← hex]; exact HP.out) HI.out hk HV.out (by rw [hex]) (by rw [hex]) (by rw [hex]) (fun q => by rw [hex]; exact HDX.out q) HKE.out (fun _ => ⟨HBL.out, by rw [hex]; exact HPX.out, by rw [hex]⟩)
        rw [hv, HY.out e0]
        exact this
set_option maxHeartbeats 4000000 in
theorem housed_ind (h : ISys w W b jb tb mb rec G M L qs) {tab : Nat → Im} (ho : Own G (vw M.cur L) tab []) {j : Nat} (hj : Rg G j) {p : Nat} (hp : p < 36) (hz : p < pagesN (tab j).z) (hk : (tab j).k ≠ 0) (h4 : 4 ≤ p) (hi : (tab j).i = 0) :
    Calls Tryz.prog 47 #[devp mb, (tab j).v, .int .i64 (p : Int)] W fun e w' => ∃ y r L', e = .returned (.tuple #[y.v, .int .i64 r]) ∧ HouPost G (capL G.j) M.cur tab j p L L' y r ∧ ISys w w' b jb tb mb rec G M L' qs := by
  have hG := h.sm
  obtain ⟨x, hxe⟩ : ∃ x, x = tab j := ⟨_, rfl⟩
  have hx := (ho.ino j hj).fit11
  rw [← hxe] at hx hz hk hi ⊢
  have hnd := fun V => needs_any x (p : Int) V
  rw [decide_eq_true ⟨by omega, by omega, hi⟩] at hnd
  have HN := Lib.hid hnd
  have h2 := h.box2 x
  have H2 := Lib.hid h2
  have HX := Lib.hid hx
  have HO := Lib.hid ho
  have HE := Lib.hid hxe
  have HI := Lib.hid hi
  obtain ⟨x0, x1, x2, x3, x4, x5, x6, x7⟩ := Boxes.cells (h2.ino0 (i := 1) rfl)
  clear h h2 hnd hx ho hxe hi
  go_enter Tryz.func47, Tryz.ntmps47
  go_wp2_with fail
  refine (HN.out _).mono ?_
  rintro e w1 ⟨rfl, hb⟩
  have H3 := Lib.hid (H2.out.below hb)
  clear x0 x1 x2 x3 x4 x5 x6 x7 hb
  go_wp2_with fail
  refine (block_any H3.out HO.out.bit0).mono ?_
  rintro e w3 ⟨c, r, L1, rfl, ⟨rfl, rfl, hs⟩ | ⟨rfl, hl, hv, hlen⟩, h5⟩
  · obtain ⟨w4, hs4, h6, -⟩ := h5.put (i := 0) rfl Im.nought
    have hs2 : (inoStore (.pointer (some ⟨W.heap.size + 1, 0, none⟩)) (.agg #[.int .u8 0, .int .u16 0, .int .u32 0, .int .u16 0, .int .u16 0, .int .u16 0, .int .u16 0, .int .u16 0])).run Tryz.prog w3 = .ok () w4 := hs4
    have H6 := Lib.hid h6
    have HS := Lib.hid hs
    clear h5 h6 hs hs4
    go_wp2_with fail
    refine bodyPost_ret (v := .tuple #[Im.nought.v, .int .i64 4]) ?_ rfl ⟨Im.nought, 4, L1, rfl, .inl ⟨rfl, ?_⟩, H6.out.drop.drop⟩
    · exact results_row_tmp (p := 6) (q := 7) rfl _ _ (W.heap.size + 1) _ rfl (ino_var (H6.out.ino0 (i := 0) rfl))
    · rcases HS.out with e | e
      · right
        exact pickL_none e
      · left; omega
  · obtain ⟨hBg, ho1, hpg, hdt, hke⟩ := HO.out.block hG hl
    rw [← hv] at ho1 hpg hdt hke
    have hpx := hpg j hj
    have hdx := hdt j hj
    have hx1 : Fit G (vw M.cur L1) x := by rw [HE.out]; exact (ho1.ino j hj).fit11
    have HV := Lib.hid hv
    have HBL := Lib.hid hl
    have H5 := Lib.hid h5
    have HS := Lib.hid fun V (hV : ISys w V b jb tb mb rec G M L1 (inoR (W.heap.size + 1) Im.nought :: inoR W.heap.size x :: qs)) => begin11_tx hV hx1 hBg HI.out
    have HO1 := Lib.hid ho1
    have HPX := Lib.hid hpx
    have HDX := Lib.hid hdx
    have HKE := Lib.hid hke
    have HL1 := Lib.hid hlen
    obtain ⟨c0, c1, c2, c3⟩ := h5.cells
    obtain ⟨x0, x1, x2, x3, x4, x5, x6, x7⟩ := Boxes.cells (h5.ino0 (i := 1) rfl)
    clear h5 hx1 ho1 hpx hdx hke hlen hv hl hpg hdt
    go_wp2_with fail
    go_region_law (first
      | (go_simp; go_at_call 100; ((with_reducible refine (HS.out _ (by first | with_reducible exact H5.out.drew | with_reducible exact H5.out)).mono ?_); rintro e w6 ⟨y, r, L2, rfl, hy, hO, h6⟩; have HY := Lib.hid hy; have HOP := Lib.hid hO; obtain ⟨w7, hs7, h7, ho7⟩ := h6.put (i := 1) rfl y; have H7 := Lib.hid (show ISys w w7 b jb tb mb rec G M L2 (inoR (W.heap.size + 1) Im.nought :: inoR W.heap.size y :: qs) from h7); clear hy hO h6 h7 ho7)))
    all_goals
      clear c0 c1 c2 c3 x0 x1 x2 x3 x4 x5 x6 x7
      obtain ⟨x0, x1, x2, x3, x4, x5, x6, x7⟩ := Boxes.cells (H7.out.ino0 (i := 1) (p := W.heap.size) (x := y) rfl)
      rcases HOP.out with ⟨rfl, hs⟩ | ⟨rfl, hv, hl⟩
      · obtain ⟨w8, hs8, h8, -⟩ := H7.out.put (i := 0) (p := W.heap.size + 1) (x := Im.nought) rfl Im.nought
        have hs9 : (inoStore (.pointer (some ⟨W.heap.size + 1, 0, none⟩)) (.agg #[.int .u8 0, .int .u16 0, .int .u32 0, .int .u16 0, .int .u16 0, .int .u16 0, .int .u16 0, .int .u16 0])).run Tryz.prog w7 = .ok () w8 := hs8
        have H8 := Lib.hid h8
        have HF := Lib.hid hs
        clear h8 hs8 hs
        go_wp2_with fail
        refine bodyPost_ret (v := .tuple #[Im.nought.v, .int .i64 4]) ?_ rfl ⟨Im.nought, 4, L2, rfl, .inl ⟨rfl, .inl (by have := HF.out; have := HL1.out; omega)⟩, H8.out.drop.drop⟩
        exact results_row_tmp (p := 6) (q := 7) rfl _ _ (W.heap.size + 1) _ rfl (ino_var (H8.out.ino0 (i := 0) rfl))
      · have hex := HE.out
        have hbg := HO1.out.begin hG hj (by rw [← hex]; exact HI.out) (by unfold pagesN at hz; rw [← hex]; omega) (by rw [← hex]; exact hk)
        rw [← hex, ← hv] at hbg
        have hy := HY.out rfl
        obtain ⟨z, hze⟩ : ∃ z, z = ({ x with i := c } : Im) := ⟨_, rfl⟩
        rw [← hze] at hbg hy
        subst hy
        obtain ⟨q1, q2, q3⟩ := hbg
        have e0 : y.i = c := by rw [hze]
        have e1 : y.k = x.k := by rw [hze]
        have e2 : y.n = x.n := by rw [hze]
        have e3 : y.z = x.z := by rw [hze]
        have HZ := Lib.hid (⟨e0, e1, e2, e3⟩ : y.i = c ∧ y.k = x.k ∧ y.n = x.n ∧ y.z = x.z)
        have hup : upd (upd tab j y) j y = upd tab j y := upd_twice _ _ _ _
        have hself : upd tab j y j = y := upd_same _ _ _
        have hf2 : Fit G (vw M.cur L2) y := by have := (q1.ino j hj).fit11; rwa [hself] at this
        have hp0 : (pgV G (vw M.cur L2) y).getD p 0 = 0 := by
          rw [q2, hex, HPX.out, ← hex]
          unfold pgV
          have e5 : lsV G (vw M.cur L) x.i = List.replicate 32 0 := if_pos HI.out
          rw [e5, List.getD_eq_getElem?_getD, List.getElem?_append_right (by show 4 ≤ p; exact h4), List.getElem?_replicate]
          split <;> rfl
        have HQ1 := Lib.hid q1
        have HQ3 := Lib.hid q3
        have HP0 := Lib.hid hp0
        have HV2 := Lib.hid hv
        have HL2 := Lib.hid hl
        have HF2 := Lib.hid hf2
        clear q1 q2 q3 e0 e1 e2 e3 hup hself hf2 hp0 hv hl hze hex
        go_wp2_with fail
        refine (wherePage_no H7.out HF2.out hp HP0.out).mono ?_
        rintro e w8 ⟨rfl, hb⟩
        have H8 := Lib.hid (H7.out.below hb)
        clear hb x0 x1 x2 x3 x4 x5 x6 x7
        go_wp2_with fail
        refine (block_any H8.out HQ1.out.bit0).mono ?_
        rintro e w9 ⟨c2, r2, L3, rfl, ⟨rfl, rfl, hs⟩ | ⟨rfl, hl, hv, hlen⟩, h9⟩
        · obtain ⟨wa, hsa, ha, -⟩ := h9.put (i := 0) (p := W.heap.size + 1) (x := Im.nought) rfl Im.nought
          have hs2 : (inoStore (.pointer (some ⟨W.heap.size + 1, 0, none⟩)) (.agg #[.int .u8 0, .int .u16 0, .int .u32 0, .int .u16 0, .int .u16 0, .int .u16 0, .int .u16 0, .int .u16 0])).run Tryz.prog w9 = .ok () wa := hsa
          have HA := Lib.hid ha
          have HS2 := Lib.hid hs
          clear h9 ha hs hsa
          go_wp2_with fail
          refine bodyPost_ret (v := .tuple #[Im.nought.v, .int .i64 4]) ?_ rfl ⟨Im.nought, 4, L3, rfl, .inl ⟨rfl, ?_⟩, HA.out.drop.drop⟩
          · exact results_row_tmp (p := 6) (q := 7) rfl _ _ (W.heap.size + 1) _ rfl (ino_var (HA.out.ino0 (i := 0) rfl))
          · rcases HS2.out with e | e
            · right
              rw [HV2.out, HV.out] at e
              rw [pickL_some HBL.out]
              have hoff := off_lt hG
              have h5a := @secB_off G c
              rw [upd_other _ _ (by omega), upd_other _ _ (by omega), upd_same] at e
              rw [pickL_none e]
              rfl
            · left
              have := HL1.out; have := HL2.out
              omega
        · obtain ⟨hBg2, ho2, hpg2, hdt2, hke2⟩ := HQ1.out.block hG hl
          rw [← hv] at ho2 hpg2 hdt2 hke2
          have hpx2 := hpg2 j hj
          have hdx2 := hdt2 j hj
          have hself : upd tab j y j = y := upd_same _ _ _
          rw [hself] at hpx2
          simp only [hself] at hdx2
          have hx2 : Fit G (vw M.cur L3) y := by have := (ho2.ino j hj).fit11; rwa [hself] at this
          have hi2 : p < 4 ∨ y.i ≠ 0 := .inr (by rw [HZ.out.1]; have := hBg.1; omega)
          have HIJ := Lib.hid hi2
          have HVZ := Lib.hid (show vw M.cur L3 (secB G c2) = z64 by rw [hv]; exact upd_same _ _ _)
          have H9 := Lib.hid h9
          have HS3 := Lib.hid fun V (hV : ISys w V b jb tb mb rec G M L3 (inoR (W.heap.size + 1) Im.nought :: inoR W.heap.size y :: qs)) => set11_tx hV hx2 hp hBg2 hi2
          have HO2 := Lib.hid ho2
          have HPX2 := Lib.hid hpx2
          have HDX2 := Lib.hid hdx2
          have HKE2 := Lib.hid hke2
          have HL3 := Lib.hid hlen
          obtain ⟨c0, c1, c2', c3⟩ := h9.cells
          obtain ⟨x0, x1, x2, x3, x4, x5, x6, x7⟩ := Boxes.cells (h9.ino0 (i := 1) (p := W.heap.size) (x := y) rfl)
          clear h9 hx2 hi2 ho2 hpx2 hdx2 hke2 hlen hv hl hpg2 hdt2 hself
          go_wp2_with fail
          go_region_held3 (fun W' => W'.cell? ⟨mb, 0, none⟩ = some (devp tb) ∧ W'.cell? ⟨mb, 1, none⟩ = some (.int .i64 (G.i : Int)) ∧ W'.cell? ⟨mb, 2, none⟩ = some (.int .i64 (G.b : Int)) ∧ W'.cell? ⟨mb, 3, none⟩ = some (.int .i64 (G.j : Int)) ∧ W'.cell? ⟨W.heap.size, 0, none⟩ = some (.int .u8 y.k) ∧ W'.cell? ⟨W.heap.size, 1, none⟩ = some (w16 y.n) ∧ W'.cell? ⟨W.heap.size, 2, none⟩ = some (.int .u32 y.z) ∧ W'.cell? ⟨W.heap.size, 3, none⟩ = some (w16 y.d0) ∧ W'.cell? ⟨W.heap.size, 4, none⟩ = some (w16 y.d1) ∧ W'.cell? ⟨W.heap.size, 5, none⟩ = some (w16 y.d2) ∧ W'.cell? ⟨W.heap.size, 6, none⟩ = some (w16 y.d3) ∧ W'.cell? ⟨W.heap.size, 7, none⟩ = some (w16 y.i))
            (first | exact ⟨c0, c1, c2', c3, x0, x1, x2, x3, x4, x5, x6, x7⟩ | exact ⟨d0, d1, d2, d3, y0, y1, y2, y3, y4, y5, y6, y7⟩ | go_keep)
            (first | (go_at_call 101; ((with_reducible refine (HS3.out _ (by first | with_reducible exact H9.out.drew | with_reducible exact H9.out)).mono ?_); rintro e wb ⟨u, r, L4, rfl, hy, hO, h6⟩; have HY3 := Lib.hid hy; have HOP3 := Lib.hid hO; obtain ⟨c0, c1, c2', c3⟩ := h6.cells; obtain ⟨x0, x1, x2, x3, x4, x5, x6, x7⟩ := Boxes.cells (h6.ino0 (i := 1) (p := W.heap.size) (x := y) rfl); obtain ⟨wc, hsc, hc7, hoc⟩ := h6.put (i := 0) (p := W.heap.size + 1) (x := Im.nought) rfl u; obtain ⟨d0, d1, d2, d3⟩ := hc7.cells; obtain ⟨y0, y1, y2, y3, y4, y5, y6, y7⟩ := Boxes.cells (hc7.ino0 (i := 1) (p := W.heap.size) (x := y) rfl); have HC7 := Lib.hid hc7; clear hy hO h6 hc7 hoc)))
          go_wp2_with fail
          refine bodyPost_ret (v := .tuple #[u.v, .int .i64 r]) ?_ rfl ⟨u, r, L4, rfl, ?_, HC7.out.drop.drop⟩
          · exact results_row_tmp (p := 6) (q := 7) rfl _ _ (W.heap.size + 1) _ rfl (ino_var (HC7.out.ino0 (i := 0) rfl))
          · have l1 := HL1.out
            have l2 := HL2.out
            have l3 := HL3.out
            obtain ⟨z0, z1, z2, z3⟩ := HZ.out
            have hex := HE.out
            rcases HOP3.out with ⟨e4, hs⟩ | ⟨e0, hv, hl⟩
            · exact .inl ⟨e4, .inl (by omega)⟩
            · refine .inr ⟨e0, ?_, by omega⟩
              have hdd : ∀ q, datV G (vw M.cur L3) y q = datV G (vw M.cur L) (tab j) q := fun q => by
                have a1 := HDX2.out q
                have a2 := HQ3.out q
                have a3 := HDX.out q
                rw [a1, a2, hex, a3]
              have hkk : Keep3 G (vw M.cur L) (vw M.cur L3) := (HKE.out.trans (by rw [HV2.out]; exact Keep3.upd hG _ _ (.inr secB_off))).trans HKE2.out
              have := housed_set (v := vw M.cur L) (v1 := vw M.cur L3) (tab := tab) (x := y) hG HO2.out hj hp (by rw [z3]; exact hz) (by rw [HPX2.out]; exact HP0.out) HIJ.out (by rw [z1]; exact hk) HVZ.out (by rw [z1, hex]) (by rw [z2, hex]) (by rw [z3, hex]) hdd hkk (fun h => by omega)
              rw [hv, HY3.out e0]
              exact this
theorem Housed.self {G : Gm} {v : Nat → List UInt8} {tab : Nat → Im} (h : Own G v tab []) {j p : Nat} (h0 : (pgV G v (tab j)).getD p 0 ≠ 0) : Housed G v v tab j p (tab j) :=
  ⟨by rw [upd_self]; exact h, rfl, rfl, rfl, h0, fun _ => rfl, Keep3.refl _ _, fun _ e => absurd e h0⟩
theorem housed_any (h : ISys w W b jb tb mb rec G M L qs) {tab : Nat → Im} (ho : Own G (vw M.cur L) tab []) {j : Nat} (hj : Rg G j) {p : Nat} (hp : p < 36) (hz : p < pagesN (tab j).z) (hk : (tab j).k ≠ 0) :
    Calls Tryz.prog 47 #[devp mb, (tab j).v, .int .i64 (p : Int)] W fun e w' => ∃ y r L', e = .returned (.tuple #[y.v, .int .i64 r]) ∧ HouPost G (capL G.j) M.cur tab j p L L' y r ∧ ISys w w' b jb tb mb rec G M L' qs := by
  by_cases h0 : (pgV G (vw M.cur L) (tab j)).getD p 0 = 0
  · by_cases hi : p < 4 ∨ (tab j).i ≠ 0
    · exact housed_dir h ho hj hp hz hk h0 hi
    · exact housed_ind h ho hj hp hz hk (by omega) (by omega)
  · exact (housed_has h (ho.ino j hj).fit11 hp h0).mono fun e w' hx => ⟨tab j, 0, L, hx.1, .inr ⟨rfl, Housed.self ho h0, by omega⟩, hx.2⟩
end
end Go.Proofs.YtnfiapjdkjbdhaaGreat
/- Layer 11 (image): a page is set. -/
namespace Go.Proofs.YtnfiapjdkjbdhaaGreat
open Go.RowKit Go.Maps Go.Lib
set_option linter.unusedVariables false
set_option linter.unusedSimpArgs false
set_option maxRecDepth 10000
attribute [local go_sem ↓] ino_store_fold
structure Disk11 (G : Gm) (v : Nat → List UInt8) (im : List UInt8) (tab : Nat → Im) : Prop where
  own : Own G v tab []
  tab : Tab G v tab 0
  im : v (G.off 2) = im
theorem Disk11.fits {G : Gm} {v : Nat → List UInt8} {im : List UInt8} {tab : Nat → Im} (h : Disk11 G v im tab) {j : Nat} (hj : Rg G j) : (tab j).fits := (h.own.ino j hj).fits
theorem Disk11.may {G : Gm} {v : Nat → List UInt8} {im : List UInt8} {tab : Nat → Im} (h : Disk11 G v im tab) {j : Nat} (hj : Rg G j) : (tab j).may := (h.own.ino j hj).may
theorem Tab.keep {G : Gm} {v v' : Nat → List UInt8} {tab : Nat → Im} {k : Nat} (hG : Sm G) (h : Tab G v tab k) (hk : Keep3 G v v') : Tab G v' tab k := fun j hj hne => by
  have := sI_lt hG hj
  rw [← h j hj hne]
  unfold inB
  rw [hk.2 _ this.1 this.2]
theorem Disk11.put {G : Gm} {v v1 : Nat → List UInt8} {im : List UInt8} {tab : Nat → Im} (hG : Sm G) (h : Disk11 G v im tab) {j : Nat} (hj : Rg G j) {y : Im} (ho : Own G v1 (upd tab j y) []) (hk : Keep3 G v v1) :
    Disk11 G (upd v1 (sI G j) (over (v1 (sI G j)) (pI j) y.putL)) im (upd tab j y) := by
  have hs := sI_lt hG hj
  have hoff := off_lt hG
  have hlen : (v1 (sI G j)).length = 64 := ho.len _ (by omega)
  have hol : (over (v1 (sI G j)) (pI j) y.putL).length = 64 := over_length hlen (by rw [putL_length]; have := pI_cases j; omega)
  refine ⟨ho.putIno hG hj hol, ?_, ?_⟩
  · have ht : Tab G v1 (upd tab j y) j := (Tab.keep hG h.tab hk).upd y (.inl rfl)
    have := ht.put hG hlen hj
    rw [upd_same] at this
    exact this
  · rw [upd_other _ _ (by omega), hk.1, h.im]
theorem Disk11.page {G : Gm} {v : Nat → List UInt8} {im : List UInt8} {tab : Nat → Im} (hG : Sm G) (h : Disk11 G v im tab) {j : Nat} (hj : Rg G j) {p : Nat} (hp : (pgV G v (tab j)).getD p 0 ≠ 0) {s : List UInt8} (hs : s.length = 64) :
    Disk11 G (upd v (secB G ((pgV G v (tab j)).getD p 0)) s) im tab := by
  have hoff := off_lt hG
  have := @secB_off G ((pgV G v (tab j)).getD p 0)
  exact ⟨h.own.page hG hj hp hs, h.tab.write hG (.inr this), by rw [upd_other _ _ (by omega)]; exact h.im⟩
def pageL (x : Im) (p : Nat) (s : List UInt8) : List UInt8 := padL (s.take (min (x.z - 64 * p) 64))
structure PageSet (G : Gm) (v v' : Nat → List UInt8) (im : List UInt8) (tab : Nat → Im) (j p : Nat) (s : List UInt8) (y : Im) : Prop where
  disk : Disk11 G v' im (upd tab j y)
  k : y.k = (tab j).k
  n : y.n = (tab j).n
  z : y.z = (tab j).z
  dat : ∀ q, datV G v' y q = if q = p then pageL (tab j) p s else datV G v (tab j) q
  way : p < 4 → (pgV G v (tab j)).getD p 0 = 0 → y.i = (tab j).i ∧ ∃ c, Bits.leastL (v (G.off 3)) false (G.b + 1) = some c ∧ pgV G v' y = (pgV G v (tab j)).set p c
theorem Own.page_pg {G : Gm} {v : Nat → List UInt8} {tab : Nat → Im} {E : List Nat} (h : Own G v tab E) {j : Nat} (hj : Rg G j) {p : Nat} (hp : (pgV G v (tab j)).getD p 0 ≠ 0) {s : List UInt8} : pgV G (upd v (secB G ((pgV G v (tab j)).getD p 0)) s) (tab j) = pgV G v (tab j) := by
  refine pg_write fun hi e => ?_
  have e2 := secB_inj (by omega) (by omega) e
  have hn := h.nd j hj
  unfold ownV at hn
  obtain ⟨-, -, hn⟩ := List.nodup_append.1 hn
  exact hn _ (List.mem_filter.2 ⟨getD_mem hp, by simpa using hp⟩) _ (mem_inV.2 ⟨hp, e2⟩) rfl
section
variable {w W : World} {b jb tb mb rec : Nat} {G : Gm} {M : Dv} {L : PutL} {qs : List Res} {im : List UInt8} {tab : Nat → Im}
theorem pick_two {m : Nat} {s : List UInt8} {n : Nat} (h : pickL m n s = none) (hn : n ≤ 2) : pickL m 2 s = none := by
  match n, hn with
  | 0, _ => cases h
  | 2, _ => exact h
  | 1, _ =>
    cases hl : Bits.leastL s false m with
    | none => exact pickL_none hl
    | some c => rw [pickL_some hl] at h; cases h
theorem tryX_may (hG : Sm G) {v : Nat → List UInt8} (ho : Own G v tab []) {j : Nat} (hj : Rg G j) {p : Nat} (hp : p < 36) (hz : p < pagesN (tab j).z) (hk : (tab j).k ≠ 0) (h0 : (pgV G v (tab j)).getD p 0 = 0) {c : Nat} (hc : Bits.leastL (v (G.off 3)) false (G.b + 1) = some c) : (tryX (tab j) p c).may := by
  obtain ⟨hb, h1, hpg, -, -⟩ := ho.block hG hc
  have hs : upd tab j (tab j) = tab := upd_self tab j
  unfold tryX
  by_cases h4 : p < 4
  · rw [if_pos h4]
    obtain ⟨q1, -, -⟩ := h1.set hG hj hp hz (by rw [hpg j hj]; exact h0) (.inl h4) hk
    have := (q1.ino j hj).may
    rw [upd_same] at this
    have e : setX (tab j) p c = (tab j).setDir p c := if_pos h4
    rwa [e] at this
  · rw [if_neg h4]
    by_cases hi : (tab j).i = 0
    · rw [if_pos hi]
      obtain ⟨q1, -, -⟩ := h1.begin hG hj hi (by unfold pagesN at hz; omega) hk
      have := (q1.ino j hj).may
      rwa [upd_same] at this
    · rw [if_neg hi]
      exact (ho.ino j hj).may
theorem settable_any (h : ISys w W b jb tb mb rec G M L qs) (ho : Own G (vw M.cur L) tab []) {j : Nat} (hj : Rg G j) {p : Nat} (hp : p < 36) (hz : p < pagesN (tab j).z) (hk : (tab j).k ≠ 0) :
    Calls Tryz.prog 46 #[devp mb, (tab j).v, .int .i64 (p : Int)] W fun e w' => ∃ r, e = .returned (.int .i64 r) ∧ (r = 0 ∨ r = 4 ∧ pickL (G.b + 1) 2 (vw M.cur L (G.off 3)) = none) ∧ Below W.heap.size W w' := by
  by_cases h0 : (pgV G (vw M.cur L) (tab j)).getD p 0 = 0
  · refine (settable_no h (ho.ino j hj).fit11 hp h0 ho.bit0 fun c hc => tryX_may h.sm ho hj hp hz hk h0 hc).mono fun e w' hx => ⟨_, hx.1, ?_, hx.2⟩
    cases hpk : pickL (G.b + 1) (wantN (tab j) p) (vw M.cur L (G.off 3)) with
    | none => exact .inr ⟨pickE_none hpk, pick_two hpk (by unfold wantN; split <;> omega)⟩
    | some l => exact .inl (pickE_some (by rw [hpk]; rfl))
  · exact (settable_yes h (ho.ino j hj).fit11 hp h0).mono fun e w' hx => ⟨0, hx.1, .inl rfl, hx.2⟩
def SetPost (G : Gm) (cap : Nat) (f : Nat → List UInt8) (im : List UInt8) (tab : Nat → Im) (j p : Nat) (s : List UInt8) (L L' : PutL) (r : Int) : Prop :=
  (r = 4 ∧ Scarce G cap (vw f L) (L.length + 8)) ∨ r = 0 ∧ (∃ y, PageSet G (vw f L) (vw f L') im tab j p s y) ∧ L'.length ≤ L.length + 8
set_option maxHeartbeats 4000000 in
theorem setPage_ok (h : ISys w W b jb tb mb rec G M L qs) (hd : Disk11 G (vw M.cur L) im tab) {j : Nat} (hj : Rg G j) {p : Nat} (hp : p < 36) (hz : 64 * p < (tab j).z) (hk : (tab j).k ≠ 0) (s : List UInt8) (hs : s.length = 64) :
    Calls Tryz.prog 14 #[devp mb, .int .u32 (j : Int), .int .i64 (p : Int), str s] W fun e w' => ∃ r L', e = .returned (.int .i64 r) ∧ SetPost G (capL G.j) M.cur im tab j p s L L' r ∧ ISys w w' b jb tb mb rec G M L' qs := by
  have hG := h.sm
  have hzp : p < pagesN (tab j).z := by unfold pagesN; omega
  have hl := live_ok h j hj (tab j) (hd.fits hj) (hd.may hj) (hd.tab.zero hj)
  rw [if_neg hk] at hl
  have hz32 := (hd.fits hj).2.2.1
  obtain ⟨x, hxe⟩ : ∃ x, x = tab j := ⟨_, rfl⟩
  rw [← hxe] at hl hz hz32
  have hzw : IntKind.i64.wrap (x.z : Int) = (x.z : Int) := IntWalk.i64_in _ (by omega)
  have hge : decide ((p : Int) * 64 ≥ (x.z : Int)) = false := by simp; omega
  have hge2 : decide ((x.z : Int) ≤ (p : Int) * 64) = false := by simp; omega
  have HL := Lib.hid hl
  have H := Lib.hid h
  have HD := Lib.hid hd
  have HE := Lib.hid hxe
  have hslen : ((s.length : Int) != 64) = false := by rw [hs]; rfl
  clear h hl hd hxe
  go_enter Tryz.func14, Tryz.ntmps14
  go_wp2_with fail
  refine HL.out.mono ?_
  rintro e w1 ⟨rfl, hb⟩
  obtain ⟨w2, hs1, h2⟩ := (H.out.below hb).fresh x
  have H2 := Lib.hid h2
  obtain ⟨x0, x1, x2, x3, x4, x5, x6, x7⟩ := Boxes.cells (h2.ino0 (i := 0) rfl)
  clear hb h2
  go_wp2_with fail
  have hst := settable_any H2.out HD.out.own hj hp hzp hk
  rw [← HE.out] at hst
  refine hst.mono ?_
  clear hst
  rintro e w3 ⟨r, rfl, rfl | ⟨rfl, hno⟩, hb⟩
  · have H3 := Lib.hid (H2.out.below hb)
    clear x0 x1 x2 x3 x4 x5 x6 x7
    obtain ⟨x0, x1, x2, x3, x4, x5, x6, x7⟩ := Boxes.cells (H3.out.ino0 (i := 0) (p := w1.heap.size) (x := x) rfl)
    clear hb
    go_wp2_with fail
    have hho := housed_any H3.out HD.out.own hj hp hzp hk
    rw [← HE.out] at hho
    refine hho.mono ?_
    clear hho x0 x1 x2 x3 x4 x5 x6 x7
    rintro e w4 ⟨y, r, L1, rfl, ⟨rfl, hsc⟩ | ⟨rfl, hho, hlen1⟩, h4⟩
    · obtain ⟨w5, hs5, h5, -⟩ := h4.put (i := 0) (p := w1.heap.size) (x := x) rfl y
      have H5 := Lib.hid h5
      have HSC := Lib.hid hsc
      clear h4 h5 hsc
      go_wp2_with fail
      go_ret
      refine ⟨4, L1, rfl, .inl ⟨rfl, ?_⟩, H5.out.drop⟩
      rcases HSC.out with e | e
      · exact .inl (by omega)
      · exact .inr e
    · obtain ⟨w5, hs5, h5, -⟩ := h4.put (i := 0) (p := w1.heap.size) (x := x) rfl y
      have H5 := Lib.hid (show ISys w w5 b jb tb mb rec G M L1 (inoR w1.heap.size y :: qs) from h5)
      obtain ⟨x0, x1, x2, x3, x4, x5, x6, x7⟩ := Boxes.cells (H5.out.ino0 (i := 0) (p := w1.heap.size) (x := y) rfl)
      have hy1 := hho.own.ino j hj
      rw [upd_same] at hy1
      have hd2 := HD.out.put hG hj hho.own hho.keep
      have hsi := setInode_ok H5.out j hj y hy1.fits hy1.may
      have hlen2 := wL_len (cap := capL G.j) h4.asc (sI G j) (over (vw M.cur L1 (sI G j)) (pI j) y.putL)
      obtain ⟨L2, hL2⟩ : ∃ L2, L2 = wL (capL G.j) L1 (sI G j) (over (vw M.cur L1 (sI G j)) (pI j) y.putL) := ⟨_, rfl⟩
      rw [← hL2] at hsi hlen2
      have HHO := Lib.hid hho
      have HLE1 := Lib.hid hlen1
      have HLE2 := Lib.hid hlen2
      rcases wE_cases (capL G.j) L1 (sI G j) with e0 | ⟨e4, hf⟩
      · have hv2 : vw M.cur L2 = upd (vw M.cur L1) (sI G j) (over (vw M.cur L1 (sI G j)) (pI j) y.putL) := by rw [hL2]; exact vw_wL e0
        rw [← hv2] at hd2
        rw [e0] at hsi
        have HSI := Lib.hid hsi
        have HD2 := Lib.hid hd2
        have HV2 := Lib.hid hv2
        clear h4 h5 hho hlen1 hlen2 hy1 hd2 hsi hL2 hv2 e0
        go_wp2_with fail
        refine HSI.out.mono ?_
        rintro e w6 ⟨rfl, h6⟩
        have H6 := Lib.hid h6
        clear x0 x1 x2 x3 x4 x5 x6 x7
        obtain ⟨x0, x1, x2, x3, x4, x5, x6, x7⟩ := Boxes.cells (h6.ino0 (i := 0) (p := w1.heap.size) (x := y) rfl)
        clear h6
        have hsl := sI_lt hG hj
        have hpg2 : pgV G (vw M.cur L2) y = pgV G (vw M.cur L1) y := by rw [HV2.out]; exact pg_low hsl.2
        have hp2 : (pgV G (vw M.cur L2) y).getD p 0 ≠ 0 := by rw [hpg2]; exact HHO.out.pg
        have hy2 : InoOk G (vw M.cur L2) y := by have := HD2.out.own.ino j hj; rwa [upd_same] at this
        have HWP := Lib.hid (wherePage_yes H6.out hy2.fit11 hp hp2)
        have hBg := pgV_le hy2.fit11 p hp2
        have hsec := secB_all hBg
        obtain ⟨n, hn⟩ : ∃ n, n = min (x.z - 64 * p) 64 := ⟨_, rfl⟩
        have hyz : y.z = x.z := by rw [HHO.out.z, HE.out]
        have hsub : (y.z : Int) - (p : Int) * 64 = ((x.z - 64 * p : Nat) : Int) := by rw [hyz]; omega
        have hmin : min (((x.z - 64 * p : Nat) : Int)) 64 = (n : Int) := by omega
        have hn64 : n ≤ s.length := by omega
        have hnI : (n : Int) ≤ (s.length : Int) := by omega
        have hnI0 : (0 : Int) ≤ (n : Int) := by omega
        have hsn : (s.take n).length ≤ 64 := by rw [List.length_take]; omega
        have HPD := Lib.hid fun V => padded_any (s.take n) V hsn
        have HPL := Lib.hid (padL_length hsn)
        have HP2 := Lib.hid hp2
        have HN := Lib.hid hn
        have HPG := Lib.hid hpg2
        have HYZ := Lib.hid hyz
        clear hpg2 hp2 hy2 hBg hsl hn hsn hyz
        go_wp2_with fail
        with_reducible refine HWP.out.mono ?_
        rintro e w7 ⟨rfl, hb⟩
        have h7 := H6.out.below hb
        have H7 := Lib.hid h7
        clear x0 x1 x2 x3 x4 x5 x6 x7 hb
        obtain ⟨x0, x1, x2, x3, x4, x5, x6, x7⟩ := Boxes.cells (h7.ino0 (i := 0) (p := w1.heap.size) (x := y) rfl)
        obtain ⟨c0, c1, c2, c3⟩ := h7.cells
        clear h7
        have hD2 := HD2.out
        have hps := hD2.page hG hj (p := p) (by rw [upd_same]; exact HP2.out) (s := padL (s.take n)) HPL.out
        have hpd := hD2.own.page_dat hj (p := p) (by rw [upd_same]; exact HP2.out) (s := padL (s.take n))
        have hpgg := hD2.own.page_pg hj (p := p) (by rw [upd_same]; exact HP2.out) (s := padL (s.take n))
        rw [upd_same] at hps hpd hpgg
        have hpgg := hpgg.trans HPG.out
        have hWr := fun V (hV : ISys w V b jb tb mb rec G M L2 (inoR w1.heap.size y :: qs)) => hV.write (secB G ((pgV G (vw M.cur L2) y).getD p 0)) hsec (secB_ours hG _) (padL (s.take n)) HPL.out
        have hl3 := wL_len (cap := capL G.j) H7.out.asc (secB G ((pgV G (vw M.cur L2) y).getD p 0)) (padL (s.take n))
        have hwe := wE_cases (capL G.j) L2 (secB G ((pgV G (vw M.cur L2) y).getD p 0))
        have hvw : wE (capL G.j) L2 (secB G ((pgV G (vw M.cur L2) y).getD p 0)) = 0 → vw M.cur (wL (capL G.j) L2 (secB G ((pgV G (vw M.cur L2) y).getD p 0)) (padL (s.take n))) = upd (vw M.cur L2) (secB G ((pgV G (vw M.cur L2) y).getD p 0)) (padL (s.take n)) := fun e => vw_wL e
        generalize (pgV G (vw M.cur L2) y).getD p 0 = c at *
        obtain ⟨L3, hL3⟩ : ∃ L3, L3 = wL (capL G.j) L2 (secB G c) (padL (s.take n)) := ⟨_, rfl⟩
        obtain ⟨r, hr⟩ : ∃ r, r = wE (capL G.j) L2 (secB G c) := ⟨_, rfl⟩
        rw [← hL3] at hl3 hvw
        simp only [← hL3, ← hr] at hWr
        rw [← hr] at hvw hwe
        have HWR := Lib.hid hWr
        have HVW := Lib.hid hvw
        have HWE := Lib.hid hwe
        have HL3 := Lib.hid hl3
        have HPS := Lib.hid hps
        have HPDD := Lib.hid hpd
        have HPGG := Lib.hid hpgg
        have HS64 := Lib.hid hs
        clear hD2 hps hpd hpgg hWr hl3 hwe hvw hL3 hr hsec hs hslen
        by_cases hc : x.z - 64 * p ≤ 64
        · have hci : ((x.z - 64 * p : Nat) : Int) ≤ 64 := by omega
          have hnn : x.z - 64 * p = n := by have := HN.out; omega
          rw [hnn] at hsub hci hmin
          clear hc hnn
          go_wp2_with fail
          go_region_held3 (fun W' => W'.cell? ⟨mb, 0, none⟩ = some (devp tb))
            (first | exact c0 | go_keep)
            (first | (go_at_call 50; ((with_reducible refine (HPD.out _).mono ?_); rintro e w8 ⟨rfl, hb⟩; have H8 := Lib.hid (H7.out.after hb); obtain ⟨c0, -, -, -⟩ := H8.out.cells; clear hb))
                   | (go_at_call 49; ((with_reducible refine (HWR.out _ (by first | with_reducible exact H8.out | with_reducible exact H8.out.drew)).mono ?_); rintro e w9 ⟨rfl, hb⟩; have H9 := Lib.hid hb; obtain ⟨c0, -, -, -⟩ := H9.out.cells; clear hb)))
          go_wp2_with fail
          go_ret
          refine ⟨r, L3, rfl, ?_, H9.out.drop⟩
          have l1 := HLE1.out
          have l2 := HLE2.out
          have l3 := HL3.out
          rcases HWE.out with e0 | ⟨e4, hf⟩
          · refine .inr ⟨e0, ⟨y, ?_, HHO.out.k, HHO.out.n, HHO.out.z, fun q => ?_, fun h4 h0 => ?_⟩, by omega⟩
            · rw [HVW.out e0]; exact HPS.out
            · rw [HVW.out e0, HPDD.out q]
              have hN := HN.out
              have hE := HE.out
              split
              · unfold pageL; rw [← hE, ← hN]
              · have a1 := HHO.out.dat q
                rw [← a1, HV2.out]
                exact dat_low (sI_lt hG hj).2 q
            · obtain ⟨a1, c', a2, a3⟩ := HHO.out.way h4 h0
              exact ⟨a1, c', a2, by rw [HVW.out e0, HPGG.out, a3]⟩
          · exact .inl ⟨e4, .inl (by omega)⟩
        · have hci : ¬ ((x.z - 64 * p : Nat) : Int) ≤ 64 := by omega
          have hnn : n = 64 := by have := HN.out; omega
          subst hnn
          have hnI2 : (64 : Int) ≤ (s.length : Int) := by omega
          clear hc hnI hnI0
          go_wp2_with fail
          go_region_held3 (fun W' => W'.cell? ⟨mb, 0, none⟩ = some (devp tb))
            (first | exact c0 | go_keep)
            (first | (go_at_call 50; ((with_reducible refine (HPD.out _).mono ?_); rintro e w8 ⟨rfl, hb⟩; have H8 := Lib.hid (H7.out.after hb); obtain ⟨c0, -, -, -⟩ := H8.out.cells; clear hb))
                   | (go_at_call 49; ((with_reducible refine (HWR.out _ (by first | with_reducible exact H8.out | with_reducible exact H8.out.drew)).mono ?_); rintro e w9 ⟨rfl, hb⟩; have H9 := Lib.hid hb; obtain ⟨c0, -, -, -⟩ := H9.out.cells; clear hb)))
          go_wp2_with fail
          go_ret
          refine ⟨r, L3, rfl, ?_, H9.out.drop⟩
          have l1 := HLE1.out
          have l2 := HLE2.out
          have l3 := HL3.out
          rcases HWE.out with e0 | ⟨e4, hf⟩
          · refine .inr ⟨e0, ⟨y, ?_, HHO.out.k, HHO.out.n, HHO.out.z, fun q => ?_, fun h4 h0 => ?_⟩, by omega⟩
            · rw [HVW.out e0]; exact HPS.out
            · rw [HVW.out e0, HPDD.out q]
              have hN := HN.out
              have hE := HE.out
              split
              · unfold pageL; rw [← hE, ← hN]
              · have a1 := HHO.out.dat q
                rw [← a1, HV2.out]
                exact dat_low (sI_lt hG hj).2 q
            · obtain ⟨a1, c', a2, a3⟩ := HHO.out.way h4 h0
              exact ⟨a1, c', a2, by rw [HVW.out e0, HPGG.out, a3]⟩
          · exact .inl ⟨e4, .inl (by omega)⟩
      · rw [e4] at hsi
        have HSI := Lib.hid hsi
        have HF := Lib.hid hf
        clear h4 h5 hho hlen1 hlen2 hy1 hd2 hsi hL2 e4 hf
        go_wp2_with fail
        refine HSI.out.mono ?_
        rintro e w6 ⟨rfl, h6⟩
        clear x0 x1 x2 x3 x4 x5 x6 x7
        go_wp2_with fail
        go_ret
        exact ⟨4, _, rfl, .inl ⟨rfl, .inl (by have := HF.out; have := HLE1.out; omega)⟩, h6.drop⟩
  · have H3 := Lib.hid (H2.out.below hb)
    have HNO := Lib.hid hno
    clear hb hno
    go_wp2_with fail
    go_ret
    exact ⟨4, L, rfl, .inl ⟨rfl, .inr HNO.out⟩, H3.out.drop⟩
end
end Go.Proofs.YtnfiapjdkjbdhaaGreat
/- Layer 11 (image): a page that can't be set, and whichever is asked for. -/
namespace Go.Proofs.YtnfiapjdkjbdhaaGreat
open Go.RowKit Go.Maps Go.Lib
set_option linter.unusedVariables false
set_option linter.unusedSimpArgs false
set_option maxRecDepth 10000
attribute [local go_sem ↓] ino_store_fold
section
variable {w W : World} {b jb tb mb rec : Nat} {G : Gm} {M : Dv} {L : PutL} {qs : List Res} {im : List UInt8} {tab : Nat → Im}
set_option maxHeartbeats 2000000 in
theorem setPage_dead (k : Int) (x : Im) (e0 : Int) (he : e0 ≠ 0) (p : Int) (s : List UInt8)
    (hl : Calls Tryz.prog 45 #[devp mb, .int .u32 k] W fun e w' => e = .returned (.tuple #[x.v, .int .i64 e0]) ∧ Below W.heap.size W w') :
    Calls Tryz.prog 14 #[devp mb, .int .u32 k, .int .i64 p, str s] W fun e w' => e = .returned (.int .i64 e0) ∧ Below W.heap.size W w' := by
  have HL := Lib.hid hl
  have hne : (e0 != 0) = true := by simpa using he
  clear hl he
  go_enter Tryz.func14, Tryz.ntmps14
  go_wp2_with fail
  refine HL.out.mono ?_
  rintro e w1 ⟨rfl, hb⟩
  obtain ⟨w2, hs1, -, hb2⟩ := ino_fresh w1 x
  have HB2 := Lib.hid (hb.trans (hb2.mono hb.size))
  clear hb hb2
  go_wp2_with fail
  go_ret
  exact ⟨rfl, HB2.out⟩
set_option maxHeartbeats 2000000 in
theorem setPage_arg (k : Int) (x : Im) (hx : x.fits) (p : Int) (s : List UInt8) (hs : s.length = 64) (hp : (x.z : Int) ≤ wrap64 (p * 64))
    (hl : Calls Tryz.prog 45 #[devp mb, .int .u32 k] W fun e w' => e = .returned (.tuple #[x.v, .int .i64 0]) ∧ Below W.heap.size W w') :
    Calls Tryz.prog 14 #[devp mb, .int .u32 k, .int .i64 p, str s] W fun e w' => e = .returned (.int .i64 2) ∧ Below W.heap.size W w' := by
  have HL := Lib.hid hl
  have hz32 := hx.2.2.1
  have hzw : IntKind.i64.wrap (x.z : Int) = (x.z : Int) := IntWalk.i64_in _ (by omega)
  have hslen : ((s.length : Int) != 64) = false := by rw [hs]; rfl
  clear hl
  go_enter Tryz.func14, Tryz.ntmps14
  go_wp2_with fail
  refine HL.out.mono ?_
  rintro e w1 ⟨rfl, hb⟩
  obtain ⟨w2, hs1, hx2, hb2⟩ := ino_fresh w1 x
  have HB2 := Lib.hid (hb.trans (hb2.mono hb.size))
  obtain ⟨x0, x1, x2, x3, x4, x5, x6, x7⟩ := Boxes.cells hx2
  clear hb hb2 hx2
  go_wp2_with fail
  go_ret
  exact ⟨rfl, HB2.out⟩
set_option maxHeartbeats 2000000 in
theorem setPage_far (h : ISys w W b jb tb mb rec G M L qs) (k : Int) (x : Im) (hx : x.fits) (p : Int) (s : List UInt8) (hs : s.length = 64) (hp : ¬ (x.z : Int) ≤ wrap64 (p * 64)) (hpp : ¬ pageP p)
    (hl : Calls Tryz.prog 45 #[devp mb, .int .u32 k] W fun e w' => e = .returned (.tuple #[x.v, .int .i64 0]) ∧ Below W.heap.size W w') :
    Calls Tryz.prog 14 #[devp mb, .int .u32 k, .int .i64 p, str s] W fun e w' => e = .returned (.int .i64 2) ∧ Below W.heap.size W w' := by
  have HL := Lib.hid hl
  have hz32 := hx.2.2.1
  have hzw : IntKind.i64.wrap (x.z : Int) = (x.z : Int) := IntWalk.i64_in _ (by omega)
  have hslen : ((s.length : Int) != 64) = false := by rw [hs]; rfl
  have HS := Lib.hid fun V (hV : Below W.heap.size W V) => settable_out (h.below hV) hx hpp
  clear hl h hpp
  go_enter Tryz.func14, Tryz.ntmps14
  go_wp2_with fail
  refine HL.out.mono ?_
  rintro e w1 ⟨rfl, hb⟩
  obtain ⟨w2, hs1, hx2, hb2⟩ := ino_fresh w1 x
  have HB2 := Lib.hid (hb.trans (hb2.mono hb.size))
  obtain ⟨x0, x1, x2, x3, x4, x5, x6, x7⟩ := Boxes.cells hx2
  clear hb hb2 hx2
  go_wp2_with fail
  refine (HS.out _ HB2.out).mono ?_
  rintro e w3 ⟨rfl, hb⟩
  have HB3 := Lib.hid (HB2.out.trans (hb.mono HB2.out.size))
  clear hb
  go_wp2_with fail
  go_ret
  exact ⟨rfl, HB3.out⟩
def Alive (G : Gm) (tab : Nat → Im) (j : Nat) : Prop := Rg G j ∧ (tab j).k ≠ 0
theorem wrap_page {p : Int} (hp : pageP p) : wrap64 (p * 64) = p * 64 := by
  have h1 := hp.1; have h2 := hp.2
  unfold wrap64
  have : (p * 64) = p * 64 := rfl
  omega
theorem setPage_any (h : ISys w W b jb tb mb rec G M L qs) (hd : Disk11 G (vw M.cur L) im tab) (k : Int) (h0 : 0 ≤ k) (h9 : k < 4294967296) (p : Int) (s : List UInt8) (hs : s.length = 64) :
    Calls Tryz.prog 14 #[devp mb, .int .u32 k, .int .i64 p, str s] W fun e w' => ∃ r L', e = .returned (.int .i64 r) ∧ ISys w w' b jb tb mb rec G M L' qs ∧
      ((r ≠ 0 ∧ r ≠ 4 ∧ L' = L ∧ ∀ j : Nat, k = j → Alive G tab j → pageP p → ((tab j).z : Int) ≤ 64 * p) ∨ ∃ j q : Nat, k = j ∧ p = q ∧ Alive G tab j ∧ q < 36 ∧ 64 * q < (tab j).z ∧ SetPost G (capL G.j) M.cur im tab j q s L L' r) := by
  by_cases hk : k < 1 ∨ (G.i : Int) < k
  · refine (setPage_dead k Im.nought 2 (by decide) p s (live_bad h k hk h0 h9)).mono fun e w' hx => ⟨2, L, hx.1, h.below hx.2, .inl ⟨by decide, by decide, rfl, fun j hj ha => ?_⟩⟩
    have := ha.1.1; have := ha.1.2
    omega
  · obtain ⟨j, rfl⟩ : ∃ j : Nat, k = j := ⟨k.toNat, by omega⟩
    have hj : Rg G j := ⟨by omega, by omega⟩
    have hl := live_ok h j hj (tab j) (hd.fits hj) (hd.may hj) (hd.tab.zero hj)
    by_cases hz : (tab j).k = 0
    · rw [if_pos hz] at hl
      refine (setPage_dead (j : Int) (tab j) 3 (by decide) p s hl).mono fun e w' hx => ⟨3, L, hx.1, h.below hx.2, .inl ⟨by decide, by decide, rfl, fun i hi ha => ?_⟩⟩
      have : i = j := by omega
      subst this
      exact absurd hz ha.2
    · rw [if_neg hz] at hl
      by_cases hp : ((tab j).z : Int) ≤ wrap64 (p * 64)
      · refine (setPage_arg (j : Int) (tab j) (hd.fits hj) p s hs hp hl).mono fun e w' hx => ⟨2, L, hx.1, h.below hx.2, .inl ⟨by decide, by decide, rfl, fun i hi ha hpp => ?_⟩⟩
        have : i = j := by omega
        subst this
        rw [wrap_page hpp] at hp
        omega
      · by_cases hpp : pageP p
        · rw [wrap_page hpp] at hp
          obtain ⟨q, rfl⟩ : ∃ q : Nat, p = q := ⟨p.toNat, by have := hpp.1; omega⟩
          have hq := hpp.2
          exact (setPage_ok h hd hj (p := q) (by omega) (by omega) hz s hs).mono fun e w' ⟨r, L', h1, h2, h3⟩ => ⟨r, L', h1, h3, .inr ⟨j, q, rfl, rfl, ⟨hj, hz⟩, by omega, by omega, h2⟩⟩
        · exact (setPage_far h (j : Int) (tab j) (hd.fits hj) p s hs hp hpp hl).mono fun e w' hx => ⟨2, L, hx.1, h.below hx.2, .inl ⟨by decide, by decide, rfl, fun i hi ha hp2 => absurd hp2 hpp⟩⟩
end
end Go.Proofs.YtnfiapjdkjbdhaaGreat
