import Derived.Test.YtnfiapjdkjbdhaaGreatQ14
namespace Go.Proofs.YtnfiapjdkjbdhaaGreat
open Go.RowKit Go.Maps Go.Lib
set_option linter.unusedVariables false
set_option linter.unusedSimpArgs false
set_option maxRecDepth 10000
attribute [local go_sem ↓] ino_store_fold
/-! A number that a row does not have. -/
set_option maxHeartbeats 1000000 in
theorem index_no (l : List Nat) (c : Nat) (v : Value) (w : World) (hu : U16s w v l) (hl : l.length ≤ 100000) (hc : c ∉ l) (hlt : ∀ y ∈ l, y < 65536) :
    Calls Tryz.prog 163 #[v, w16 c] w fun e w' => e = .returned (.int .i64 (-1)) ∧ w' = w := by
  obtain ⟨A, q, rfl, hcell⟩ := hu
  have HC := Lib.hid hcell
  have HN := Lib.hid hc
  clear hcell hc
  go_enter Tryz.func163, Tryz.ntmps163
  go_wp2_with fail
  go_loopw [8] (fun i wr => ∃ k : Nat, k ≤ l.length ∧ i = .int .i64 k ∧ wr = w) (fun i _ => l.length - (Go.RowKit.intOf i).toNat)
  case atStart => exact ⟨0, Nat.zero_le _, rfl, rfl⟩
  case round =>
    obtain ⟨k, hk, rfl, rfl⟩ := hrel
    by_cases hlt2 : k < l.length
    · obtain ⟨a, ha, hx⟩ := HC.out k l[k] (List.getElem?_eq_getElem hlt2)
      subst ha
      have hne : c ≠ l[k] := fun e => HN.out (e ▸ List.getElem_mem hlt2)
      have hne2 : ((c : Int) == ((l[k] : Nat) : Int)) = false := by simp; omega
      have hki : (k : Int) < (l.length : Int) := by omega
      go_wp2_with fail
      go_roundw
      case rel => exact ⟨k + 1, by omega, by go_num, trivial⟩
      case measure => simp [Go.RowKit.intOf]; omega
    · have : k = l.length := by omega
      subst this
      go_wp2_with fail
      go_ret
      exact ⟨rfl, rfl⟩
set_option maxHeartbeats 400000 in
theorem contains_no (l : List Nat) (c : Nat) (v : Value) (w : World) (hu : U16s w v l) (hl : l.length ≤ 100000) (hc : c ∉ l) (hlt : ∀ y ∈ l, y < 65536) :
    Calls Tryz.prog 108 #[v, w16 c] w fun e w' => e = .returned (.bool false) ∧ w' = w := by
  have HI := Lib.hid (index_no l c v w hu hl hc hlt)
  clear hu hc hlt
  go_enter Tryz.func108, Tryz.ntmps108
  go_wp2_with fail
  refine HI.out.mono ?_
  rintro e w1 ⟨rfl, rfl⟩
  go_wp2_with fail
  go_ret
  exact ⟨rfl, rfl⟩
theorem takeNz_succ (l : List Nat) (k : Nat) (hk : k < l.length) : (l.take (k + 1)).filter (fun b => b != 0) = (l.take k).filter (fun b => b != 0) ++ if l.getD k 0 = 0 then [] else [l.getD k 0] := by
  rw [List.take_add_one, List.filter_append, List.getElem?_eq_getElem hk, List.getD_eq_getElem?_getD, List.getElem?_eq_getElem hk, Option.getD_some]
  congr 1
  show [l[k]].filter (fun b => b != 0) = _
  split
  · rename_i h; simp [h]
  · rename_i h; simp [h]
theorem own_cap {w : World} {base : Nat} {e : TypeId} {v : Value} {n : Nat} {xs : List Value} (h : w.ownsRow base e 1 v n xs) : ∃ A q, v = .slice A n q ∧ n ≤ q := by
  rcases h.2 with ⟨h1, h2⟩ | ⟨g, cap, cur, h1, -, -, h2, -⟩
  · exact ⟨none, 0, by rw [h1, h2], by omega⟩
  · exact ⟨_, cap, h1, h2⟩
section
variable {w W : World} {b jb tb mb rec : Nat} {G : Gm} {M : Dv} {L : PutL} {qs : List Res}
set_option maxHeartbeats 4000000 in
theorem behind_any (h : ISys w W b jb tb mb rec G M L qs) {x : Im} (hx : Fit G (vw M.cur L) x) {n : Nat} (hn : n ≤ 36) :
    Calls Tryz.prog 106 #[devp mb, x.v, .int .i64 (n : Int)] W fun e w' => ∃ v, e = .returned (.tuple #[v, .int .i64 0]) ∧ U16s w' v (lostV G (vw M.cur L) x n) ∧ (∀ k, v.ownBlock = some k → W.heap.size ≤ k) ∧ (∃ A q, v = .slice A (lostV G (vw M.cur L) x n).length q ∧ (lostV G (vw M.cur L) x n).length ≤ q) ∧ Below W.heap.size W w' := by
  have hb0 : Below W.heap.size W (W.alloc (.cells #[.int .u8 x.k, w16 x.n, .int .u32 x.z, w16 x.d0, w16 x.d1, w16 x.d2, w16 x.d3, w16 x.i] 41)) := (Below.refl _ _).alloc (Nat.le_refl _) _
  have hx0 := ino_new11 W x
  have h0 := h.below hb0
  have h36 : (pgV G (vw M.cur L) x).length = 36 := by
    unfold pgV
    rw [List.length_append, ← lis_vw, h.tx.lis h.N hx.fit.2.2.2.2.2]
    rfl
  obtain ⟨P, hP⟩ : ∃ P, P = pgV G (vw M.cur L) x := ⟨_, rfl⟩
  have hGet : ∀ k, n + k < 36 → ∀ V, ISys w V b jb tb mb rec G M L qs → Calls Tryz.prog 102 #[devp tb, gv G, x.v, .int .i64 ((n + k : Nat) : Int)] V fun e w' => e = .returned (.tuple #[w16 ((P.drop n).getD k 0), .int .i64 0]) ∧ Below V.heap.size V w' := fun k hk V hV => by
    have := get11_in hV hx hk
    rw [← hP] at this
    have e : (P.drop n).getD k 0 = P.getD (n + k) 0 := by rw [List.getD_eq_getElem?_getD, List.getD_eq_getElem?_getD, List.getElem?_drop]
    rw [e]; exact this
  have hle : ∀ k, (P.drop n).getD k 0 < 65536 := fun k => by
    have h60 := h.sm.b
    by_cases e : (P.drop n).getD k 0 = 0
    · omega
    · have := hx.le _ (by rw [← hP]; exact List.mem_of_mem_drop (getD_mem e)); omega
  have hdl : (P.drop n).length = 36 - n := by rw [List.length_drop, hP, h36]
  have hlost : lostV G (vw M.cur L) x n = (P.drop n).filter (fun b => b != 0) ++ if n ≤ 4 then inV x else [] := by rw [hP]; rfl
  have hix := hx.fits.2.2.2.2.2.2.2
  generalize hLo : lostV G (vw M.cur L) x n = LO at *
  generalize P.drop n = D at *
  have HLO := Lib.hid hlost
  generalize hW : (W.alloc (.cells #[.int .u8 x.k, w16 x.n, .int .u32 x.z, w16 x.d0, w16 x.d1, w16 x.d2, w16 x.d3, w16 x.i] 41)) = W0 at *
  have hsz : W0.heap.size = W.heap.size + 1 := by rw [← hW]; simp
  have HW := Lib.hid hW
  have H0 := Lib.hid h0
  have HX := Lib.hid hx0
  have HB := Lib.hid hb0
  have HGG := Lib.hid hGet
  have HLE := Lib.hid hle
  have HSZ := Lib.hid hsz
  clear h h0 hx0 hb0 hGet hle hW hP hlost h36 hx hsz hLo
  go_enter Tryz.func106, Tryz.ntmps106
  go_wp2_with fail
  rw [HW.out]
  clear HW
  go_loopw [8, 14] (fun v i wr => ∃ k : Nat, k ≤ 36 - n ∧ i = .int .i64 k ∧ wr.ownsRow W0.heap.size 38 1 v ((D.take k).filter (fun b => b != 0)).length (numV ((D.take k).filter (fun b => b != 0))) ∧ Below W0.heap.size W0 wr) (fun _ i _ => 36 - n - (Go.RowKit.intOf i).toNat)
  case atStart => exact ⟨0, Nat.zero_le _, rfl, World.ownsRow_nil _ _ _ _, Below.refl _ _⟩
  case round =>
    obtain ⟨k, hk, rfl, hown, hb⟩ := hrel
    have H1 := Lib.hid (H0.out.below hb)
    have HX1 := Lib.hid (HX.out.keep hb)
    have HBr := Lib.hid hb
    have HO := Lib.hid hown
    clear hb hown
    obtain ⟨c0, c1, c2, c3⟩ := H1.out.cells
    obtain ⟨x0, x1, x2, x3, x4, x5, x6, x7⟩ := Boxes.cells HX1.out
    by_cases hlt : k < 36 - n
    · have hwr : IntKind.i64.wrap ((n : Int) + (k : Int)) = (n : Int) + (k : Int) := IntWalk.i64_in _ (by omega)
      have HG := Lib.hid (fun V (hV : ISys w V b jb tb mb rec G M L qs) => (by have := HGG.out k (by omega) V hV; rw [Int.natCast_add] at this; exact this : Calls Tryz.prog 102 #[devp tb, gv G, x.v, .int .i64 ((n : Int) + (k : Int))] V fun e w' => e = .returned (.tuple #[w16 (D.getD k 0), .int .i64 0]) ∧ Below V.heap.size V w'))
      have hsucc := takeNz_succ D k (by omega)
      have hflen : ((D.take k).filter (fun b => b != 0)).length ≤ 36 := Nat.le_trans (List.length_filter_le _ _) (by rw [List.length_take]; omega)
      have hcl := HLE.out k
      generalize D.getD k 0 = c at *
      have HSU := Lib.hid hsucc
      clear hsucc
      by_cases hc0 : c = 0
      · subst hc0
        go_wp2_with fail
        go_region_held3 (fun W' => W'.cell? ⟨mb, 0, none⟩ = some (devp tb) ∧ W'.cell? ⟨mb, 1, none⟩ = some (.int .i64 (G.i : Int)) ∧ W'.cell? ⟨mb, 2, none⟩ = some (.int .i64 (G.b : Int)) ∧ W'.cell? ⟨mb, 3, none⟩ = some (.int .i64 (G.j : Int)) ∧ W'.cell? ⟨W.heap.size, 0, none⟩ = some (.int .u8 x.k) ∧ W'.cell? ⟨W.heap.size, 1, none⟩ = some (w16 x.n) ∧ W'.cell? ⟨W.heap.size, 2, none⟩ = some (.int .u32 x.z) ∧ W'.cell? ⟨W.heap.size, 3, none⟩ = some (w16 x.d0) ∧ W'.cell? ⟨W.heap.size, 4, none⟩ = some (w16 x.d1) ∧ W'.cell? ⟨W.heap.size, 5, none⟩ = some (w16 x.d2) ∧ W'.cell? ⟨W.heap.size, 6, none⟩ = some (w16 x.d3) ∧ W'.cell? ⟨W.heap.size, 7, none⟩ = some (w16 x.i))
          (first | exact ⟨c0, c1, c2, c3, x0, x1, x2, x3, x4, x5, x6, x7⟩ | go_keep)
          (first | (go_at_call 102; ((with_reducible refine (HG.out _ (by first | with_reducible exact H1.out.drew | with_reducible exact H1.out)).mono ?_); rintro e w2 ⟨rfl, hb⟩; have HBq := Lib.hid (below_of_drew hb); have HX2 := Lib.hid (HX1.out.keep HBq.out); have H2 := Lib.hid (H1.out.below HBq.out); obtain ⟨c0, c1, c2, c3⟩ := H2.out.cells; obtain ⟨x0, x1, x2, x3, x4, x5, x6, x7⟩ := Boxes.cells HX2.out; clear hb)))
        go_wp2_with fail
        go_roundw
        case rel => exact ⟨k + 1, by omega, by go_num, by rw [HSU.out, if_pos trivial, List.append_nil]; exact own_below HO.out HBq.out, HBr.out.trans (HBq.out.mono HBr.out.size)⟩
        case measure => simp [Go.RowKit.intOf]; omega
      · have hcz : ((c : Int) != 0) = true := by simp; omega
        go_wp2_with fail
        go_region_held3 (fun W' => W'.cell? ⟨mb, 0, none⟩ = some (devp tb) ∧ W'.cell? ⟨mb, 1, none⟩ = some (.int .i64 (G.i : Int)) ∧ W'.cell? ⟨mb, 2, none⟩ = some (.int .i64 (G.b : Int)) ∧ W'.cell? ⟨mb, 3, none⟩ = some (.int .i64 (G.j : Int)) ∧ W'.cell? ⟨W.heap.size, 0, none⟩ = some (.int .u8 x.k) ∧ W'.cell? ⟨W.heap.size, 1, none⟩ = some (w16 x.n) ∧ W'.cell? ⟨W.heap.size, 2, none⟩ = some (.int .u32 x.z) ∧ W'.cell? ⟨W.heap.size, 3, none⟩ = some (w16 x.d0) ∧ W'.cell? ⟨W.heap.size, 4, none⟩ = some (w16 x.d1) ∧ W'.cell? ⟨W.heap.size, 5, none⟩ = some (w16 x.d2) ∧ W'.cell? ⟨W.heap.size, 6, none⟩ = some (w16 x.d3) ∧ W'.cell? ⟨W.heap.size, 7, none⟩ = some (w16 x.i))
          (first | exact ⟨c0, c1, c2, c3, x0, x1, x2, x3, x4, x5, x6, x7⟩ | go_keep)
          (first | (go_at_call 102; ((with_reducible refine (HG.out _ (by first | with_reducible exact H1.out.drew | with_reducible exact H1.out)).mono ?_); rintro e w2 ⟨rfl, hb⟩; have HBq := Lib.hid (below_of_drew hb); have HX2 := Lib.hid (HX1.out.keep HBq.out); have H2 := Lib.hid (H1.out.below HBq.out); obtain ⟨c0, c1, c2, c3⟩ := H2.out.cells; obtain ⟨x0, x1, x2, x3, x4, x5, x6, x7⟩ := Boxes.cells HX2.out; clear hb)))
        have hown1 := own_below HO.out HBq.out
        have hbw1 := HBr.out.trans (HBq.out.mono HBr.out.size)
        go_wp2_with (at_builtin; refine wpList_append_one (W0 := W0) rfl _ _ _ rfl 38 _ 2 Tryz.underlying75 num16Info rfl _ _ _ rfl hown1 (w16 c) _ _ rfl rfl rfl (by simp only [maxLen]; omega) (by omega) hbw1 ?_; intro v' w6 hown2 hbw2)
        go_roundw
        case rel => exact ⟨k + 1, by omega, by go_num, by rw [HSU.out, if_neg hc0, numV_append, List.length_append]; exact hown2, hbw2⟩
        case measure => simp [Go.RowKit.intOf]; omega
    · have : k = 36 - n := by omega
      subst this
      have htk : D.take (36 - n) = D := List.take_of_length_le (by omega)
      rw [htk] at HO
      have hflen : (D.filter (fun b => b != 0)).length ≤ 36 := Nat.le_trans (List.length_filter_le _ _) (by omega)
      by_cases hi : x.i = 0
      · have e1 : inV x = [] := if_pos hi
        have hic : ((x.i : Int) != 0) = false := by rw [hi]; rfl
        have HE := Lib.hid (show (if n ≤ 4 then inV x else []) = [] by rw [e1]; split <;> rfl)
        clear hi e1 htk
        go_wp2_with fail
        go_ret2
        refine ⟨_, rfl, by rw [HLO.out, HE.out, List.append_nil]; exact u16s_own HO.out, fun k hk => ?_, by rw [HLO.out, HE.out, List.append_nil]; exact own_cap HO.out, HB.out.trans (HBr.out.mono HB.out.size)⟩
        have := (HO.out.lt k hk).1
        have := HSZ.out
        omega
      · have e1 : inV x = [x.i] := if_neg hi
        have hic : ((x.i : Int) != 0) = true := by simp; omega
        by_cases h4 : n ≤ 4
        · have HE := Lib.hid (show (if n ≤ 4 then inV x else []) = [x.i] by rw [e1]; exact if_pos h4)
          have hown1 := HO.out
          have hbw1 := HBr.out
          clear hi e1 htk
          go_wp2_with (at_builtin; refine wpList_append_one (W0 := W0) rfl _ _ _ rfl 38 _ 2 Tryz.underlying75 num16Info rfl _ _ _ rfl hown1 (w16 x.i) _ _ rfl rfl rfl (by simp only [maxLen]; omega) (by omega) hbw1 ?_; intro v' w6 hown2 hbw2)
          go_ret2
          refine ⟨_, rfl, by rw [HLO.out, HE.out]; exact u16s_own (by rw [numV_append]; exact hown2), fun k hk => ?_, by rw [HLO.out, HE.out, List.length_append]; exact own_cap hown2, HB.out.trans (hbw2.mono HB.out.size)⟩
          have := (hown2.lt k hk).1
          have := HSZ.out
          omega
        · have HE := Lib.hid (show (if n ≤ 4 then inV x else []) = [] from if_neg h4)
          clear hi e1 htk
          go_wp2_with fail
          go_ret2
          refine ⟨_, rfl, by rw [HLO.out, HE.out, List.append_nil]; exact u16s_own HO.out, fun k hk => ?_, by rw [HLO.out, HE.out, List.append_nil]; exact own_cap HO.out, HB.out.trans (HBr.out.mono HB.out.size)⟩
          have := (HO.out.lt k hk).1
          have := HSZ.out
          omega
end
end Go.Proofs.YtnfiapjdkjbdhaaGreat
/- Layer 11 (image): whether an inode can get a size; what is behind its end is blanked. -/
namespace Go.Proofs.YtnfiapjdkjbdhaaGreat
open Go.RowKit Go.Maps Go.Lib
set_option linter.unusedVariables false
set_option linter.unusedSimpArgs false
set_option maxRecDepth 10000
attribute [local go_sem ↓] ino_store_fold
section
variable {w W : World} {b jb tb mb rec : Nat} {G : Gm} {M : Dv} {L : PutL} {qs : List Res} {im : List UInt8} {tab : Nat → Im}
theorem u16s_take {W : World} {A : Option Addr} {l : List Nat} {n q : Nat} (h : U16s W (.slice A n q) l) {k : Nat} (hk : k ≤ l.length) : U16s W (.slice A k q) (l.take k) := by
  obtain ⟨A', c, hv, hc⟩ := h
  cases hv
  refine ⟨A, q, by rw [List.length_take, Nat.min_eq_left hk], fun j m hj => ?_⟩
  rw [List.getElem?_take] at hj
  split at hj
  · exact hc j m hj
  · cases hj
theorem lost_own {G : Gm} {v : Nat → List UInt8} {x : Im} {n c : Nat} (h : c ∈ lostV G v x n) : c ∈ ownV G v x := by
  unfold lostV at h
  rcases List.mem_append.1 h with h1 | h1
  · obtain ⟨h2, h3⟩ := List.mem_filter.1 h1
    exact mem_ownV.2 ⟨by simpa using h3, .inl (List.mem_of_mem_drop h2)⟩
  · split at h1
    · obtain ⟨h2, h3⟩ := mem_inV.1 h1
      exact mem_ownV.2 ⟨h2, .inr h3⟩
    · simp at h1
theorem lost_nodup {G : Gm} {v : Nat → List UInt8} {x : Im} (h : (ownV G v x).Nodup) (n : Nat) : (lostV G v x n).Nodup := by
  unfold lostV
  unfold ownV at h
  refine h.sublist (List.Sublist.append ((List.drop_sublist n _).filter _) ?_)
  split
  · exact List.Sublist.refl _
  · exact List.nil_sublist _
theorem lost_len {G : Gm} {v : Nat → List UInt8} {x : Im} (h : (pgV G v x).length = 36) (n : Nat) : (lostV G v x n).length ≤ 37 := by
  unfold lostV
  rw [List.length_append]
  have h1 := List.length_filter_le (fun b : Nat => b != 0) ((pgV G v x).drop n)
  rw [List.length_drop, h] at h1
  have h2 : (if n ≤ 4 then inV x else []).length ≤ 1 := by
    split
    · unfold inV; split <;> simp
    · simp
  omega
set_option maxHeartbeats 4000000 in
theorem resizable_ok (h : ISys w W b jb tb mb rec G M L qs) {x : Im} (hx : Fit G (vw M.cur L) x) (hnd : (ownV G (vw M.cur L) x).Nodup) (hbit : ∀ c ∈ ownV G (vw M.cur L) x, Bg G c ∧ Bits.bitL (vw M.cur L (G.off 3)) c = true) (z : Nat) (hz : z ≤ 2304) :
    Calls Tryz.prog 51 #[devp mb, x.v, .int .u32 (z : Int)] W fun e w' => e = .returned (.int .i64 0) ∧ Below W.heap.size W w' := by
  have hb0 : Below W.heap.size W (W.alloc (.cells #[.int .u8 x.k, w16 x.n, .int .u32 x.z, w16 x.d0, w16 x.d1, w16 x.d2, w16 x.d3, w16 x.i] 41)) := (Below.refl _ _).alloc (Nat.le_refl _) _
  have hx0 := ino_new11 W x
  have h0 := h.below hb0
  have hpn : pagesN z ≤ 36 := by unfold pagesN; omega
  have h36 : (pgV G (vw M.cur L) x).length = 36 := by
    unfold pgV
    rw [List.length_append, ← lis_vw, h.tx.lis h.N hx.fit.2.2.2.2.2]
    rfl
  have HP := Lib.hid fun V => pages_any z V (by omega)
  have HBE := Lib.hid fun V (hV : ISys w V b jb tb mb rec G M L qs) => behind_any hV hx hpn
  have hll := lost_len h36 (pagesN z)
  have hln := lost_nodup hnd (pagesN z)
  have hlb : ∀ c ∈ lostV G (vw M.cur L) x (pagesN z), Bg G c ∧ Bits.bitL (vw M.cur L (G.off 3)) c = true := fun c hc => hbit c (lost_own hc)
  obtain ⟨l, hl⟩ : ∃ l, l = lostV G (vw M.cur L) x (pagesN z) := ⟨_, rfl⟩
  rw [← hl] at hll hln hlb
  have HC := Lib.hid fun V (hV : ISys w V b jb tb mb rec G M L qs) (hp : z / 64 < 36) => content_in hV hx hp
  have hBE2 := fun V (hV : ISys w V b jb tb mb rec G M L qs) => HBE.out V hV
  rw [← hl] at hBE2
  have HBL := Lib.hid hBE2
  have h60 := h.sm.b
  have H0 := Lib.hid h0
  have HX := Lib.hid hx0
  have HB := Lib.hid hb0
  have HLN := Lib.hid hln
  have HLB := Lib.hid hlb
  obtain ⟨m, hm⟩ : ∃ m, m = z % 64 := ⟨_, rfl⟩
  obtain ⟨d, hd⟩ : ∃ d, d = z / 64 := ⟨_, rfl⟩
  rw [← hd] at HC
  have hm64 : (z : Int) % 64 = (m : Int) := by omega
  have hm64t : (z : Int).tmod 64 = (m : Int) := by rw [Int.tmod_eq_emod_of_nonneg (by omega)]; omega
  have hd64 : (z : Int) / 64 = (d : Int) := by omega
  have hd64t : (z : Int).tdiv 64 = (d : Int) := by rw [Int.tdiv_eq_ediv_of_nonneg (by omega)]; omega
  have hdw : IntKind.i64.wrap (d : Int) = (d : Int) := IntWalk.i64_in _ (by omega)
  have HD36 := Lib.hid (show m ≠ 0 → d < 36 by omega)
  generalize hW : (W.alloc (.cells #[.int .u8 x.k, w16 x.n, .int .u32 x.z, w16 x.d0, w16 x.d1, w16 x.d2, w16 x.d3, w16 x.i] 41)) = W0 at *
  have HW := Lib.hid hW
  obtain ⟨x0, x1, x2, x3, x4, x5, x6, x7⟩ := Boxes.cells hx0
  clear h h0 hx0 hb0 hW hx hnd hbit hln hlb hl HBE hBE2 h36 hpn hm hd
  go_enter Tryz.func51, Tryz.ntmps51
  go_wp2_with fail
  rw [HW.out]
  clear HW
  go_region_held3 (fun W' => W'.cell? ⟨W.heap.size, 0, none⟩ = some (.int .u8 x.k) ∧ W'.cell? ⟨W.heap.size, 1, none⟩ = some (w16 x.n) ∧ W'.cell? ⟨W.heap.size, 2, none⟩ = some (.int .u32 x.z) ∧ W'.cell? ⟨W.heap.size, 3, none⟩ = some (w16 x.d0) ∧ W'.cell? ⟨W.heap.size, 4, none⟩ = some (w16 x.d1) ∧ W'.cell? ⟨W.heap.size, 5, none⟩ = some (w16 x.d2) ∧ W'.cell? ⟨W.heap.size, 6, none⟩ = some (w16 x.d3) ∧ W'.cell? ⟨W.heap.size, 7, none⟩ = some (w16 x.i))
    (first | exact ⟨x0, x1, x2, x3, x4, x5, x6, x7⟩ | go_keep)
    (first | (go_at_call 72; ((with_reducible refine (HP.out _).mono ?_); rintro e w1 ⟨rfl, rfl⟩))
           | (go_at_call 106; ((with_reducible refine (HBL.out _ (by first | with_reducible exact H0.out.drew | with_reducible exact H0.out)).mono ?_); rintro e w2 ⟨v, rfl, hu, hfr, ⟨A, q, hv, hcap⟩, hb⟩; have HBq := Lib.hid (below_of_drew hb); have HU := Lib.hid hu; have HX1 := Lib.hid (HX.out.keep HBq.out); obtain ⟨x0, x1, x2, x3, x4, x5, x6, x7⟩ := Boxes.cells HX1.out; clear hb hu hfr)))
  subst hv
  have H2 := Lib.hid (H0.out.below HBq.out)
  go_wp2_with fail
  go_loopw [25] (fun i wr => ∃ k : Nat, k ≤ l.length ∧ i = .int .i64 k ∧ Below w2.heap.size w2 wr) (fun i _ => l.length - (Go.RowKit.intOf i).toNat)
  case atStart => exact ⟨0, Nat.zero_le _, rfl, Below.refl _ _⟩
  case round =>
    obtain ⟨k, hk, rfl, hb⟩ := hrel
    have Hr := Lib.hid (H2.out.below hb)
    have HUr := Lib.hid (HU.out.below hb)
    have HXr := Lib.hid (HX1.out.keep hb)
    have HBr := Lib.hid hb
    clear hb x0 x1 x2 x3 x4 x5 x6 x7
    obtain ⟨x0, x1, x2, x3, x4, x5, x6, x7⟩ := Boxes.cells HXr.out
    by_cases hlt : k < l.length
    · obtain ⟨A', q', hv, hcell⟩ := HUr.out
      cases hv
      obtain ⟨a, ha, hxk⟩ := hcell k l[k] (List.getElem?_eq_getElem hlt)
      subst ha
      obtain ⟨hBg, hbt⟩ := HLB.out l[k] (List.getElem_mem hlt)
      have HRet := Lib.hid (returnable_any Hr.out l[k] hBg hbt)
      have hni : l[k] ∉ l.take k := fun hm => by
        obtain ⟨i, hi, he⟩ := List.mem_iff_getElem.1 hm
        rw [List.length_take] at hi
        rw [List.getElem_take] at he
        have := List.nodup_iff_pairwise_ne.1 HLN.out
        exact (List.pairwise_iff_getElem.1 this) i k (by omega) hlt (by omega) he
      have hlt65 : ∀ y ∈ l.take k, y < 65536 := fun y hy => by have := (HLB.out y (List.mem_of_mem_take hy)).1.2; omega
      have HCo := Lib.hid fun V (hV : U16s V (.slice (some a) k q) (l.take k)) => contains_no (l.take k) l[k] (.slice (some a) k q) V hV (by rw [List.length_take]; omega) hni hlt65
      have hki : (k : Int) < (l.length : Int) := by omega
      have hk0 : (0 : Int) ≤ (k : Int) := by omega
      have hkq : (k : Int) ≤ (q : Int) := by omega
      clear hcell hni hlt65 hbt
      generalize l[k] = c at *
      go_wp2_with fail
      refine HRet.out.mono ?_
      rintro e w3 ⟨rfl, hb⟩
      have HB3 := Lib.hid (HBr.out.trans (hb.mono HBr.out.size))
      have HU3 := Lib.hid (u16s_take (HUr.out.below hb) (k := k) (by omega))
      clear hb hxk x0 x1 x2 x3 x4 x5 x6 x7
      go_wp2_with fail
      refine (HCo.out _ HU3.out).mono ?_
      rintro e w4 ⟨rfl, rfl⟩
      go_wp2_with fail
      go_roundw
      case rel => exact ⟨k + 1, by omega, by go_num, HB3.out⟩
      case measure => simp [Go.RowKit.intOf]; omega
    · have : k = l.length := by omega
      subst this
      by_cases hz0 : m = 0
      · have hzz : ((m : Int) == 0) = true := by simp; omega
        clear hz0
        go_wp2_with fail
        go_ret
        exact ⟨rfl, HB.out.trans ((HBq.out.trans (HBr.out.mono HBq.out.size)).mono HB.out.size)⟩
      · have hzz : ((m : Int) == 0) = false := by simp; omega
        have HCC := Lib.hid (HC.out wr Hr.out (HD36.out hz0))
        clear hz0
        go_wp2_with fail
        refine HCC.out.mono ?_
        rintro e w3 ⟨rfl, hb⟩
        have HB3 := Lib.hid (HBr.out.trans (hb.mono HBr.out.size))
        clear hb
        go_wp2_with fail
        go_ret
        exact ⟨rfl, HB.out.trans ((HBq.out.trans (HB3.out.mono HBq.out.size)).mono HB.out.size)⟩
end
end Go.Proofs.YtnfiapjdkjbdhaaGreat
/- Layer 11 (image): what is behind an end is blanked; an inode gets a size. -/
namespace Go.Proofs.YtnfiapjdkjbdhaaGreat
open Go.RowKit Go.Maps Go.Lib
set_option linter.unusedVariables false
set_option linter.unusedSimpArgs false
set_option maxRecDepth 10000
attribute [local go_sem ↓] ino_store_fold
def blankV (G : Gm) (v : Nat → List UInt8) (x : Im) (z : Nat) : Nat → List UInt8 :=
  if z % 64 = 0 ∨ (pgV G v x).getD (z / 64) 0 = 0 then v else upd v (secB G ((pgV G v x).getD (z / 64) 0)) (padL ((v (secB G ((pgV G v x).getD (z / 64) 0))).take (z % 64)))
section
variable {w W : World} {b jb tb mb rec : Nat} {G : Gm} {M : Dv} {L : PutL} {qs : List Res} {im : List UInt8} {tab : Nat → Im}
set_option maxHeartbeats 4000000 in
theorem blank_any (h : ISys w W b jb tb mb rec G M L qs) {x : Im} (hx : Fit G (vw M.cur L) x) (z : Nat) (hz : z ≤ 2304) :
    Calls Tryz.prog 111 #[devp mb, x.v, .int .u32 (z : Int)] W fun e w' => ∃ r L', e = .returned (.int .i64 r) ∧ OncePost (capL G.j) M.cur L L' (blankV G (vw M.cur L) x z) r ∧ ISys w w' b jb tb mb rec G M L' qs := by
  have hb0 : Below W.heap.size W (W.alloc (.cells #[.int .u8 x.k, w16 x.n, .int .u32 x.z, w16 x.d0, w16 x.d1, w16 x.d2, w16 x.d3, w16 x.i] 41)) := (Below.refl _ _).alloc (Nat.le_refl _) _
  have hx0 := ino_new11 W x
  have h0 := h.below hb0
  obtain ⟨m, hm⟩ : ∃ m, m = z % 64 := ⟨_, rfl⟩
  obtain ⟨d, hd⟩ : ∃ d, d = z / 64 := ⟨_, rfl⟩
  have hm64 : (z : Int) % 64 = (m : Int) := by omega
  have hm64t : (z : Int).tmod 64 = (m : Int) := by rw [Int.tmod_eq_emod_of_nonneg (by omega)]; omega
  have hd64 : (z : Int) / 64 = (d : Int) := by omega
  have hd64t : (z : Int).tdiv 64 = (d : Int) := by rw [Int.tdiv_eq_ediv_of_nonneg (by omega)]; omega
  have hdw : IntKind.i64.wrap (d : Int) = (d : Int) := IntWalk.i64_in _ (by omega)
  have hm63 : m < 64 := by omega
  have hd36 : m ≠ 0 → d < 36 := by omega
  unfold blankV
  rw [← hm, ← hd]
  clear hm hd hz
  have H0 := Lib.hid h0
  have HX := Lib.hid hx
  obtain ⟨x0, x1, x2, x3, x4, x5, x6, x7⟩ := Boxes.cells hx0
  by_cases hm0 : m = 0
  · rw [if_pos (.inl hm0)]
    have hmm : ((m : Int) == 0) = true := by simp; omega
    clear h hx0 hb0 h0 hx hm0 hd36
    go_enter Tryz.func111, Tryz.ntmps111
    go_wp2_with fail
    go_ret
    exact ⟨0, L, rfl, .inr ⟨rfl, rfl, by omega⟩, H0.out⟩
  · have hmm : ((m : Int) == 0) = false := by simp; omega
    have hd3 := hd36 hm0
    by_cases hp0 : (pgV G (vw M.cur L) x).getD d 0 = 0
    · rw [if_pos (.inr hp0)]
      have HW := Lib.hid (wherePage_no h0 hx hd3 hp0)
      clear h hx0 hb0 h0 hx hm0 hd36 hp0
      go_enter Tryz.func111, Tryz.ntmps111
      go_wp2_with fail
      refine HW.out.mono ?_
      rintro e w1 ⟨rfl, hb⟩
      have H1 := Lib.hid (H0.out.below hb)
      clear hb x0 x1 x2 x3 x4 x5 x6 x7
      go_wp2_with fail
      go_ret
      exact ⟨0, L, rfl, .inr ⟨rfl, rfl, by omega⟩, H1.out⟩
    · rw [if_neg (by rintro (e | e); exact hm0 e; exact hp0 e)]
      have HW := Lib.hid (wherePage_yes h0 hx hd3 hp0)
      have hsec := secB_all (pgV_le hx d hp0)
      have hlen := h.len hsec
      generalize (pgV G (vw M.cur L) x).getD d 0 = c at *
      obtain ⟨s, hs⟩ : ∃ s, s = vw M.cur L (secB G c) := ⟨_, rfl⟩
      rw [← hs] at hlen ⊢
      have hR := fun V (hV : ISys w V b jb tb mb rec G M L qs) => hV.read (secB G c) hsec
      rw [← hs] at hR
      have HR := Lib.hid hR
      have hmI : (m : Int) ≤ (s.length : Int) := by omega
      have hmI0 : (0 : Int) ≤ (m : Int) := by omega
      have hsn : (s.take m).length ≤ 64 := by rw [List.length_take]; omega
      have HPD := Lib.hid fun V => padded_any (s.take m) V hsn
      have HWR := Lib.hid fun V (hV : ISys w V b jb tb mb rec G M L qs) => hV.write (secB G c) hsec (secB_ours h.sm c) (padL (s.take m)) (padL_length hsn)
      have HON := Lib.hid (once_wr (cap := capL G.j) (f := M.cur) h.asc (secB G c) (padL (s.take m)))
      clear h hx0 hb0 h0 hx hm0 hd36 hp0 hs hR hlen hsn
      go_enter Tryz.func111, Tryz.ntmps111
      go_wp2_with fail
      refine HW.out.mono ?_
      rintro e w1 ⟨rfl, hb⟩
      have h1 := H0.out.below hb
      have H1 := Lib.hid h1
      obtain ⟨c0, c1, c2, c3⟩ := h1.cells
      clear hb x0 x1 x2 x3 x4 x5 x6 x7 h1
      go_wp2_with fail
      refine (HR.out _ H1.out).mono ?_
      rintro e w2 ⟨rfl, hb⟩
      have h2 := H1.out.below hb
      have H2 := Lib.hid h2
      clear c0 c1 c2 c3 hb
      obtain ⟨c0, c1, c2, c3⟩ := h2.cells
      clear h2
      go_wp2_with fail
      go_region_held3 (fun W' => W'.cell? ⟨mb, 0, none⟩ = some (devp tb))
        (first | exact c0 | go_keep)
        (first | (go_at_call 50; ((with_reducible refine (HPD.out _).mono ?_); rintro e w8 ⟨rfl, hb⟩; have H8 := Lib.hid (H2.out.after hb); obtain ⟨c0, -, -, -⟩ := H8.out.cells; clear hb))
               | (go_at_call 49; ((with_reducible refine (HWR.out _ (by first | with_reducible exact H8.out | with_reducible exact H8.out.drew)).mono ?_); rintro e w9 ⟨rfl, hb⟩; have H9 := Lib.hid hb; obtain ⟨c0, -, -, -⟩ := H9.out.cells; clear hb)))
      go_wp2_with fail
      go_ret
      exact ⟨_, _, rfl, HON.out, H9.out⟩
end
end Go.Proofs.YtnfiapjdkjbdhaaGreat
/- Layer 11 (image): an inode gets a size. -/
namespace Go.Proofs.YtnfiapjdkjbdhaaGreat
open Go.RowKit Go.Maps Go.Lib
set_option linter.unusedVariables false
set_option linter.unusedSimpArgs false
set_option maxRecDepth 10000
attribute [local go_sem ↓] ino_store_fold
def cutDat (old : Nat → List UInt8) (z q : Nat) : List UInt8 := if q < pagesN z then (if q = z / 64 then padL ((old q).take (z % 64)) else old q) else z64
theorem pad_z64 (m : Nat) (h : m ≤ 64) : padL (z64.take m) = z64 := by
  unfold padL z64
  rw [List.take_replicate, List.length_replicate, List.replicate_append_replicate]
  congr 1; omega
structure Gives (G : Gm) (v v1 v2 : Nat → List UInt8) (tab : Nat → Im) (j : Nat) (x : Im) (E : List Nat) : Prop where
  own : Own G v2 (upd tab j x) E
  pg : pgV G v2 x = pgV G v1 x
  dat : ∀ q, datV G v2 x q = datV G v1 x q
  keep : Keep3 G v v2
theorem Gives.step {G : Gm} {v v1 v2 : Nat → List UInt8} {tab : Nat → Im} {j : Nat} {x : Im} {E : List Nat} {c : Nat} (hG : Sm G) (h : Gives G v v1 v2 tab j x (c :: E)) : Gives G v v1 (upd v2 (G.off 3) (Bits.setL (v2 (G.off 3)) c false)) tab j x E := by
  have hoff := off_lt hG
  exact ⟨h.own.give hG, (pg_low (by omega)).trans h.pg, fun q => (dat_low (by omega) q).trans (h.dat q), h.keep.trans (Keep3.upd hG _ _ (.inl rfl))⟩
structure Resized (G : Gm) (v v' : Nat → List UInt8) (im : List UInt8) (tab : Nat → Im) (j z : Nat) (y : Im) : Prop where
  disk : Disk11 G v' im (upd tab j y)
  k : y.k = (tab j).k
  n : y.n = (tab j).n
  zz : y.z = z
  dat : ∀ q, datV G v' y q = cutDat (datV G v (tab j)) z q
  pg : pgV G v' y = (pgV G v (tab j)).take (pagesN z) ++ List.replicate (36 - pagesN z) 0
  i : y.i = if pagesN z ≤ 4 then 0 else (tab j).i
theorem blank_own {G : Gm} {v : Nat → List UInt8} {tab : Nat → Im} {x : Im} {j : Nat} (hG : Sm G) (h : Own G v (upd tab j x) []) (hj : Rg G j) (z : Nat) : Own G (blankV G v x z) (upd tab j x) [] ∧ pgV G (blankV G v x z) x = pgV G v x ∧ Keep3 G v (blankV G v x z) ∧
    ∀ q, q < pagesN z → datV G (blankV G v x z) x q = if q = z / 64 then padL ((datV G v x q).take (z % 64)) else datV G v x q := by
  have hs : upd tab j x j = x := upd_same _ _ _
  unfold blankV
  by_cases h0 : z % 64 = 0 ∨ (pgV G v x).getD (z / 64) 0 = 0
  · rw [if_pos h0]
    refine ⟨h, rfl, Keep3.refl _ _, fun q hq => ?_⟩
    split
    · rename_i e
      rcases h0 with h1 | h1
      · unfold pagesN at hq; omega
      · have : datV G v x q = z64 := by unfold datV; rw [e, if_pos h1]
        rw [this, pad_z64 _ (by omega)]
    · rfl
  · have hp : (pgV G v x).getD (z / 64) 0 ≠ 0 := fun e => h0 (.inr e)
    rw [if_neg h0]
    have hlen := h.len (secB G ((pgV G v x).getD (z / 64) 0)) (secB_all ((by have := h.ino j hj; rw [hs] at this; exact this.own (pg_own hp))))
    have hpl : (padL ((v (secB G ((pgV G v x).getD (z / 64) 0))).take (z % 64))).length = 64 := padL_length (by rw [List.length_take]; omega)
    have h1 := h.page hG hj (p := z / 64) (by rw [hs]; exact hp) hpl
    have h2 := h.page_dat hj (p := z / 64) (by rw [hs]; exact hp) (s := padL ((v (secB G ((pgV G v x).getD (z / 64) 0))).take (z % 64)))
    rw [hs] at h1 h2
    refine ⟨h1, ?_, Keep3.upd hG _ _ (.inr secB_off), fun q hq => ?_⟩
    · refine pg_write fun hi e => ?_
      have e2 := secB_inj (by omega) (by omega) e
      have hn := h.nd j hj
      rw [hs] at hn
      unfold ownV at hn
      obtain ⟨-, -, hn⟩ := List.nodup_append.1 hn
      exact hn _ (List.mem_filter.2 ⟨getD_mem hp, by simpa using hp⟩) _ (mem_inV.2 ⟨hp, e2⟩) rfl
    · rw [h2 q]
      split
      · rename_i e
        have : datV G v x q = v (secB G ((pgV G v x).getD (z / 64) 0)) := by unfold datV; rw [e, if_neg hp]
        rw [this]
      · rfl
theorem resized_of {G : Gm} {v v2 : Nat → List UInt8} {im : List UInt8} {tab : Nat → Im} (hG : Sm G) (hd : Disk11 G v im tab) {j : Nat} (hj : Rg G j) (hk : (tab j).k ≠ 0) {z : Nat} (hz : z ≤ 2304) (h64 : (tab j).k = 2 → z % 64 = 0)
    (hg : Gives G v (cutV G v (tab j) (pagesN z)) v2 tab j (cutI (tab j) (pagesN z)) []) :
    ({ cutI (tab j) (pagesN z) with z := z } : Im).fits ∧ ({ cutI (tab j) (pagesN z) with z := z } : Im).may ∧ Keep3 G v (blankV G v2 (cutI (tab j) (pagesN z)) z) ∧
      Resized G v (upd (blankV G v2 (cutI (tab j) (pagesN z)) z) (sI G j) (over (blankV G v2 (cutI (tab j) (pagesN z)) z (sI G j)) (pI j) ({ cutI (tab j) (pagesN z) with z := z } : Im).putL)) im tab j z { cutI (tab j) (pagesN z) with z := z } := by
  obtain ⟨x, hx⟩ : ∃ x, x = cutI (tab j) (pagesN z) := ⟨_, rfl⟩
  obtain ⟨s1, s2, s3⟩ := cutI_same (tab j) (pagesN z)
  have hn36 : pagesN z ≤ 36 := by unfold pagesN; omega
  obtain ⟨c1, c2, c3⟩ := hd.own.cut hG hj hn36 hk
  have hi := cutI_i (tab j) (pagesN z)
  rw [← hx] at hg s1 s2 s3 c1 c2 c3 hi ⊢
  have hs : upd tab j x j = x := upd_same _ _ _
  obtain ⟨b1, b2, b3, b4⟩ := blank_own hG hg.own hj z
  have hp0 : ∀ p, pagesN z ≤ p → (pgV G (blankV G v2 x z) x).getD p 0 = 0 := fun p hp => by
    rw [b2, hg.pg, c2, List.getD_eq_getElem?_getD, List.getElem?_append_right (by rw [List.length_take]; omega), List.getElem?_replicate]
    split <;> rfl
  have hsz := b1.size hj z (by rw [hs, s1]; exact hk) hz (by rw [hs, s1]; exact h64) (by rw [hs]; exact hp0) (by
    rw [hs, hi]
    by_cases h4 : pagesN z ≤ 4
    · rw [if_pos h4]; exact .inl rfl
    · right; unfold pagesN at h4; omega)
  rw [hs, upd_twice] at hsz
  have hio := hsz.ino j hj
  rw [upd_same] at hio
  have hke := hg.keep.trans b3
  refine ⟨hio.fits, hio.may, hke, ⟨hd.put hG hj hsz hke, s1, s2, rfl, fun q => ?_, ?_, hi⟩⟩
  rotate_left
  · rw [pg_low (sI_lt hG hj).2]
    have e : pgV G (blankV G v2 x z) { x with z := z } = pgV G (blankV G v2 x z) x := rfl
    rw [e, b2, hg.pg, c2]
  rw [dat_low (sI_lt hG hj).2 q]
  have e : datV G (blankV G v2 x z) { x with z := z } q = datV G (blankV G v2 x z) x q := rfl
  rw [e]
  unfold cutDat
  by_cases hq : q < pagesN z
  · rw [if_pos hq, b4 q hq, hg.dat q, c3 q, if_pos hq]
  · rw [if_neg hq]
    unfold datV
    rw [if_pos (hp0 q (by omega))]
end Go.Proofs.YtnfiapjdkjbdhaaGreat
/- Layer 11 (image): an inode gets a size: the calls. -/
namespace Go.Proofs.YtnfiapjdkjbdhaaGreat
open Go.RowKit Go.Maps Go.Lib
set_option linter.unusedVariables false
set_option linter.unusedSimpArgs false
set_option maxRecDepth 10000
attribute [local go_sem ↓] ino_store_fold
def costL (G : Gm) (L : PutL) : Nat := L.length + if look L (G.off 3) = none then 1 else 0
theorem cost_le (G : Gm) (L : PutL) : costL G L ≤ L.length + 1 := by unfold costL; split <;> omega
theorem len_cost (G : Gm) (L : PutL) : L.length ≤ costL G L := by unfold costL; omega
theorem cost_wr {G : Gm} {cap : Nat} {L : PutL} (ha : asc L) (s : List UInt8) (h : wE cap L (G.off 3) = 0) : costL G (wL cap L (G.off 3) s) ≤ costL G L := by
  unfold costL wL
  rw [if_pos h, look_ins, upd_same, ins_length ha]
  cases hl : look L (G.off 3) with
  | none => simp
  | some d => simp
theorem cost_full {G : Gm} {cap : Nat} {L : PutL} (h : wE cap L (G.off 3) = 4) : cap < costL G L := by
  unfold wE at h
  unfold costL
  split at h
  · rename_i e
    rw [if_pos e.1]; omega
  · cases h
section
variable {w W : World} {b jb tb mb rec : Nat} {G : Gm} {M : Dv} {L : PutL} {qs : List Res} {im : List UInt8} {tab : Nat → Im}
theorem ISys.setZ (h : ISys w W b jb tb mb rec G M L qs) {i p : Nat} {x : Im} (hi : qs[i]? = some (inoR p x)) (z : Nat) : ISys w (W.setCell ⟨p, 2, none⟩ (.int .u32 (z : Int))) b jb tb mb rec G M L (qs.set i (inoR p { x with z := z })) := by
  have hbx : InoAt W p x := by
    have hj : (iR b jb tb mb rec G M L qs)[i + 4]? = some (inoR p x) := hi
    exact h.tx.sys.mem hj
  have hj : (iR b jb tb mb rec G M L qs)[i + 4]? = some (inoR p x) := hi
  have hq : InoAt (W.setCell ⟨p, 2, none⟩ (.int .u32 (z : Int))) p { x with z := z } := by
    unfold InoAt at hbx ⊢
    rw [heap_setCell_same W p 2 _ _ _ hbx]
    rfl
  have ho : Only (fun k => k = p) W (W.setCell ⟨p, 2, none⟩ (.int .u32 (z : Int))) := Only.setCell (fun k => k = p) W ⟨p, 2, none⟩ _ rfl
  have hs := h.tx.sys.turn11 hj ho (Q := fun W => InoAt W p { x with z := z }) (hQ := fun W W' h hb => (hb p rfl).trans h) hq
  exact h.with hs
def ResPost (G : Gm) (cap : Nat) (f : Nat → List UInt8) (im : List UInt8) (tab : Nat → Im) (j z : Nat) (L L' : PutL) (r : Int) : Prop :=
  (r = 4 ∧ cap < L.length + 4) ∨ r = 0 ∧ (∃ y, Resized G (vw f L) (vw f L') im tab j z y) ∧ L'.length ≤ L.length + 4
set_option maxHeartbeats 4000000 in
theorem resize_ok (h : ISys w W b jb tb mb rec G M L qs) (hd : Disk11 G (vw M.cur L) im tab) {j : Nat} (hj : Rg G j) (hk : (tab j).k ≠ 0) (z : Nat) (hz : z ≤ 2304) (h64 : (tab j).k = 2 → z % 64 = 0) :
    Calls Tryz.prog 52 #[devp mb, .int .u32 (j : Int), (tab j).v, .int .u32 (z : Int)] W fun e w' => ∃ r L', e = .returned (.int .i64 r) ∧ ResPost G (capL G.j) M.cur im tab j z L L' r ∧ ISys w w' b jb tb mb rec G M L' qs := by
  have hG := h.sm
  obtain ⟨x, hxe⟩ : ∃ x, x = tab j := ⟨_, rfl⟩
  have hx := (hd.own.ino j hj).fit11
  have hpn : pagesN z ≤ 36 := by unfold pagesN; omega
  have hcut := hd.own.cut hG hj hpn hk
  have hpg36 := hd.own.pg_length hj
  rw [← hxe] at hx hcut hpg36 ⊢
  have HP := Lib.hid fun V => pages_any z V (by omega)
  have h2 := h.box x
  have H2 := Lib.hid h2
  have HX := Lib.hid hx
  have HD := Lib.hid hd
  have HE := Lib.hid hxe
  have HK := Lib.hid hk
  have H64 := Lib.hid h64
  have HCUT := Lib.hid hcut
  have hll := lost_len hpg36 (pagesN z)
  have HS := Lib.hid fun V (hV : ISys w V b jb tb mb rec G M L (inoR W.heap.size x :: qs)) => cut11_tx hV hx hpn
  obtain ⟨c0, c1, c2, c3⟩ := h2.cells
  obtain ⟨x0, x1, x2, x3, x4, x5, x6, x7⟩ := Boxes.cells (h2.ino0 (i := 0) rfl)
  generalize hW : (W.alloc (.cells #[.int .u8 x.k, w16 x.n, .int .u32 x.z, w16 x.d0, w16 x.d1, w16 x.d2, w16 x.d3, w16 x.i] 41)) = W0 at *
  have HW := Lib.hid hW
  clear h h2 hx hd hxe hk h64 hcut hpg36 hW hpn
  go_enter Tryz.func52, Tryz.ntmps52
  go_wp2_with fail
  rw [HW.out]
  clear HW
  refine wp_region_held_drew (S := fun W' => W'.cell? ⟨mb, 0, none⟩ = some (devp tb) ∧ W'.cell? ⟨mb, 1, none⟩ = some (.int .i64 (G.i : Int)) ∧ W'.cell? ⟨mb, 2, none⟩ = some (.int .i64 (G.b : Int)) ∧ W'.cell? ⟨mb, 3, none⟩ = some (.int .i64 (G.j : Int))) (by kernel_rfl) (by exact ⟨c0, c1, c2, c3⟩) (fun hHeld => ?_)
  refine wpAnyH_take (i := 0) (oi := _) (v := ?_) rfl (by kernel_rfl) (by kernel_rfl) (by kernel_rfl) (fun _ _ _ h => h) (Or.inl ⟨by rfl, ?_⟩) (by assumption) ?_
  rotate_left
  · intro w hSw
    try dsimp only at hSw
    go_simp
    try with_reducible rfl
  (try simp only [Act.put, List.setIfInBounds_toArray, List.set_cons_zero, List.set_cons_succ, List.getElem_toArray, List.getElem_cons_zero, List.getElem_cons_succ])
  refine wpAnyH_take (i := 1) (oi := _) (v := ?_) rfl (by kernel_rfl) (by kernel_rfl) (by kernel_rfl) (fun _ _ _ h => h) (Or.inl ⟨by rfl, ?_⟩) (by assumption) ?_
  rotate_left
  · intro w hSw
    try dsimp only at hSw
    go_simp
    try with_reducible rfl
  (try simp only [Act.put, List.setIfInBounds_toArray, List.set_cons_zero, List.set_cons_succ, List.getElem_toArray, List.getElem_cons_zero, List.getElem_cons_succ])
  refine wpAnyH_take (i := 2) (oi := _) (v := ?_) rfl (by kernel_rfl) (by kernel_rfl) (by kernel_rfl) (fun _ _ _ h => h) (Or.inl ⟨by rfl, ?_⟩) (by assumption) ?_
  rotate_left
  · intro w hSw
    try dsimp only at hSw
    go_simp
    try with_reducible rfl
  (try simp only [Act.put, List.setIfInBounds_toArray, List.set_cons_zero, List.set_cons_succ, List.getElem_toArray, List.getElem_cons_zero, List.getElem_cons_succ])
  refine wpAnyH_take (i := 3) (oi := _) (v := ?_) rfl (by kernel_rfl) (by kernel_rfl) (by kernel_rfl) (fun _ _ _ h => h) (Or.inl ⟨by rfl, ?_⟩) (by assumption) ?_
  rotate_left
  · intro w hSw
    try dsimp only at hSw
    go_simp
    try with_reducible rfl
  (try simp only [Act.put, List.setIfInBounds_toArray, List.set_cons_zero, List.set_cons_succ, List.getElem_toArray, List.getElem_cons_zero, List.getElem_cons_succ])
  refine wpAnyH_take (i := 4) (oi := _) (v := ?_) rfl (by kernel_rfl) (by kernel_rfl) (by kernel_rfl) (fun _ _ _ h => h) (Or.inl ⟨by rfl, ?_⟩) (by assumption) ?_
  rotate_left
  · intro w hSw
    try dsimp only at hSw
    go_simp
    try with_reducible rfl
  (try simp only [Act.put, List.setIfInBounds_toArray, List.set_cons_zero, List.set_cons_succ, List.getElem_toArray, List.getElem_cons_zero, List.getElem_cons_succ])
  refine wpAnyH_take (i := 5) (oi := _) (v := ?_) rfl (by kernel_rfl) (by kernel_rfl) (by kernel_rfl) (fun _ _ _ h => h) (Or.inl ⟨by rfl, ?_⟩) (by assumption) ?_
  rotate_left
  · intro w hSw
    try dsimp only at hSw
    go_simp
    try with_reducible rfl
  (try simp only [Act.put, List.setIfInBounds_toArray, List.set_cons_zero, List.set_cons_succ, List.getElem_toArray, List.getElem_cons_zero, List.getElem_cons_succ])
  refine wpAnyH_take (i := 6) (oi := _) (v := ?_) rfl (by kernel_rfl) (by kernel_rfl) (by kernel_rfl) (fun _ _ _ h => h) (Or.inl ⟨by rfl, ?_⟩) (by assumption) ?_
  rotate_left
  · intro w hSw
    try dsimp only at hSw
    go_simp
    try with_reducible rfl
  (try simp only [Act.put, List.setIfInBounds_toArray, List.set_cons_zero, List.set_cons_succ, List.getElem_toArray, List.getElem_cons_zero, List.getElem_cons_succ])
  refine wpAnyH_take (i := 7) (oi := _) (v := ?_) rfl (by kernel_rfl) (by kernel_rfl) (by kernel_rfl) (fun _ _ _ h => h) (Or.inl ⟨by rfl, ?_⟩) (by assumption) ?_
  rotate_left
  · intro w hSw
    try dsimp only at hSw
    go_simp
    try with_reducible rfl
  (try simp only [Act.put, List.setIfInBounds_toArray, List.set_cons_zero, List.set_cons_succ, List.getElem_toArray, List.getElem_cons_zero, List.getElem_cons_succ])
  refine wpAnyH_take (i := 9) (oi := _) (v := ?_) rfl (by kernel_rfl) (by kernel_rfl) (by kernel_rfl) (fun _ _ _ h => h) (Or.inl ⟨by rfl, ?_⟩) (by assumption) ?_
  rotate_left
  · intro w hSw
    try dsimp only at hSw
    go_simp
    try with_reducible rfl
  (try simp only [Act.put, List.setIfInBounds_toArray, List.set_cons_zero, List.set_cons_succ, List.getElem_toArray, List.getElem_cons_zero, List.getElem_cons_succ])
  refine wpAnyH_ready (rs := [8, 10]) (by kernel_rfl) (by simp) ?_
  refine AllReadyH.cons (o := _) rfl (fun K hK => ?_) (AllReadyH.cons (o := _) rfl (fun K hK => ?_) AllReadyH.nil)
  go_simp
  refine hK.out _ _ (by exact ⟨c0, c1, c2, c3⟩) (fun hHeld => ?_)
  clear hK K
  (try simp only [Act.put, List.setIfInBounds_toArray, List.set_cons_zero, List.set_cons_succ, List.getElem_toArray, List.getElem_cons_zero, List.getElem_cons_succ])
  refine wpAnyH_ready (rs := [10]) (by kernel_rfl) (by simp) ?_
  refine AllReadyH.cons (o := _) rfl (fun K hK => ?_) AllReadyH.nil
  go_simp
  with_reducible refine Calls.mono (HP.out _) ?_
  rintro e w1 ⟨rfl, rfl⟩
  refine hK.out _ _ (by exact ⟨c0, c1, c2, c3⟩) (fun hHeld => ?_)
  clear hK K
  (try simp only [Act.put, List.setIfInBounds_toArray, List.set_cons_zero, List.set_cons_succ, List.getElem_toArray, List.getElem_cons_zero, List.getElem_cons_succ])
  rotate_left
  go_simp
  with_reducible refine Calls.mono (HP.out _) ?_
  rintro e w1 ⟨rfl, rfl⟩
  refine hK.out _ _ (by exact ⟨c0, c1, c2, c3⟩) (fun hHeld => ?_)
  clear hK K
  (try simp only [Act.put, List.setIfInBounds_toArray, List.set_cons_zero, List.set_cons_succ, List.getElem_toArray, List.getElem_cons_zero, List.getElem_cons_succ])
  refine wpAnyH_ready (rs := [8]) (by kernel_rfl) (by simp) ?_
  refine AllReadyH.cons (o := _) rfl (fun K hK => ?_) AllReadyH.nil
  go_simp
  refine hK.out _ _ (by exact ⟨c0, c1, c2, c3⟩) (fun hHeld => ?_)
  clear hK K
  (try simp only [Act.put, List.setIfInBounds_toArray, List.set_cons_zero, List.set_cons_succ, List.getElem_toArray, List.getElem_cons_zero, List.getElem_cons_succ])
  all_goals
    refine wpAnyH_ready (rs := [11]) (by kernel_rfl) (by simp) ?_
    refine AllReadyH.cons (o := _) rfl (fun K hK => ?_) AllReadyH.nil
    go_simp
    with_reducible refine Calls.mono (HS.out _ (by first | with_reducible exact H2.out.drew | with_reducible exact H2.out)) ?_
    rintro e w3 ⟨y, v, l, r, L1, rfl, hy, hu, hfr, hO, h3⟩
    have HY := Lib.hid hy
    have HOP := Lib.hid hO
    clear c0 c1 c2 c3
    obtain ⟨c0, c1, c2, c3⟩ := h3.cells
    obtain ⟨w4, hs4, h4, -⟩ := h3.put (i := 1) (p := W.heap.size) (x := x) rfl y
    obtain ⟨d0, d1, d2, d3⟩ := h4.cells
    have H4 := Lib.hid (show ISys w w4 b jb tb mb rec G M L1 (numR v l :: inoR W.heap.size y :: qs) from h4)
    clear hy hu hfr hO h3 h4
    refine hK.out _ _ (by exact ⟨c0, c1, c2, c3⟩) (fun hHeld => ?_)
    clear hK K
    (try simp only [Act.put, List.setIfInBounds_toArray, List.set_cons_zero, List.set_cons_succ, List.getElem_toArray, List.getElem_cons_zero, List.getElem_cons_succ])
    refine wpAnyH_take (i := 12) (oi := _) (v := ?_) rfl (by kernel_rfl) (by kernel_rfl) (by kernel_rfl) (fun _ _ _ h => h) (Or.inl ⟨by rfl, ?_⟩) (by assumption) ?_
    rotate_left
    · intro w hSw
      try dsimp only at hSw
      go_simp
      try with_reducible rfl
    (try simp only [Act.put, List.setIfInBounds_toArray, List.set_cons_zero, List.set_cons_succ, List.getElem_toArray, List.getElem_cons_zero, List.getElem_cons_succ])
    refine wpAnyH_take (i := 13) (oi := _) (v := ?_) rfl (by kernel_rfl) (by kernel_rfl) (by kernel_rfl) (fun _ _ _ h => h) (Or.inl ⟨by rfl, ?_⟩) (by assumption) ?_
    rotate_left
    · intro w hSw
      try dsimp only at hSw
      go_simp
      try with_reducible rfl
    (try simp only [Act.put, List.setIfInBounds_toArray, List.set_cons_zero, List.set_cons_succ, List.getElem_toArray, List.getElem_cons_zero, List.getElem_cons_succ])
    refine wpAnyH_take (i := 14) (oi := _) (v := ?_) rfl (by kernel_rfl) (by kernel_rfl) (by kernel_rfl) (fun _ _ _ h => h) (Or.inl ⟨by rfl, ?_⟩) (by assumption) ?_
    rotate_left
    · intro w hSw
      try dsimp only at hSw
      go_simp
      try with_reducible rfl
    (try simp only [Act.put, List.setIfInBounds_toArray, List.set_cons_zero, List.set_cons_succ, List.getElem_toArray, List.getElem_cons_zero, List.getElem_cons_succ])
    refine wpAnyH_take (i := 15) (oi := _) (v := ?_) rfl (by kernel_rfl) (by kernel_rfl) (by kernel_rfl) (fun _ _ _ h => h) (Or.inl ⟨by rfl, ?_⟩) (by assumption) ?_
    rotate_left
    · intro w hSw
      try dsimp only at hSw
      go_simp
      try with_reducible rfl
    (try simp only [Act.put, List.setIfInBounds_toArray, List.set_cons_zero, List.set_cons_succ, List.getElem_toArray, List.getElem_cons_zero, List.getElem_cons_succ])
    refine wpAnyH_ready (rs := [16]) (by kernel_rfl) (by simp) ?_
    refine AllReadyH.cons (o := _) rfl (fun K hK => ?_) AllReadyH.nil
    go_simp
    refine hK.out _ _ (by exact ⟨d0, d1, d2, d3⟩) (fun hHeld => ?_)
    clear hK K
    (try simp only [Act.put, List.setIfInBounds_toArray, List.set_cons_zero, List.set_cons_succ, List.getElem_toArray, List.getElem_cons_zero, List.getElem_cons_succ])
    refine wpAnyH_take (i := 17) (oi := _) (v := ?_) rfl (by kernel_rfl) (by kernel_rfl) (by kernel_rfl) (fun _ _ _ h => h) (Or.inl ⟨by rfl, ?_⟩) (by assumption) ?_
    rotate_left
    · intro w hSw
      try dsimp only at hSw
      go_simp
      try with_reducible rfl
    (try simp only [Act.put, List.setIfInBounds_toArray, List.set_cons_zero, List.set_cons_succ, List.getElem_toArray, List.getElem_cons_zero, List.getElem_cons_succ])
    refine wpAnyH_take (i := 18) (oi := _) (v := ?_) rfl (by kernel_rfl) (by kernel_rfl) (by kernel_rfl) (fun _ _ _ h => h) (Or.inl ⟨by rfl, ?_⟩) (by assumption) ?_
    rotate_left
    · intro w hSw
      try dsimp only at hSw
      go_simp
      try with_reducible rfl
    (try simp only [Act.put, List.setIfInBounds_toArray, List.set_cons_zero, List.set_cons_succ, List.getElem_toArray, List.getElem_cons_zero, List.getElem_cons_succ])
    refine wpAnyH_done (by kernel_rfl) ?_ _
    clear c0 c1 c2 c3 d0 d1 d2 d3 x0 x1 x2 x3 x4 x5 x6 x7
    rcases HOP.out with ⟨rfl, hs⟩ | ⟨rfl, hv, hl⟩
    · have HSC := Lib.hid hs
      clear hs
      go_wp2_with fail
      go_ret
      exact ⟨4, L1, rfl, .inl ⟨rfl, by have := HSC.out; omega⟩, H4.out.drop.drop⟩
    · obtain ⟨hyx, hlx⟩ := HY.out rfl
      obtain ⟨A, q, hvs, -⟩ := H4.out.row (i := 0) (v := v) (l := l) rfl
      subst hvs
      obtain ⟨q1, -, -⟩ := HCUT.out
      rw [← hlx] at hll q1
      have hg0 : Gives G (vw M.cur L) (cutV G (vw M.cur L) x (pagesN z)) (vw M.cur L1) tab j y l := by
        rw [hv, hyx]
        refine ⟨q1, rfl, fun _ => rfl, ?_⟩
        unfold cutV
        split
        · exact Keep3.refl _ _
        · exact Keep3.upd hG _ _ (.inr secB_off)
      have HYX := Lib.hid hyx
      have HG0 := Lib.hid hg0
      have HL1 := Lib.hid hl
      clear q1 hg0 hlx hyx hv hl
      go_wp2_with fail
      go_loopw [36] (fun i wr => ∃ (k : Nat) (Lk : PutL), k ≤ l.length ∧ i = .int .i64 k ∧ ISys w wr b jb tb mb rec G M Lk (numR (.slice A l.length q) l :: inoR W.heap.size y :: qs) ∧ Gives G (vw M.cur L) (cutV G (vw M.cur L) x (pagesN z)) (vw M.cur Lk) tab j y (l.drop k) ∧ costL G Lk ≤ costL G L1) (fun i _ => l.length - (Go.RowKit.intOf i).toNat)
      case atStart => exact ⟨0, L1, Nat.zero_le _, rfl, H4.out, HG0.out, Nat.le_refl _⟩
      case round =>
        obtain ⟨k, Lk, hk, rfl, hI, hgk, hck⟩ := hrel
        have HR := Lib.hid hI
        have HGK := Lib.hid hgk
        have HCK := Lib.hid hck
        clear hI hgk hck
        by_cases hlt : k < l.length
        · have hdr := List.drop_eq_getElem_cons hlt
          obtain ⟨A', q', hv', hcell⟩ := HR.out.row (i := 0) (v := .slice A l.length q) (l := l) rfl
          cases hv'
          obtain ⟨a, ha, hxk⟩ := hcell k l[k] (List.getElem?_eq_getElem hlt)
          subst ha
          have hgk := HGK.out
          rw [hdr] at hgk
          have hBg := hgk.own.er l[k] List.mem_cons_self
          have hbt := (hgk.own.bit l[k] hBg).2 (.inl List.mem_cons_self)
          have hgv := giveBlock_any HR.out l[k] hBg hbt
          have hnext := hgk.step hG
          have hvw := fun e0 => vw_wL (f := M.cur) (s := Bits.setL (vw M.cur Lk (G.off 3)) l[k] false) (cap := capL G.j) (L := Lk) (k := G.off 3) e0
          have hcw := fun e0 => cost_wr (G := G) (cap := capL G.j) HR.out.asc (Bits.setL (vw M.cur Lk (G.off 3)) l[k] false) e0
          have hcf := fun e4 => cost_full (G := G) (cap := capL G.j) (L := Lk) e4
          have hcs := wE_cases (capL G.j) Lk (G.off 3)
          have hki : (k : Int) < (l.length : Int) := by omega
          have hk0 : (0 : Int) ≤ (k : Int) := by omega
          obtain ⟨Ln, hLn⟩ : ∃ Ln, Ln = wL (capL G.j) Lk (G.off 3) (Bits.setL (vw M.cur Lk (G.off 3)) l[k] false) := ⟨_, rfl⟩
          rw [← hLn] at hgv hvw hcw
          have HNX := Lib.hid hnext
          have HVW := Lib.hid hvw
          have HCW := Lib.hid hcw
          have HCF := Lib.hid hcf
          generalize hre : wE (capL G.j) Lk (G.off 3) = re at *
          have HGV := Lib.hid hgv
          clear hgv hnext hvw hcw hcf hLn hgk hbt hBg hcell hdr
          rcases hcs with rfl | ⟨rfl, -⟩
          · have HN := Lib.hid (HVW.out rfl ▸ HNX.out : Gives G (vw M.cur L) (cutV G (vw M.cur L) x (pagesN z)) (vw M.cur Ln) tab j y (l.drop (k + 1)))
            have HCO := Lib.hid (HCW.out rfl)
            clear hre
            generalize l[k] = c at *
            go_wp2_with fail
            refine HGV.out.mono ?_
            rintro e w5 ⟨rfl, h5⟩
            have H5 := Lib.hid h5
            clear h5 hxk
            go_wp2_with fail
            go_roundw
            case rel => exact ⟨k + 1, Ln, by omega, by go_num, H5.out, HN.out, Nat.le_trans HCO.out HCK.out⟩
            case measure => simp [Go.RowKit.intOf]; omega
          · have HFU := Lib.hid (HCF.out rfl)
            clear hre
            generalize l[k] = c at *
            go_wp2_with fail
            refine HGV.out.mono ?_
            rintro e w5 ⟨rfl, h5⟩
            have H5 := Lib.hid h5
            clear h5 hxk
            go_wp2_with fail
            go_ret
            refine ⟨4, Ln, rfl, .inl ⟨rfl, ?_⟩, H5.out.drop.drop⟩
            have h1 := HFU.out
            have h2 := HCK.out
            have h3 := cost_le G L1
            have h4 := HL1.out
            omega
        · have : k = l.length := by omega
          subst this
          have hgk := HGK.out
          rw [List.drop_length] at hgk
          have hex := HE.out
          have hyx := HYX.out
          have hyf : Fit G (vw M.cur Lk) y := by have := (hgk.own.ino j hj).fit11; rwa [upd_same] at this
          have hend := resized_of hG HD.out hj HK.out hz H64.out (v2 := vw M.cur Lk) (by rw [← hex, ← hyx]; exact hgk)
          rw [← hex, ← hyx] at hend
          obtain ⟨e1, e2, e3, e4⟩ := hend
          obtain ⟨x0, x1, x2, x3, x4, x5, x6, x7⟩ := Boxes.cells (HR.out.ino0 (i := 1) (p := W.heap.size) (x := y) rfl)
          have HBL := Lib.hid (blank_any HR.out hyf z hz)
          have HE1 := Lib.hid e1
          have HE2 := Lib.hid e2
          have HE4 := Lib.hid e4
          clear hgk hex hyx hyf e1 e2 e3 e4
          go_wp2_with fail
          refine HBL.out.mono ?_
          rintro e w5 ⟨r2, L2, rfl, hO2, h5⟩
          have H5 := Lib.hid h5
          clear x0 x1 x2 x3 x4 x5 x6 x7 h5
          have hbx := H5.out.ino0 (i := 1) (p := W.heap.size) (x := y) rfl
          obtain ⟨x0, x1, x2, x3, x4, x5, x6, x7⟩ := Boxes.cells hbx
          have fz := frozen_of_row w5 W.heap.size 2 _ _ hbx
          rcases hO2 with ⟨rfl, hs⟩ | ⟨rfl, hv, hl⟩
          · have HSC := Lib.hid hs
            clear hs hbx
            go_wp2_with fail
            go_ret
            refine ⟨4, L2, rfl, .inl ⟨rfl, ?_⟩, H5.out.drop.drop⟩
            have h1 := HSC.out
            have h2 := HCK.out
            have h3 := cost_le G L1
            have h4 := HL1.out
            have h5 := len_cost G Lk
            omega
          · have hst := H5.out.setZ (i := 1) (p := W.heap.size) (x := y) rfl z
            have h6 : ISys w (w5.setCell ⟨W.heap.size, 2, none⟩ (.int .u32 (z : Int))) b jb tb mb rec G M L2 (numR (.slice A l.length q) l :: inoR W.heap.size { y with z := z } :: qs) := hst
            have hbx6 := h6.ino0 (i := 1) (p := W.heap.size) (x := { y with z := z }) rfl
            have H6 := Lib.hid h6
            have hsi := setInode_ok h6 j hj { y with z := z } HE1.out HE2.out
            have hln := wL_len (cap := capL G.j) H5.out.asc (sI G j) (over (vw M.cur L2 (sI G j)) (pI j) ({ y with z := z } : Im).putL)
            have hcs := wE_cases (capL G.j) L2 (sI G j)
            have hvw := fun e0 => vw_wL (f := M.cur) (s := over (vw M.cur L2 (sI G j)) (pI j) ({ y with z := z } : Im).putL) (cap := capL G.j) (L := L2) (k := sI G j) e0
            obtain ⟨L3, hL3⟩ : ∃ L3, L3 = wL (capL G.j) L2 (sI G j) (over (vw M.cur L2 (sI G j)) (pI j) ({ y with z := z } : Im).putL) := ⟨_, rfl⟩
            rw [← hL3] at hsi hln hvw
            obtain ⟨y0, y1, y2, y3, y4, y5, y6, y7⟩ := Boxes.cells hbx6
            have HSI := Lib.hid hsi
            have HLN := Lib.hid hln
            have HCS := Lib.hid hcs
            have HVW := Lib.hid hvw
            have HV := Lib.hid hv
            have HLL := Lib.hid hl
            clear hst h6 hsi hln hcs hvw hL3 hv hl hbx hbx6
            go_wp2_with fail
            refine HSI.out.mono ?_
            rintro e w7 ⟨rfl, h7⟩
            have H7 := Lib.hid h7
            clear h7 x0 x1 x2 x3 x4 x5 x6 x7 y0 y1 y2 y3 y4 y5 y6 y7 fz
            go_wp2_with fail
            go_ret
            refine ⟨_, L3, rfl, ?_, H7.out.drop.drop⟩
            have h2 := HCK.out
            have h3 := cost_le G L1
            have h4 := HL1.out
            have h5 := len_cost G Lk
            have h6 := HLN.out
            have h7 := HLL.out
            rcases HCS.out with e0 | ⟨e4, hf⟩
            · refine .inr ⟨e0, ⟨{ y with z := z }, ?_⟩, by omega⟩
              rw [HVW.out e0, HV.out]
              exact HE4.out
            · exact .inl ⟨e4, by omega⟩
end
end Go.Proofs.YtnfiapjdkjbdhaaGreat
/- Layer 11 (image): Resize, Blocks, Text. -/
namespace Go.Proofs.YtnfiapjdkjbdhaaGreat
open Go.RowKit Go.Maps Go.Lib
set_option linter.unusedVariables false
set_option linter.unusedSimpArgs false
set_option maxRecDepth 10000
attribute [local go_sem ↓] ino_store_fold
section
variable {w W : World} {b jb tb mb rec : Nat} {G : Gm} {M : Dv} {L : PutL} {qs : List Res} {im : List UInt8} {tab : Nat → Im}
set_option maxHeartbeats 2000000 in
theorem resize11_dead (k : Int) (x : Im) (e0 : Int) (he : e0 ≠ 0) (z : Int)
    (hl : Calls Tryz.prog 45 #[devp mb, .int .u32 k] W fun e w' => e = .returned (.tuple #[x.v, .int .i64 e0]) ∧ Below W.heap.size W w') :
    Calls Tryz.prog 16 #[devp mb, .int .u32 k, .int .u32 z] W fun e w' => e = .returned (.int .i64 e0) ∧ Below W.heap.size W w' := by
  have HL := Lib.hid hl
  have hne : (e0 != 0) = true := by simpa using he
  clear hl he
  go_enter Tryz.func16, Tryz.ntmps16
  go_wp2_with fail
  refine HL.out.mono ?_
  rintro e w1 ⟨rfl, hb⟩
  obtain ⟨w2, hs1, -, hb2⟩ := ino_fresh w1 x
  have HB2 := Lib.hid (hb.trans (hb2.mono hb.size))
  clear hb hb2
  go_wp2_with fail
  go_ret
  exact ⟨rfl, HB2.out⟩
set_option maxHeartbeats 2000000 in
theorem resize11_arg (k : Int) (x : Im) (z : Nat) (hz : 2304 < z ∨ x.k = 2 ∧ z % 64 ≠ 0)
    (hl : Calls Tryz.prog 45 #[devp mb, .int .u32 k] W fun e w' => e = .returned (.tuple #[x.v, .int .i64 0]) ∧ Below W.heap.size W w') :
    Calls Tryz.prog 16 #[devp mb, .int .u32 k, .int .u32 (z : Int)] W fun e w' => e = .returned (.int .i64 2) ∧ Below W.heap.size W w' := by
  have HL := Lib.hid hl
  clear hl
  by_cases h1 : 2304 < z
  · have hgt : decide ((2304 : Int) < (z : Int)) = true := decide_eq_true (by omega)
    have hgti : (2304 : Int) < (z : Int) := by omega
    clear hz h1
    go_enter Tryz.func16, Tryz.ntmps16
    go_wp2_with fail
    refine HL.out.mono ?_
    rintro e w1 ⟨rfl, hb⟩
    obtain ⟨w2, hs1, hx2, hb2⟩ := ino_fresh w1 x
    have HB2 := Lib.hid (hb.trans (hb2.mono hb.size))
    obtain ⟨x0, x1, x2, x3, x4, x5, x6, x7⟩ := Boxes.cells hx2
    clear hb hb2 hx2
    go_wp2_with fail
    go_ret
    exact ⟨rfl, HB2.out⟩
  · have hlt : ¬ (2304 : Int) < (z : Int) := by omega
    obtain ⟨hk, hm⟩ := hz.resolve_left h1
    obtain ⟨m, hmm⟩ : ∃ m, m = z % 64 := ⟨_, rfl⟩
    have hm64 : (z : Int) % 64 = (m : Int) := by omega
    have hm64t : (z : Int).tmod 64 = (m : Int) := by rw [Int.tmod_eq_emod_of_nonneg (by omega)]; omega
    have hmb : ((m : Int) != 0) = true := by simp; omega
    have hkb : ((x.k : Int) == 2) = true := by simp; omega
    clear hz h1 hk hm hmm
    go_enter Tryz.func16, Tryz.ntmps16
    go_wp2_with fail
    refine HL.out.mono ?_
    rintro e w1 ⟨rfl, hb⟩
    obtain ⟨w2, hs1, hx2, hb2⟩ := ino_fresh w1 x
    have HB2 := Lib.hid (hb.trans (hb2.mono hb.size))
    obtain ⟨x0, x1, x2, x3, x4, x5, x6, x7⟩ := Boxes.cells hx2
    clear hb hb2 hx2
    go_wp2_with fail
    go_ret
    exact ⟨rfl, HB2.out⟩
theorem Disk11.bits (hd : Disk11 G (vw M.cur L) im tab) {j : Nat} (hj : Rg G j) : ∀ c ∈ ownV G (vw M.cur L) (tab j), Bg G c ∧ Bits.bitL (vw M.cur L (G.off 3)) c = true := fun c hc => by
  have h1 := (hd.own.ino j hj).own hc
  exact ⟨h1, (hd.own.bit c h1).2 (.inr ⟨j, hj, hc⟩)⟩
set_option maxHeartbeats 2000000 in
theorem resize11_ok (h : ISys w W b jb tb mb rec G M L qs) (hd : Disk11 G (vw M.cur L) im tab) {j : Nat} (hj : Rg G j) (hk : (tab j).k ≠ 0) (z : Nat) (hz : z ≤ 2304) (h64 : (tab j).k = 2 → z % 64 = 0) :
    Calls Tryz.prog 16 #[devp mb, .int .u32 (j : Int), .int .u32 (z : Int)] W fun e w' => ∃ r L', e = .returned (.int .i64 r) ∧ ResPost G (capL G.j) M.cur im tab j z L L' r ∧ ISys w w' b jb tb mb rec G M L' qs := by
  have hl := live_ok h j hj (tab j) (hd.fits hj) (hd.may hj) (hd.tab.zero hj)
  rw [if_neg hk] at hl
  have HL := Lib.hid hl
  have H := Lib.hid h
  have hR := fun V (hV : ISys w V b jb tb mb rec G M L (inoR V.heap.size (tab j) :: qs) ∨ True) => True.intro
  have HRZ := Lib.hid fun V qs' (hV : ISys w V b jb tb mb rec G M L qs') => resizable_ok hV (hd.own.ino j hj).fit11 (hd.own.nd j hj) (hd.bits hj) z hz
  have HRE := Lib.hid fun V qs' (hV : ISys w V b jb tb mb rec G M L qs') => resize_ok hV hd hj hk z hz h64
  have hlt : ¬ (2304 : Int) < (z : Int) := by omega
  obtain ⟨m, hmm⟩ : ∃ m, m = z % 64 := ⟨_, rfl⟩
  have hm64 : (z : Int) % 64 = (m : Int) := by omega
  have hm64t : (z : Int).tmod 64 = (m : Int) := by rw [Int.tmod_eq_emod_of_nonneg (by omega)]; omega
  obtain ⟨kb, hkb⟩ : ∃ kb, (((tab j).k : Int) == 2) = kb := ⟨_, rfl⟩
  have HM := Lib.hid (show kb = true → ((m : Int) != 0) = false from fun e => by
    rw [e] at hkb
    have : (tab j).k = 2 := by have := beq_iff_eq.1 hkb; omega
    have := h64 this
    simp; omega)
  obtain ⟨x, hxe⟩ : ∃ x, x = tab j := ⟨_, rfl⟩
  rw [← hxe] at HL HRZ HRE hkb
  clear h hl hR hd hk hz h64 hmm hxe
  cases kb
  · go_enter Tryz.func16, Tryz.ntmps16
    go_wp2_with fail
    refine HL.out.mono ?_
    rintro e w1 ⟨rfl, hb⟩
    obtain ⟨w2, hs1, h2⟩ := (H.out.below hb).fresh x
    have H2 := Lib.hid h2
    obtain ⟨x0, x1, x2, x3, x4, x5, x6, x7⟩ := Boxes.cells (h2.ino0 (i := 0) rfl)
    clear hb h2
    go_wp2_with fail
    refine (HRZ.out _ _ H2.out).mono ?_
    rintro e w3 ⟨rfl, hb⟩
    have H3 := Lib.hid (H2.out.below hb)
    clear x0 x1 x2 x3 x4 x5 x6 x7 hb
    obtain ⟨x0, x1, x2, x3, x4, x5, x6, x7⟩ := Boxes.cells (H3.out.ino0 (i := 0) (p := w1.heap.size) (x := x) rfl)
    go_wp2_with fail
    refine (HRE.out _ _ H3.out).mono ?_
    rintro e w4 ⟨r, L1, rfl, hp, h4⟩
    have H4 := Lib.hid h4
    have HP := Lib.hid hp
    clear x0 x1 x2 x3 x4 x5 x6 x7 h4 hp
    go_wp2_with fail
    go_ret
    exact ⟨r, L1, rfl, HP.out, H4.out.drop⟩
  · have hmb := HM.out rfl
    go_enter Tryz.func16, Tryz.ntmps16
    go_wp2_with fail
    refine HL.out.mono ?_
    rintro e w1 ⟨rfl, hb⟩
    obtain ⟨w2, hs1, h2⟩ := (H.out.below hb).fresh x
    have H2 := Lib.hid h2
    obtain ⟨x0, x1, x2, x3, x4, x5, x6, x7⟩ := Boxes.cells (h2.ino0 (i := 0) rfl)
    clear hb h2
    go_wp2_with fail
    refine (HRZ.out _ _ H2.out).mono ?_
    rintro e w3 ⟨rfl, hb⟩
    have H3 := Lib.hid (H2.out.below hb)
    clear x0 x1 x2 x3 x4 x5 x6 x7 hb
    obtain ⟨x0, x1, x2, x3, x4, x5, x6, x7⟩ := Boxes.cells (H3.out.ino0 (i := 0) (p := w1.heap.size) (x := x) rfl)
    go_wp2_with fail
    refine (HRE.out _ _ H3.out).mono ?_
    rintro e w4 ⟨r, L1, rfl, hp, h4⟩
    have H4 := Lib.hid h4
    have HP := Lib.hid hp
    clear x0 x1 x2 x3 x4 x5 x6 x7 h4 hp
    go_wp2_with fail
    go_ret
    exact ⟨r, L1, rfl, HP.out, H4.out.drop⟩
theorem resize11_any (h : ISys w W b jb tb mb rec G M L qs) (hd : Disk11 G (vw M.cur L) im tab) (k : Int) (h0 : 0 ≤ k) (h9 : k < 4294967296) (z : Nat) :
    Calls Tryz.prog 16 #[devp mb, .int .u32 k, .int .u32 (z : Int)] W fun e w' => ∃ r L', e = .returned (.int .i64 r) ∧ ISys w w' b jb tb mb rec G M L' qs ∧
      ((r ≠ 0 ∧ r ≠ 4 ∧ L' = L) ∨ ∃ j : Nat, k = j ∧ Alive G tab j ∧ z ≤ 2304 ∧ ResPost G (capL G.j) M.cur im tab j z L L' r) := by
  by_cases hk : k < 1 ∨ (G.i : Int) < k
  · exact (resize11_dead k Im.nought 2 (by decide) z (live_bad h k hk h0 h9)).mono fun e w' hx => ⟨2, L, hx.1, h.below hx.2, .inl ⟨by decide, by decide, rfl⟩⟩
  · obtain ⟨j, rfl⟩ : ∃ j : Nat, k = j := ⟨k.toNat, by omega⟩
    have hj : Rg G j := ⟨by omega, by omega⟩
    have hl := live_ok h j hj (tab j) (hd.fits hj) (hd.may hj) (hd.tab.zero hj)
    by_cases hz : (tab j).k = 0
    · rw [if_pos hz] at hl
      exact (resize11_dead (j : Int) (tab j) 3 (by decide) z hl).mono fun e w' hx => ⟨3, L, hx.1, h.below hx.2, .inl ⟨by decide, by decide, rfl⟩⟩
    · rw [if_neg hz] at hl
      by_cases hp : 2304 < z ∨ (tab j).k = 2 ∧ z % 64 ≠ 0
      · exact (resize11_arg (j : Int) (tab j) z hp hl).mono fun e w' hx => ⟨2, L, hx.1, h.below hx.2, .inl ⟨by decide, by decide, rfl⟩⟩
      · exact (resize11_ok h hd hj hz z (by omega) (by omega)).mono fun e w' ⟨r, L', h1, h2, h3⟩ => ⟨r, L', h1, h3, .inr ⟨j, rfl, ⟨hj, hz⟩, by omega, h2⟩⟩
set_option maxHeartbeats 4000000 in
theorem blocks11_ok (h : ISys w W b jb tb mb rec G M L qs) (hd : Disk11 G (vw M.cur L) im tab) {j : Nat} (hj : Rg G j) :
    Calls Tryz.prog 33 #[devp mb, .int .u32 (j : Int)] W fun e w' => ∃ v, e = .returned (.tuple #[v, .int .i64 0]) ∧ U16s w' v (ownV G (vw M.cur L) (tab j)) ∧ Below W.heap.size W w' := by
  have hx := (hd.own.ino j hj).fit11
  have HI := Lib.hid (inode11_ok h j hj (tab j) (hd.fits hj) (hd.may hj) (hd.tab.zero hj))
  have H := Lib.hid h
  obtain ⟨x, hxe⟩ : ∃ x, x = tab j := ⟨_, rfl⟩
  rw [← hxe] at hx HI ⊢
  have hE : ctE M.n (capL G.j) G M.cur L x 0 = 0 := by
    unfold ctE
    rw [if_pos ⟨hx.fit, by unfold cutP; omega⟩, if_pos (by omega)]
  have hF : ctF G M.cur L x 0 0 = ownV G (vw M.cur L) x := by
    have := lost_free G M.cur L x 0
    unfold ctF
    rw [if_pos rfl]
    have e : ((0 : Nat) : Int) = 0 := rfl
    rw [e] at this
    rw [this]
    unfold lostV ownV
    rw [if_pos (by omega)]
    rfl
  have hA := fun V (hV : ISys w V b jb tb mb rec G M L qs) => ball_tx hV.tx hV.sm.ok hV.N x hx.fits
  rw [hE, hF] at hA
  have HA := Lib.hid hA
  clear h hd hx hxe hE hF hA
  go_enter Tryz.func33, Tryz.ntmps33
  go_wp2_with fail
  refine HI.out.mono ?_
  rintro e w1 ⟨rfl, hb⟩
  obtain ⟨w2, hs1, hx2, hb2⟩ := ino_fresh w1 x
  have hb12 := hb.trans (hb2.mono hb.size)
  have HB2 := Lib.hid hb12
  have H2 := Lib.hid (H.out.below hb12)
  obtain ⟨x0, x1, x2, x3, x4, x5, x6, x7⟩ := Boxes.cells hx2
  obtain ⟨c0, c1, c2, c3⟩ := H2.out.cells
  have HX2 := Lib.hid hx2
  clear hb hb2 hx2 hb12
  go_wp2_with fail
  go_region_held3 (fun W' => W'.cell? ⟨mb, 0, none⟩ = some (devp tb) ∧ W'.cell? ⟨mb, 1, none⟩ = some (.int .i64 (G.i : Int)) ∧ W'.cell? ⟨mb, 2, none⟩ = some (.int .i64 (G.b : Int)) ∧ W'.cell? ⟨mb, 3, none⟩ = some (.int .i64 (G.j : Int)) ∧ W'.cell? ⟨w1.heap.size, 0, none⟩ = some (.int .u8 x.k) ∧ W'.cell? ⟨w1.heap.size, 1, none⟩ = some (w16 x.n) ∧ W'.cell? ⟨w1.heap.size, 2, none⟩ = some (.int .u32 x.z) ∧ W'.cell? ⟨w1.heap.size, 3, none⟩ = some (w16 x.d0) ∧ W'.cell? ⟨w1.heap.size, 4, none⟩ = some (w16 x.d1) ∧ W'.cell? ⟨w1.heap.size, 5, none⟩ = some (w16 x.d2) ∧ W'.cell? ⟨w1.heap.size, 6, none⟩ = some (w16 x.d3) ∧ W'.cell? ⟨w1.heap.size, 7, none⟩ = some (w16 x.i))
    (first | exact ⟨c0, c1, c2, c3, x0, x1, x2, x3, x4, x5, x6, x7⟩ | go_keep)
    (first | (go_at_call 73; ((with_reducible refine (HA.out _ (by first | with_reducible exact H2.out.drew | with_reducible exact H2.out)).mono ?_); rintro e w3 ⟨v, rfl, hu, hb⟩; have HBq := Lib.hid (below_of_drew hb); have HU := Lib.hid hu; have HX3 := Lib.hid (HX2.out.keep HBq.out); obtain ⟨c0, c1, c2, c3⟩ := (H2.out.below HBq.out).cells; obtain ⟨x0, x1, x2, x3, x4, x5, x6, x7⟩ := Boxes.cells HX3.out; clear hb hu)))
  go_wp2_with fail
  go_ret2
  exact ⟨v, rfl, HU.out, HB2.out.trans (HBq.out.mono HB2.out.size)⟩
end
end Go.Proofs.YtnfiapjdkjbdhaaGreat
/- Layer 11 (image): New; what the parts of a formatted disk begin with. -/
namespace Go.Proofs.YtnfiapjdkjbdhaaGreat
open Go.RowKit Go.Maps Go.Lib
set_option linter.unusedVariables false
set_option linter.unusedSimpArgs false
set_option maxRecDepth 10000
def rootI : Im := ⟨2, 1, 0, 0, 0, 0, 0, 0⟩
theorem rootI_fits : rootI.fits := by simp [Im.fits, rootI]
theorem rootI_may : rootI.may := by
  unfold Im.may rootI
  rw [if_neg (by decide)]
  refine ⟨by decide, by decide, by decide, fun _ => rfl, ?_, by decide⟩
  intro j b hj
  match j with
  | 0 | 1 | 2 | 3 | 4 => exact .inl (Option.some.inj hj).symm
  | j + 5 => simp [Im.bl] at hj
def bits2 : List UInt8 := Bits.fillL (List.replicate 64 0) 0 true 2
def bits1 : List UInt8 := Bits.setL (List.replicate 64 0) 0 true
def startT (G : Gm) (q : Nat) : List UInt8 := if q = 0 then superL G else if q = 2 then bits2 else if q = 3 then bits1 else if q = 4 then rootI.putL else []
def startF (G : Gm) : Nat → Option Value := updQ (updQ (updQ (updQ (fun _ => none) 0 (some (.agg #[str (superL G)]))) 2 (some (.agg #[str bits2]))) 3 (some (.agg #[str bits1]))) 4 (some (.agg #[str rootI.putL]))
theorem startF_get (G : Gm) (q : Nat) : (startF G q).getD (.agg #[str []]) = .agg #[str (startT G q)] := by
  unfold startF startT updQ
  by_cases h4 : q = 4
  · subst h4; rfl
  · by_cases h3 : q = 3
    · subst h3; rfl
    · by_cases h2 : q = 2
      · subst h2; rfl
      · by_cases h0 : q = 0
        · subst h0; rfl
        · simp [h4, h3, h2, h0]
abbrev MapS (W : World) (m : Nat) (f : Nat → Option Value) : Prop := QMap Tryz.prog 3 .i64 W m 6 f
theorem fits_six : FitsQ .i64 6 := fun i h => WalkArith.wf_i64 (by omega)
theorem mapS_store {W : World} {m : Nat} {f : Nat → Option Value} (h : MapS W m f) {i : Nat} (hi : i < 6) (v : Value) :
    ∃ W', (Instr.mapUpdate 144 (.map (some m)) (.int .i64 (i : Int)) v).run Tryz.prog W = .ok () W' ∧ MapS W' m (updQ f i (some v)) ∧ W.grownBy W' (some m) :=
  QMap.store h Tryz.underlying3 Tryz.underlying144 (by omega) fits_six hi v
theorem mapS_look {W : World} {m : Nat} {f : Nat → Option Value} (h : MapS W m f) {i : Nat} (hi : i < 6) :
    (Instr.lookup 144 (.map (some m)) (.int .i64 (i : Int)) false).run Tryz.prog W = .ok ((f i).getD (.agg #[str []])) W :=
  QMap.look h Tryz.underlying3 Tryz.underlying144 (by kernel_rfl) fits_six hi
set_option maxHeartbeats 2000000 in
theorem starts_any (G : Gm) (hG : G.ok) (w : World) :
    Calls Tryz.prog 75 #[gv G] w fun e w' => ∃ m, e = .returned (.map (some m)) ∧ MapS w' m (startF G) ∧ w.heap.size ≤ m ∧ Below w.heap.size w w' := by
  have HS := Lib.hid fun V => super_ok G V hG
  have hP := fun V => put_ok rootI rootI_fits rootI_may V
  have hmm := @run_makeMap Tryz.prog
  obtain ⟨Z, hZ⟩ : ∃ Z : List UInt8, Z = List.replicate 64 0 := ⟨_, rfl⟩
  have hm := fun V => Bits.make_ok 512 V (by omega)
  have hf := fun V => Bits.fill_ok Z 0 2 true V (by rw [hZ]; simp) (by rw [hZ]; simp)
  have hs := fun V => Bits.set_ok Z 0 true V (by rw [hZ]; simp) (by rw [hZ]; simp)
  have e1 : List.replicate ((512 + 7) / 8) (0 : UInt8) = Z := hZ.symm
  have e2 : Bits.fillL Z 0 true 2 = bits2 := by rw [hZ]; rfl
  have e3 : Bits.setL Z 0 true = bits1 := by rw [hZ]; rfl
  obtain ⟨B2, hB2⟩ : ∃ B2, B2 = bits2 := ⟨_, rfl⟩
  obtain ⟨B1, hB1⟩ : ∃ B1, B1 = bits1 := ⟨_, rfl⟩
  obtain ⟨B4, hB4⟩ : ∃ B4, B4 = rootI.putL := ⟨_, rfl⟩
  rw [e1] at hm
  rw [e2, ← hB2] at hf
  rw [e3, ← hB1] at hs
  have HM := Lib.hid hm
  have HF := Lib.hid hf
  have HB := Lib.hid hs
  have hsf : startF G = updQ (updQ (updQ (updQ (fun _ => none) 0 (some (.agg #[str (superL G)]))) 2 (some (.agg #[str B2]))) 3 (some (.agg #[str B1]))) 4 (some (.agg #[str B4])) := by rw [hB2, hB1, hB4]; rfl
  have HSF := Lib.hid hsf
  rw [← hB4] at hP
  have HP := Lib.hid hP
  clear hm hf hs e1 e2 e3 hZ hsf hB2 hB1 hB4 hP
  have hb0 : Below w.heap.size w (w.alloc (.cells #[.int .i64 (G.i : Int), .int .i64 (G.b : Int), .int .i64 (G.j : Int)] 23)) := (Below.refl _ _).alloc (Nat.le_refl _) _
  have H0 := Lib.hid hb0
  clear hb0
  go_enter Tryz.func75, Tryz.ntmps75
  go_wp2_with fail
  refine (HS.out _).mono ?_
  rintro e w1 ⟨rfl, hb⟩
  have H1 := Lib.hid (H0.out.trans (hb.mono H0.out.size))
  clear hb
  go_wp2_with fail
  refine (HP.out _).mono ?_
  rintro e w2 ⟨rfl, hb⟩
  have H2 := Lib.hid (H1.out.trans (hb.mono H1.out.size))
  clear hb
  go_wp2_with fail
  refine (HM.out _).mono ?_
  rintro e w3 ⟨rfl, hb⟩
  have H3 := Lib.hid (H2.out.trans (hb.mono H2.out.size))
  clear hb
  go_wp2_with fail
  refine (HF.out _).mono ?_
  rintro e w4 ⟨rfl, hb⟩
  have H4 := Lib.hid (H3.out.trans (hb.mono H3.out.size))
  clear hb
  go_wp2_with fail
  refine (HB.out _).mono ?_
  rintro e w5 ⟨rfl, hb⟩
  have H5 := Lib.hid (H4.out.trans (hb.mono H4.out.size))
  clear hb
  have m0 := QMap.made w5 Tryz.prog 3 .i64 6
  obtain ⟨w6, r6, m6, g6⟩ := mapS_store m0 (i := 0) (by omega) (.agg #[str (superL G)])
  obtain ⟨w7, r7, m7, g7⟩ := mapS_store m6 (i := 2) (by omega) (.agg #[str B2])
  obtain ⟨w8, r8, m8, g8⟩ := mapS_store m7 (i := 3) (by omega) (.agg #[str B1])
  obtain ⟨w9, r9, m9, g9⟩ := mapS_store m8 (i := 4) (by omega) (.agg #[str B4])
  have b6 := ((Below.refl w5.heap.size w5).alloc (Nat.le_refl _) (.map #[] 0)).grown g6 (by simp) (by intro j hj; cases hj; omega)
  have b7 := b6.grown g7 b6.size (by intro j hj; cases hj; omega)
  have b8 := b7.grown g8 b7.size (by intro j hj; cases hj; omega)
  have b9 := b8.grown g9 b8.size (by intro j hj; cases hj; omega)
  have M9 := Lib.hid (⟨by rw [HSF.out]; exact m9, b9⟩ : MapS w9 w5.heap.size (startF G) ∧ Below w5.heap.size w5 w9)
  have r6 : (Instr.mapUpdate 144 (.map (some w5.heap.size)) (.int .i64 0) (.agg #[str (superL G)])).run Tryz.prog (w5.alloc (.map #[] 0)) = .ok () w6 := r6
  have r7 : (Instr.mapUpdate 144 (.map (some w5.heap.size)) (.int .i64 2) (.agg #[str B2])).run Tryz.prog w6 = .ok () w7 := r7
  have r8 : (Instr.mapUpdate 144 (.map (some w5.heap.size)) (.int .i64 3) (.agg #[str B1])).run Tryz.prog w7 = .ok () w8 := r8
  have r9 : (Instr.mapUpdate 144 (.map (some w5.heap.size)) (.int .i64 4) (.agg #[str B4])).run Tryz.prog w8 = .ok () w9 := r9
  clear m0 m6 m7 m8 m9 g6 g7 g8 g9 b6 b7 b8 b9
  go_wp2_with fail
  go_ret
  exact ⟨w5.heap.size, rfl, M9.out.1, H5.out.size, H5.out.trans (M9.out.2.mono H5.out.size)⟩
set_option maxHeartbeats 1000000 in
theorem new11_any (tb : Nat) (G : Gm) (hG : G.ok) (w : World) :
    Calls Tryz.prog 23 #[devp tb, gv G] w fun e w' => ∃ mb, e = .returned (.tuple #[devp mb, .int .i64 0]) ∧ ImgAt w' mb tb G ∧ w.heap.size ≤ mb ∧ Below w.heap.size w w' := by
  have HM := Lib.hid fun W => may_ok _ _ _ W (gm_mayI hG)
  have hb0 : Below w.heap.size w (w.alloc (.cells #[.int .i64 (G.i : Int), .int .i64 (G.b : Int), .int .i64 (G.j : Int)] 23)) := (Below.refl _ _).alloc (Nat.le_refl _) _
  have hg0 : GeoAt (w.alloc (.cells #[.int .i64 (G.i : Int), .int .i64 (G.b : Int), .int .i64 (G.j : Int)] 23)) w.heap.size G.i G.b G.j := heap_alloc_new w _
  have g0 := cell_of_row _ w.heap.size 0 _ _ _ hg0
  have g1 := cell_of_row _ w.heap.size 1 _ _ _ hg0
  have g2 := cell_of_row _ w.heap.size 2 _ _ _ hg0
  have HG := Lib.hid hg0
  have HB := Lib.hid hb0
  clear hb0 hg0
  go_enter Tryz.func23, Tryz.ntmps23
  go_wp2_with fail
  refine (HM.out _).mono ?_
  rintro e w1 ⟨rfl, hb⟩
  have hg1 := HG.out.below hb
  have HB1 := Lib.hid (HB.out.trans (hb.mono HB.out.size))
  clear hb g0 g1 g2
  have g0 := cell_of_row _ w.heap.size 0 _ _ _ hg1
  have g1 := cell_of_row _ w.heap.size 1 _ _ _ hg1
  have g2 := cell_of_row _ w.heap.size 2 _ _ _ hg1
  clear hg1
  go_wp2_with fail
  go_ret2
  exact ⟨w1.heap.size, rfl, heap_alloc_new _ _, HB1.out.size, HB1.out.trans ((Below.refl _ _).alloc HB1.out.size _)⟩
end Go.Proofs.YtnfiapjdkjbdhaaGreat
/- Layer 11 (image): a disk is formatted. -/
namespace Go.Proofs.YtnfiapjdkjbdhaaGreat
open Go.RowKit Go.Maps Go.Lib
set_option linter.unusedVariables false
set_option linter.unusedSimpArgs false
set_option maxRecDepth 10000
/-! A device, beside other things. -/
section
variable {w W : World} {rs : List Res}
theorem sys_devWrite (h : Sys w W rs) {i b : Nat} {M : Dv} (hi : rs[i]? = some (devR b M)) (hw : M.wr < 1099511627776) (hd : M.down = false) (k : Nat) (hk : k < M.n) (s : List UInt8) (hs : s.length = 64) :
    Calls Tryz.prog 77 #[devp b, .int .i64 (k : Int), str s] W fun e w' => e = .returned (.int .i64 0) ∧ Sys w w' (rs.set i (devR b (M.write k s))) := by
  obtain ⟨K, hH, -, -, hset, -⟩ := h.dev hi
  have hc : M.canWrite (k : Int) s = true := by unfold Dv.canWrite; rw [hd, decide_eq_true (by omega), decide_eq_true (by omega), hs]; rfl
  have h1 := held_write hH hw (k : Int) s
  have e1 : M.wroteE (k : Int) s = 0 := by unfold Dv.wroteE; rw [hd, hc]; rfl
  have e2 : M.wrote (k : Int) s = M.write k s := by unfold Dv.wrote; rw [if_pos hc, Int.toNat_natCast]
  rw [e1, e2] at h1
  exact h1.mono fun e w' hx => ⟨hx.1, hset w' _ hx.2⟩
theorem sys_devFlush (h : Sys w W rs) {i b : Nat} {M : Dv} (hi : rs[i]? = some (devR b M)) (hd : M.down = false) (hw : M.wr ≤ 1099511627776) :
    Calls Tryz.prog 78 #[devp b] W fun e w' => e = .returned (.int .i64 0) ∧ Sys w w' (rs.set i (devR b M.flush)) := by
  obtain ⟨K, hH, -, -, hset, -⟩ := h.dev hi
  exact (held_flush hH hd hw).mono fun e w' hx => ⟨hx.1, hset w' _ hx.2⟩
theorem sys_devLen (h : Sys w W rs) {i b N : Nat} {M : Dv} (hi : rs[i]? = some (devR b M)) (hn : M.n = N) : Calls Tryz.prog 74 #[devp b] W fun e w' => e = .returned (.int .i64 (N : Int)) ∧ W = w' := by
  subst hn
  obtain ⟨S, ⟨g, c, m, vals, hI⟩, -⟩ := h.use hi
  exact len_any b g _ _ W hI.head.c2
end
def geoR11 (p : Nat) (G : Gm) : Res := memR (fun k => k = p) (fun W => GeoAt W p G.i G.b G.j) fun W W' h hb => (hb p rfl).trans h
def startR (m : Nat) (G : Gm) : Res := memR (fun k => k = m) (fun W => MapS W m (startF G)) fun W W' h hb => h.kept (hb m rfl)
/-! What a formatted disk has. -/
def fmtS (G : Gm) (k : Nat) : List UInt8 := if k = 0 then superL G else if k = G.off 2 then bits2 else if k = G.off 3 then bits1 else if k = G.off 4 then padL rootI.putL else z64
theorem bits2_len : bits2.length = 64 := by decide
theorem bits1_len : bits1.length = 64 := by decide
theorem startT_len (G : Gm) (q : Nat) : (startT G q).length ≤ 64 := by
  unfold startT
  split
  · rw [superL_length]; omega
  · split
    · rw [bits2_len]; omega
    · split
      · rw [bits1_len]; omega
      · split
        · rw [putL_length]; omega
        · simp
theorem fmtS_len (G : Gm) (k : Nat) : (fmtS G k).length = 64 := by
  unfold fmtS
  split
  · exact superL_length G
  · split
    · exact bits2_len
    · split
      · exact bits1_len
      · split
        · exact padL_length (by rw [putL_length]; omega)
        · rfl
theorem fmt_at {G : Gm} (hG : G.ok) {q k : Nat} (hq : q < 6) (h1 : G.off q ≤ k) (h2 : k < G.off (q + 1)) : padL (if k - G.off q = 0 then startT G q else []) = fmtS G k := by
  have p0 := G.cnt_pos hG 0 (by omega)
  have p1 := G.cnt_pos hG 1 (by omega)
  have p2 := G.cnt_pos hG 2 (by omega)
  have p3 := G.cnt_pos hG 3 (by omega)
  have p4 := G.cnt_pos hG 4 (by omega)
  have o1 := G.off_succ 0
  have o2 := G.off_succ 1
  have o3 := G.off_succ 2
  have o4 := G.off_succ 3
  have o5 := G.off_succ 4
  have o6 := G.off_succ 5
  have o0 : G.off 0 = 0 := rfl
  simp only [Nat.zero_add, Nat.reduceAdd] at o1 o2 o3 o4 o5 o6
  unfold fmtS
  by_cases he : k = G.off q
  · rw [if_pos (by omega)]
    match q, hq with
    | 0, _ => rw [if_pos (by omega)]; exact padL_full (superL_length G)
    | 1, _ => rw [if_neg (by omega), if_neg (by omega), if_neg (by omega), if_neg (by omega)]; rfl
    | 2, _ => rw [if_neg (by omega), if_pos he]; exact padL_full bits2_len
    | 3, _ => rw [if_neg (by omega), if_neg (by omega), if_pos he]; exact padL_full bits1_len
    | 4, _ => rw [if_neg (by omega), if_neg (by omega), if_neg (by omega), if_pos he]; rfl
    | 5, _ => rw [if_neg (by omega), if_neg (by omega), if_neg (by omega), if_neg (by omega)]; rfl
  · rw [if_neg (by omega)]
    have h3 : G.off (q + 1) = G.off q + G.cnt q := G.off_succ q
    have n0 : k ≠ 0 := by
      match q, hq with
      | 0, _ | 1, _ | 2, _ | 3, _ | 4, _ | 5, _ => simp only [Nat.zero_add, Nat.reduceAdd] at h1 h2 h3; omega
    have n2 : k ≠ G.off 2 := by
      match q, hq with
      | 0, _ | 1, _ | 2, _ | 3, _ | 4, _ | 5, _ => simp only [Nat.zero_add, Nat.reduceAdd] at h1 h2 h3; omega
    have n3 : k ≠ G.off 3 := by
      match q, hq with
      | 0, _ | 1, _ | 2, _ | 3, _ | 4, _ | 5, _ => simp only [Nat.zero_add, Nat.reduceAdd] at h1 h2 h3; omega
    have n4 : k ≠ G.off 4 := by
      match q, hq with
      | 0, _ | 1, _ | 2, _ | 3, _ | 4, _ | 5, _ => simp only [Nat.zero_add, Nat.reduceAdd] at h1 h2 h3; omega
    rw [if_neg n0, if_neg n2, if_neg n3, if_neg n4]
    rfl
theorem Gm.made11 {G : Gm} (h : G.ok) : 8 ≤ G.all ∧ G.all ≤ 4096 ∧ 1 + G.j ≤ G.all ∧ 4 ≤ G.j ∧ G.j ≤ 256 := by
  unfold Gm.ok at h
  unfold Gm.all
  simp only [Gm.off, Gm.cnt]
  omega
def fmtD (G : Gm) : Dv := ⟨G.all, fun i => if i < G.all then fmtS G i else z64, fun _ => [], G.all, 0, false⟩
theorem fmtD_cur (G : Gm) : (fmtD G).cur = fun i => if i < G.all then fmtS G i else z64 := by funext i; rfl
structure Fmt (G : Gm) (k : Nat) (M : Dv) : Prop where
  n : M.n = G.all
  wr : M.wr = k
  left : M.left = 0
  down : M.down = false
  cur : ∀ i, M.cur i = if i < k then fmtS G i else z64
theorem Fmt.new (G : Gm) : Fmt G 0 (dev0 G.all) := ⟨rfl, rfl, rfl, rfl, fun i => rfl⟩
theorem Fmt.step {G : Gm} {k : Nat} {M : Dv} (h : Fmt G k M) : Fmt G (k + 1) (M.write k (fmtS G k)) := by
  refine ⟨h.n, by show M.wr + 1 = _; rw [h.wr], by show M.left - 1 = 0; rw [h.left], by show (M.down || M.left == 1) = false; rw [h.down, h.left]; rfl, fun i => ?_⟩
  rw [cur_write, h.cur i]
  by_cases e : i = k
  · subst e; rw [if_pos rfl, if_pos (by omega)]
  · rw [if_neg e]
    by_cases e2 : i < k
    · rw [if_pos e2, if_pos (by omega)]
    · rw [if_neg e2, if_neg (by omega)]
theorem Fmt.flush {G : Gm} {M : Dv} (h : Fmt G G.all M) : M.flush = fmtD G := by
  obtain ⟨n, dur, row, wr, left, down⟩ := M
  obtain ⟨h1, h2, h3, h4, h5⟩ := h
  simp only at h1 h2 h3 h4
  subst h1 h2 h3 h4
  unfold Dv.flush fmtD
  simp only [Dv.mk.injEq, true_and, and_true]
  funext i
  exact h5 i
set_option maxHeartbeats 4000000 in
theorem format_any {w W : World} {b : Nat} {rs : List Res} (G : Gm) (hG : G.ok) (h : Sys w W (devR b (dev0 G.all) :: rs)) :
    Calls Tryz.prog 35 #[devp b, gv G] W fun e w' => e = .returned (.int .i64 0) ∧ Sys w w' (devR b (fmtD G) :: rs) := by
  have h4k : G.all ≤ 4096 := (Gm.made11 hG).2.1
  have hfld : ∀ (s : Value) (w : World), (Instr.field 148 (.agg #[s]) 0).run Tryz.prog w = .ok s w := fun _ _ => rfl
  have HSE := Lib.hid fun V => sectors_ok G V hG
  have HST := Lib.hid fun V => starts_any G hG V
  have HWH := Lib.hid fun (q n : Nat) (V : World) (hq : q < 6) (h1 : G.off q ≤ n) (h2 : n < G.off (q + 1)) => where_ok G q n (n : Int) rfl V hG hq h1 h2
  have hg0 : GeoAt (W.alloc (.cells #[.int .i64 (G.i : Int), .int .i64 (G.b : Int), .int .i64 (G.j : Int)] 23)) W.heap.size G.i G.b G.j := heap_alloc_new W _
  have hb0 : Below W.heap.size W (W.alloc (.cells #[.int .i64 (G.i : Int), .int .i64 (G.b : Int), .int .i64 (G.j : Int)] 23)) := (Below.refl _ _).alloc (Nat.le_refl _) _
  have h1 : Sys w (W.alloc (.cells #[.int .i64 (G.i : Int), .int .i64 (G.b : Int), .int .i64 (G.j : Int)] 23)) (devR b (dev0 G.all) :: geoR11 W.heap.size G :: rs) :=
    Sys.front11 (A := [devR b (dev0 G.all)]) (B := rs) (h.addMem hb0 (p := fun W' => GeoAt W' W.heap.size G.i G.b G.j) (own := fun k => k = W.heap.size) hg0 fun k hk => by rw [hk]; exact ⟨Nat.le_refl _, by simp⟩)
  generalize hW : (W.alloc (.cells #[.int .i64 (G.i : Int), .int .i64 (G.b : Int), .int .i64 (G.j : Int)] 23)) = W0 at *
  have HW := Lib.hid hW
  have H1 := Lib.hid h1
  have HL := Lib.hid fun V (hV : Sys w V (devR b (dev0 G.all) :: geoR11 W.heap.size G :: rs)) => sys_devLen hV (i := 0) (N := G.all) rfl rfl
  obtain ⟨g0, g1, g2⟩ : W0.cell? ⟨W.heap.size, 0, none⟩ = some (.int .i64 (G.i : Int)) ∧ W0.cell? ⟨W.heap.size, 1, none⟩ = some (.int .i64 (G.b : Int)) ∧ W0.cell? ⟨W.heap.size, 2, none⟩ = some (.int .i64 (G.j : Int)) := ⟨cell_of_row _ _ 0 _ _ _ hg0, cell_of_row _ _ 1 _ _ _ hg0, cell_of_row _ _ 2 _ _ _ hg0⟩
  clear h hg0 hb0 h1 hW
  go_enter Tryz.func35, Tryz.ntmps35
  go_wp2_with fail
  rw [HW.out]
  clear HW
  go_region_held3 (fun W' => W'.cell? ⟨W.heap.size, 0, none⟩ = some (.int .i64 (G.i : Int)) ∧ W'.cell? ⟨W.heap.size, 1, none⟩ = some (.int .i64 (G.b : Int)) ∧ W'.cell? ⟨W.heap.size, 2, none⟩ = some (.int .i64 (G.j : Int)))
    (first | exact ⟨g0, g1, g2⟩ | go_keep)
    (first | (go_at_call 74; ((with_reducible refine (HL.out _ (by first | with_reducible exact H1.out | with_reducible exact H1.out.below (Below.refl _ _).drew | with_reducible exact H2.out)).mono ?_); rintro e w1 ⟨rfl, rfl⟩))
           | (go_at_call 37; ((with_reducible refine (HSE.out _).mono ?_); rintro e w2 ⟨rfl, hb⟩; have H2 := Lib.hid (H1.out.below (below_of_drew hb)); have hg := H2.out.mem (i := 1) (own := fun k => k = W.heap.size) (p := fun W' => GeoAt W' W.heap.size G.i G.b G.j) rfl; have g0 := cell_of_row _ _ 0 _ _ _ hg; have g1 := cell_of_row _ _ 1 _ _ _ hg; have g2 := cell_of_row _ _ 2 _ _ _ hg; clear hb hg)))
  all_goals
    go_wp2_with fail
    refine (HST.out _).mono ?_
    rintro e w3 ⟨m, rfl, hm, hml, hb⟩
    have h3 : Sys w w3 (devR b (dev0 G.all) :: geoR11 W.heap.size G :: startR m G :: rs) := Sys.front11 (A := [devR b (dev0 G.all), geoR11 W.heap.size G]) (B := rs) (H2.out.addMem hb (p := fun W => MapS W m (startF G)) (own := fun k => k = m) hm fun k hk => by rw [hk]; exact ⟨hml, hm.lt⟩)
    have H3 := Lib.hid h3
    clear hb hm hml g0 g1 g2 h3
    have HL3 := Lib.hid (sys_devLen H3.out (i := 0) (b := b) (N := G.all) (M := dev0 G.all) rfl rfl)
    go_wp2_with fail
    refine HL3.out.mono ?_
    rintro e w4 ⟨rfl, rfl⟩
    go_wp2_with fail
    go_loopw [23] (fun i wr => ∃ (k : Nat) (Mk : Dv), k ≤ G.all ∧ i = .int .i64 k ∧ Fmt G k Mk ∧ Sys w wr (devR b Mk :: geoR11 W.heap.size G :: startR m G :: rs)) (fun i _ => G.all - (Go.RowKit.intOf i).toNat)
    case atStart => exact ⟨0, dev0 G.all, Nat.zero_le _, rfl, Fmt.new G, H3.out⟩
    case round =>
      obtain ⟨k, Mk, hk, rfl, hf, hs⟩ := hrel
      have HF := Lib.hid hf
      have HR := Lib.hid hs
      clear hf hs
      have hg := HR.out.mem (i := 1) (own := fun k => k = W.heap.size) (p := fun W' => GeoAt W' W.heap.size G.i G.b G.j) rfl
      obtain ⟨g0, g1, g2⟩ : wr.cell? ⟨W.heap.size, 0, none⟩ = some (.int .i64 (G.i : Int)) ∧ wr.cell? ⟨W.heap.size, 1, none⟩ = some (.int .i64 (G.b : Int)) ∧ wr.cell? ⟨W.heap.size, 2, none⟩ = some (.int .i64 (G.j : Int)) := ⟨cell_of_row _ _ 0 _ _ _ hg, cell_of_row _ _ 1 _ _ _ hg, cell_of_row _ _ 2 _ _ _ hg⟩
      clear hg
      by_cases hlt : k < G.all
      · obtain ⟨q, hq, hq1, hq2⟩ := G.part_at 6 hlt
        have HWQ := Lib.hid (HWH.out q k wr hq hq1 hq2)
        have hfa := fmt_at hG hq hq1 hq2
        obtain ⟨d, hd⟩ : ∃ d, d = k - G.off q := ⟨_, rfl⟩
        rw [← hd] at HWQ hfa
        have HFA := Lib.hid hfa
        clear hfa hd hq1 hq2
        by_cases hd0 : d = 0
        · subst hd0
          have HPD := Lib.hid fun V => padded_any (startT G q) V (startT_len G q)
          have HFT := Lib.hid (show padL (startT G q) = fmtS G k by have := HFA.out; rwa [if_pos rfl] at this)
          go_wp2_with fail
          refine HWQ.out.mono ?_
          rintro e w5 ⟨rfl, hb⟩
          have H5 := Lib.hid (HR.out.below hb)
          have hlk := mapS_look (H5.out.mem (i := 2) (own := fun k => k = m) (p := fun W => MapS W m (startF G)) rfl) hq
          rw [startF_get] at hlk
          clear hb g0 g1 g2
          go_wp2_with fail
          refine (HPD.out _).mono ?_
          rintro e w6 ⟨rfl, hb⟩
          have H6 := Lib.hid (H5.out.below hb)
          rw [HFT.out]
          have hwr := HF.out.wr
          have HW6 := Lib.hid (sys_devWrite H6.out (i := 0) (b := b) (M := Mk) rfl (by rw [hwr]; omega) HF.out.down k (by rw [HF.out.n]; exact hlt) (fmtS G k) (fmtS_len G k))
          clear hb hlk hwr
          go_wp2_with fail
          refine HW6.out.mono ?_
          rintro e w7 ⟨rfl, h7⟩
          have H7 := Lib.hid h7
          clear h7
          go_wp2_with fail
          go_roundw
          case rel => exact ⟨k + 1, Mk.write k (fmtS G k), by omega, by go_num, HF.out.step, H7.out⟩
          case measure => simp [Go.RowKit.intOf]; omega
        · have hdb : ((d : Int) == 0) = false := by simp; omega
          have HFT := Lib.hid (show z64 = fmtS G k by have := HFA.out; rwa [if_neg hd0] at this)
          have HPD := Lib.hid fun V => padded_nil V
          clear hd0
          go_wp2_with fail
          refine HWQ.out.mono ?_
          rintro e w5 ⟨rfl, hb⟩
          have H5 := Lib.hid (HR.out.below hb)
          clear hb g0 g1 g2
          go_wp2_with fail
          refine (HPD.out _).mono ?_
          rintro e w6 ⟨rfl, hb⟩
          have H6 := Lib.hid (H5.out.below hb)
          rw [HFT.out]
          have hwr := HF.out.wr
          have HW6 := Lib.hid (sys_devWrite H6.out (i := 0) (b := b) (M := Mk) rfl (by rw [hwr]; omega) HF.out.down k (by rw [HF.out.n]; exact hlt) (fmtS G k) (fmtS_len G k))
          clear hb hwr
          go_wp2_with fail
          refine HW6.out.mono ?_
          rintro e w7 ⟨rfl, h7⟩
          have H7 := Lib.hid h7
          clear h7
          go_wp2_with fail
          go_roundw
          case rel => exact ⟨k + 1, Mk.write k (fmtS G k), by omega, by go_num, HF.out.step, H7.out⟩
          case measure => simp [Go.RowKit.intOf]; omega
      · have : k = G.all := by omega
        subst this
        have hwr := HF.out.wr
        have HFL := Lib.hid (sys_devFlush HR.out (i := 0) (b := b) (M := Mk) rfl HF.out.down (by rw [hwr]; omega))
        clear hwr g0 g1 g2
        go_wp2_with fail
        refine HFL.out.mono ?_
        rintro e w5 ⟨rfl, h5⟩
        have H5 := Lib.hid h5
        clear h5
        go_wp2_with fail
        go_ret
        refine ⟨rfl, ?_⟩
        have h6 : Sys w w5 (devR b Mk.flush :: geoR11 W.heap.size G :: startR m G :: rs) := H5.out
        rw [HF.out.flush] at h6
        exact Sys.unfront11 (A := [devR b (fmtD G)]) (Sys.unfront11 (A := [devR b (fmtD G)]) h6)
end Go.Proofs.YtnfiapjdkjbdhaaGreat
/- Layer 11 (image): what the statements make: a formatted disk, and an image on it. -/
namespace Go.Proofs.YtnfiapjdkjbdhaaGreat
open Go.RowKit Go.Maps Go.Lib
set_option linter.unusedVariables false
set_option linter.unusedSimpArgs false
set_option maxRecDepth 10000
theorem GeoAt.cells {W : World} {p : Nat} {i b j : Int} (h : GeoAt W p i b j) : W.cell? ⟨p, 0, none⟩ = some (.int .i64 i) ∧ W.cell? ⟨p, 1, none⟩ = some (.int .i64 b) ∧ W.cell? ⟨p, 2, none⟩ = some (.int .i64 j) :=
  ⟨cell_of_row W p 0 _ _ _ h, cell_of_row W p 1 _ _ _ h, cell_of_row W p 2 _ _ _ h⟩
def spanR (p a n : Nat) : Res := memR (fun k => k = p) (fun W => W.heap[p]? = some (.cells #[.int .i64 (a : Int), .int .i64 (n : Int)] 84 (0, 0))) fun W W' h hb => (hb p rfl).trans h
theorem fmt_head (G : Gm) (hG : Sm G) : (hd ((fmtD G).cur 1)).pend = false := by
  have hj := (Gm.made11 hG.ok).2.2
  have h1 : (fmtD G).cur 1 = List.replicate 64 0 := by
    rw [fmtD_cur]
    have h2 : 1 < G.all := by omega
    have o2 := Sm.o2 G
    have o3 := hG.o3
    have o4 := hG.o4
    have h40 := hG.ok.2.2.1
    show (if 1 < G.all then fmtS G 1 else z64) = _
    rw [if_pos h2]
    unfold fmtS
    rw [if_neg (by omega), if_neg (by omega), if_neg (by omega), if_neg (by omega)]
    rfl
  rw [h1, hd_zero]
theorem results_four {fn : Func} {a b c d : Tmp} (h : fn.results = #[.tmp a, .tmp b, .tmp c, .tmp d]) {P : Program} (tmps : Array Value) (w : World) : (results fn tmps).run P w = .ok (.tuple #[tmps.getD a undef, tmps.getD b undef, tmps.getD c undef, tmps.getD d undef]) w := by
  simp [results, h]
set_option maxHeartbeats 4000000 in
theorem disk_any (G : Gm) (hG : Sm G) (w : World) :
    Calls Tryz.prog 10 #[gv G] w fun e w' => ∃ b jb tb mb, e = .returned (.tuple #[devp b, devp jb, devp tb, devp mb]) ∧ ISys w w' b jb tb mb 0 G (fmtD G) [] [] := by
  obtain ⟨h8, h4k, hj1, h4, h256⟩ := Gm.made11 hG.ok
  have HSE := Lib.hid fun V => sectors_ok G V hG.ok
  have hP := fun V => part_ok G 1 1 rfl V hG.ok (by decide)
  have e1 : G.off 1 = 1 := rfl
  have e2 : G.cnt 1 = G.j := rfl
  unfold partV at hP
  rw [e1, e2] at hP
  have HP := Lib.hid hP
  have hg0 : GeoAt (w.alloc (.cells #[.int .i64 (G.i : Int), .int .i64 (G.b : Int), .int .i64 (G.j : Int)] 23)) w.heap.size G.i G.b G.j := heap_alloc_new w _
  have hb0 : Below w.heap.size w (w.alloc (.cells #[.int .i64 (G.i : Int), .int .i64 (G.b : Int), .int .i64 (G.j : Int)] 23)) := (Below.refl _ _).alloc (Nat.le_refl _) _
  have h0 : Sys w (w.alloc (.cells #[.int .i64 (G.i : Int), .int .i64 (G.b : Int), .int .i64 (G.j : Int)] 23)) [geoR11 w.heap.size G] :=
    (Sys.start w).addMem hb0 (p := fun W' => GeoAt W' w.heap.size G.i G.b G.j) (own := fun k => k = w.heap.size) hg0 fun k hk => by rw [hk]; exact ⟨Nat.le_refl _, by simp⟩
  obtain ⟨g0, g1, g2⟩ := hg0.cells
  have H0 := Lib.hid h0
  clear hP e1 e2 hg0 hb0 h0
  go_enter Tryz.func10, Tryz.ntmps10
  go_wp2_with fail
  refine (HSE.out _).mono ?_
  rintro e w1 ⟨rfl, hb⟩
  have H1 := Lib.hid (H0.out.below hb)
  clear hb g0 g1 g2
  go_wp2_with fail
  refine (sys_new H1.out G.all h8 h4k).mono ?_
  rintro e w2 ⟨b, rfl, h2⟩
  have H2 := Lib.hid (Sys.front11 (A := []) (B := [geoR11 w.heap.size G]) h2 : Sys w w2 [devR b (dev0 G.all), geoR11 w.heap.size G])
  obtain ⟨g0, g1, g2⟩ := GeoAt.cells (H2.out.mem (i := 1) (own := fun k => k = w.heap.size) (p := fun W' => GeoAt W' w.heap.size G.i G.b G.j) rfl)
  clear h2
  go_wp2_with fail
  refine (HP.out _).mono ?_
  rintro e w3 ⟨rfl, hb⟩
  have h3 := H2.out.below hb
  have hsp0 : (w3.alloc (.cells #[.int .i64 1, .int .i64 (G.j : Int)] 84)).heap[w3.heap.size]? = some (.cells #[.int .i64 1, .int .i64 (G.j : Int)] 84 (0, 0)) := heap_alloc_new _ _
  have h4s : Sys w (w3.alloc (.cells #[.int .i64 1, .int .i64 (G.j : Int)] 84)) [devR b (dev0 G.all), geoR11 w.heap.size G, spanR w3.heap.size 1 G.j] :=
    h3.addMem ((Below.refl _ _).alloc (Nat.le_refl _) _) (p := fun W' => W'.heap[w3.heap.size]? = some (.cells #[.int .i64 ((1 : Nat) : Int), .int .i64 (G.j : Int)] 84 (0, 0))) (own := fun k => k = w3.heap.size) hsp0 fun k hk => by rw [hk]; exact ⟨Nat.le_refl _, by simp⟩
  have H4 := Lib.hid h4s
  clear hb h3 hsp0 h4s g0 g1 g2
  obtain ⟨g0, g1, g2⟩ := GeoAt.cells (H4.out.mem (i := 1) (own := fun k => k = w.heap.size) (p := fun W' => GeoAt W' w.heap.size G.i G.b G.j) rfl)
  go_wp2_with fail
  refine (format_any G hG.ok H4.out).mono ?_
  rintro e w5 ⟨rfl, h5⟩
  have H5 := Lib.hid h5
  clear h5 g0 g1 g2
  have hsp := H5.out.mem (i := 2) (own := fun k => k = w3.heap.size) (p := fun W' => W'.heap[w3.heap.size]? = some (.cells #[.int .i64 ((1 : Nat) : Int), .int .i64 (G.j : Int)] 84 (0, 0))) rfl
  have s0 := cell_of_row w5 _ 0 _ _ _ hsp
  have s1 := cell_of_row w5 _ 1 _ _ _ hsp
  have ho := sys_open H5.out (i := 0) (b := b) (M := fmtD G) rfl 1 G.j h4 h256 hj1 rfl (by show G.all ≤ 1099511627776; omega) (fmt_head G hG)
  have HO := Lib.hid (show Calls Tryz.prog 39 #[devp b, .int .i64 1, .int .i64 (G.j : Int)] w5 fun e w' => ∃ jb, e = .returned (.tuple #[devp jb, .int .i64 0]) ∧ Sys w w' ([devR b (fmtD G), geoR11 w.heap.size G, spanR w3.heap.size 1 G.j] ++ [jourR jb b 1 G.j 0]) from ho)
  clear hsp ho
  go_wp2_with fail
  refine HO.out.mono ?_
  rintro e w6 ⟨jb, rfl, h6⟩
  have H6 := Lib.hid h6
  clear h6 s0 s1
  go_wp2_with fail
  refine (sys_begin H6.out b jb G.all h4k).mono ?_
  rintro e w7 ⟨tb, rfl, h7⟩
  have H7 := Lib.hid (show Sys w w7 [devR b (fmtD G), geoR11 w.heap.size G, spanR w3.heap.size 1 G.j, jourR jb b 1 G.j 0, txR tb b jb G.all []] from h7)
  clear h7
  obtain ⟨g0, g1, g2⟩ := GeoAt.cells (H7.out.mem (i := 1) (own := fun k => k = w.heap.size) (p := fun W' => GeoAt W' w.heap.size G.i G.b G.j) rfl)
  go_wp2_with fail
  refine (new11_any tb G hG.ok w7).mono ?_
  rintro e w8 ⟨mb, rfl, hi, hml, hb⟩
  have h8' : Sys w w8 [devR b (fmtD G), geoR11 w.heap.size G, spanR w3.heap.size 1 G.j, jourR jb b 1 G.j 0, txR tb b jb G.all [], imgR mb tb G] := H7.out.addMem hb (p := fun W => ImgAt W mb tb G) (own := fun k => k = mb) hi fun k hk => by rw [hk]; exact ⟨hml, (Array.getElem?_eq_some_iff.1 hi).1⟩
  have H8 := Lib.hid h8'
  clear hb hi hml h8' g0 g1 g2
  go_wp2_with fail
  refine bodyPost_ret (results_four (a := 2) (b := 3) (c := 4) (d := 5) rfl _ _) rfl ⟨b, jb, tb, mb, rfl, ⟨⟨?_, rfl, rfl, rfl, by decide, by decide, by decide, rfl, ?_, h4, h256, WrOk.nil _ _⟩, hG, rfl, ours_nil G⟩⟩
  · refine H8.out.ren11 _ (fun j => if j = 0 then 0 else j + 2) (fun a b ha hb e => ?_) (fun j hj => ?_)
    · split at e <;> split at e <;> omega
    · have hj4 : j < 4 := hj
      match j, hj4 with
      | 0, _ | 1, _ | 2, _ | 3, _ => rfl
  · show G.all ≤ 1099511627776; omega
end Go.Proofs.YtnfiapjdkjbdhaaGreat
/- Layer 11 (image): a formatted disk, as mathematics. -/
namespace Go.Proofs.YtnfiapjdkjbdhaaGreat
open Go.RowKit Go.Maps Go.Lib
set_option linter.unusedVariables false
set_option linter.unusedSimpArgs false
set_option maxRecDepth 10000
def fmtTab (j : Nat) : Im := if j = 1 then rootI else Im.nought
theorem zeros_bit (n c : Nat) : Bits.bitL (List.replicate n 0) c = false := by
  unfold Bits.bitL
  rw [List.getD_eq_getElem?_getD, List.getElem?_replicate]
  split <;> simp
theorem bits1_bit (c : Nat) : Bits.bitL bits1 c = decide (c = 0) := by
  unfold bits1
  rw [Bits.setL_bit _ _ _ _ (by simp), zeros_bit]
  by_cases h : c = 0 <;> simp [h]
theorem plain_pg (G : Gm) (v : Nat → List UInt8) {x : Im} (h : x.bl = [0, 0, 0, 0, 0]) : pgV G v x = List.replicate 36 0 ∧ x.i = 0 := by
  unfold Im.bl at h
  simp only [List.cons.injEq, and_true] at h
  obtain ⟨h0, h1, h2, h3, h4⟩ := h
  refine ⟨?_, h4⟩
  unfold pgV Im.dir lsV
  rw [h0, h1, h2, h3, if_pos h4]
  rfl
theorem plain_own (G : Gm) (v : Nat → List UInt8) {x : Im} (h : x.bl = [0, 0, 0, 0, 0]) : ownV G v x = [] := by
  obtain ⟨h1, h2⟩ := plain_pg G v h
  unfold ownV inV
  rw [h1, if_pos h2, List.append_nil]
  rfl
theorem plain_ok (G : Gm) (v : Nat → List UInt8) {x : Im} (h : x.bl = [0, 0, 0, 0, 0]) (hf : x.fits) (hm : x.may) : InoOk G v x := by
  obtain ⟨h1, h2⟩ := plain_pg G v h
  refine ⟨hf, hm, fun c hc => ?_, by omega, fun p _ => ?_⟩
  · rw [h1] at hc
    rw [List.eq_of_mem_replicate hc]; omega
  · rw [h1, List.getD_eq_getElem?_getD, List.getElem?_replicate]
    split <;> rfl
theorem fmtTab_bl (j : Nat) : (fmtTab j).bl = [0, 0, 0, 0, 0] := by unfold fmtTab; split <;> rfl
theorem fmtTab_fits (j : Nat) : (fmtTab j).fits := by unfold fmtTab; split; exact rootI_fits; exact nought_fits
theorem fmtTab_may (j : Nat) : (fmtTab j).may := by unfold fmtTab; split; exact rootI_may; exact nought_may
theorem nought_putL : Im.nought.putL = List.replicate 32 0 := by decide
theorem fmt_disk (G : Gm) (hG : Sm G) : Disk11 G (vw (fmtD G).cur []) bits2 fmtTab := by
  rw [vw_nil, fmtD_cur]
  have hoff := off_lt hG
  have h60 := hG.b
  have o2 := Sm.o2 G
  have o3 := hG.o3
  have o4 := hG.o4
  have o5 := hG.o5
  have o6 := hG.o6
  obtain ⟨v, hve⟩ : ∃ v : Nat → List UInt8, v = fun i => if i < G.all then fmtS G i else z64 := ⟨_, rfl⟩
  rw [← hve]
  have hv : ∀ k, k < G.all → v k = fmtS G k := fun k hk => by rw [hve]; exact if_pos hk
  have f2 : fmtS G (G.off 2) = bits2 := by unfold fmtS; rw [if_neg (by omega), if_pos rfl]
  have f3 : fmtS G (G.off 3) = bits1 := by unfold fmtS; rw [if_neg (by omega), if_neg (by omega), if_pos rfl]
  refine ⟨⟨fun k hk => ?_, fun j hj => plain_ok G _ (fmtTab_bl j) (fmtTab_fits j) (fmtTab_may j), fun j hj => by rw [plain_own G _ (fmtTab_bl j)]; exact List.nodup_nil, fun i j _ _ _ c hc => by rw [plain_own G _ (fmtTab_bl i)] at hc; simp at hc, List.nodup_nil, fun c hc => by simp at hc, fun j _ c hc => by simp at hc, fun c hc => ?_, ?_⟩, fun j hj _ => ?_, ?_⟩
  · rw [hv k hk]; exact fmtS_len G k
  · rw [hv _ (by omega), f3, bits1_bit]
    have := hc.1
    constructor
    · intro e; have := of_decide_eq_true e; omega
    · rintro (e | ⟨j, hj, e⟩)
      · simp at e
      · rw [plain_own G _ (fmtTab_bl j)] at e; simp at e
  · rw [hv _ (by omega), f3, bits1_bit]; rfl
  · have hs := sI_lt hG hj
    unfold inB
    rw [hv _ (by omega)]
    have h1 := hj.1
    have h2 := hj.2
    by_cases e1 : j = 1
    · subst e1
      have : fmtS G (sI G 1) = padL rootI.putL := by unfold fmtS sI; rw [if_neg (by omega), if_neg (by omega), if_neg (by omega), if_pos (by omega)]
      rw [this]
      decide
    · have ht : fmtTab j = Im.nought := if_neg e1
      rw [ht, nought_putL]
      by_cases e2 : j = 2
      · subst e2
        have : fmtS G (sI G 2) = padL rootI.putL := by unfold fmtS sI; rw [if_neg (by omega), if_neg (by omega), if_neg (by omega), if_pos (by omega)]
        rw [this]
        decide
      · have : fmtS G (sI G j) = z64 := by unfold fmtS sI; rw [if_neg (by omega), if_neg (by omega), if_neg (by omega), if_neg (by omega)]
        rw [this]
        unfold z64
        have := pI_cases j
        rw [List.drop_replicate, List.take_replicate]
        congr 1
        omega
  · rw [hv _ (by omega)]; exact f2
theorem Disk11.take {G : Gm} {v : Nat → List UInt8} {im : List UInt8} {tab : Nat → Im} (hG : Sm G) (h : Disk11 G v im tab) (k : Nat) : Disk11 G (upd v (G.off 2) (Bits.setL (v (G.off 2)) k true)) (Bits.setL im k true) tab := by
  have hoff := off_lt hG
  have hl : (Bits.setL (v (G.off 2)) k true).length = 64 := by unfold Bits.setL; rw [List.length_set]; exact h.own.len _ (by omega)
  refine ⟨h.own.write hl (by omega) fun j hj _ => ?_, h.tab.write hG (.inl (by omega)), by rw [upd_same, h.im]⟩
  have := @secB_off G (tab j).i
  omega
theorem Disk11.file {G : Gm} {v : Nat → List UInt8} {im : List UInt8} {tab : Nat → Im} (hG : Sm G) (h : Disk11 G v im tab) {j : Nat} (hj : Rg G j) (h0 : (tab j).bl = [0, 0, 0, 0, 0]) {y : Im} (hy : y.bl = [0, 0, 0, 0, 0]) (hf : y.fits) (hm : y.may) :
    Disk11 G (upd v (sI G j) (over (v (sI G j)) (pI j) y.putL)) im (upd tab j y) :=
  h.put hG hj (h.own.move hj (by rw [plain_own G v h0, plain_own G v hy]) (plain_ok G v hy hf hm) h.own.len rfl fun _ _ _ _ => rfl) (Keep3.refl _ _)
def fileI : Im := ⟨1, 1, 0, 0, 0, 0, 0, 0⟩
theorem fileI_fits : fileI.fits := by simp [Im.fits, fileI]
theorem fileI_may : fileI.may := by
  unfold Im.may fileI
  rw [if_neg (by decide)]
  refine ⟨by decide, by decide, by decide, fun h => absurd h (by decide), ?_, by decide⟩
  intro j b hj
  match j with
  | 0 | 1 | 2 | 3 | 4 => exact .inl (Option.some.inj hj).symm
  | j + 5 => simp [Im.bl] at hj
theorem count_fmt2 (n : Nat) (h1 : 1 ≤ n) (h2 : n ≤ 30) : leftV bits2 n = (n : Int) - 1 := by
  have : ∀ n, n < 31 → 1 ≤ n → Bits.countL bits2 (n + 1) = 2 := by decide
  unfold leftV
  rw [this n (by omega) h1]
  have e : Bits.countL bits2 1 = 1 := by decide
  rw [e]; omega
end Go.Proofs.YtnfiapjdkjbdhaaGreat
