/- Layer 4 (journal): the steps are taken. -/
import Derived.Test.YtdddennhdbmolaaGreatM15
namespace Go.Proofs.YtdddennhdbmolaaGreat
open Go.RowKit Go.Maps
set_option linter.unusedVariables false
set_option linter.unusedSimpArgs false
set_option maxRecDepth 10000
theorem Held.back {K K' : Nat → Prop} {w w1 W : World} {b : Nat} {M : Dv} (h : Held K' w1 W b M) (hk : Keeps K w w1) (hK : ∀ k, K k → K' k) : Held K w W b M :=
  ⟨hk.trans h.1 hK, h.2.elim fun S hS => ⟨S, hS.1, fun k hk' hK2 => hS.2 k hk' (hK k hK2)⟩⟩
theorem puts_take_down (M : Dv) (l : PutL) (q : Nat) (h : (M.puts (l.take q)).down = true) : M.puts l = M.puts (l.take q) := by
  have : M.puts l = (M.puts (l.take q)).puts (l.drop q) := by unfold Dv.puts; rw [← List.foldl_append, List.take_append_drop]
  rw [this, puts_down _ h]
theorem runD_take_down (M : Dv) (ls : List PutL) (q : Nat) (h : (M.runD (ls.take q)).down = true) : M.runD ls = M.runD (ls.take q) := by
  have : M.runD ls = (M.runD (ls.take q)).runD (ls.drop q) := by unfold Dv.runD; rw [← List.foldl_append, List.take_append_drop]
  rw [this, runD_down _ h]
theorem runD_take_succ (M : Dv) (ls : List PutL) (q : Nat) (h : q < ls.length) : M.runD (ls.take (q + 1)) = (M.runD (ls.take q)).step ls[q] := by
  rw [List.take_succ_eq_append_getElem h, runD_snoc]
theorem puts_take_succ (M : Dv) (l : PutL) (q : Nat) (h : q < l.length) : M.puts (l.take (q + 1)) = (M.puts (l.take q)).wrote (l[q].1 : Int) l[q].2 := by
  rw [List.take_succ_eq_append_getElem h, puts_snoc]
theorem flat_len_take (ls : List PutL) (k : Nat) (h : k < ls.length) : (ls.take k).flatten.length + ls[k].length ≤ ls.flatten.length := by
  have h1 : ls.flatten = (ls.take (k + 1)).flatten ++ (ls.drop (k + 1)).flatten := by rw [← List.flatten_append, List.take_append_drop]
  rw [h1, List.take_succ_eq_append_getElem h, List.flatten_append, List.length_append, List.length_append]
  simp
/-- What a step's function does: it tells what is to be written, and turns nothing. -/
def StepOk (K : Nat → Prop) (w : World) (jb : Nat) (t : Value) (f : Nat) (l : PutL) : Prop :=
  (∀ args W, (callFunc f args).run Tryz.prog W = .ok (.enter f args) W) ∧
  ∀ W, Keeps K w W → Calls Tryz.prog f #[devp jb, t] W fun e w' => ∃ v, e = .returned v ∧ Puts w' v (castL l) ∧ (∀ k, v.ownBlock = some k → K k ∨ (W.heap.size ≤ k ∧ k < w'.heap.size)) ∧ Below W.heap.size W w'
theorem cells_two {W : World} {g : Nat} {a b : Value} {t : TypeId} (h : W.heap[g]? = some (.cells #[a, b] t (0, 0))) : W.cell? ⟨g, 0, none⟩ = some a ∧ W.cell? ⟨g, 1, none⟩ = some b := by
  refine ⟨?_, ?_⟩ <;> (unfold World.cell?; rw [h]; rfl)
set_option maxHeartbeats 4000000 in
theorem run_any {K : Nat → Prop} {w : World} {b : Nat} {M : Dv} (jb F n rec g : Nat) (pv : Value) (sv : Value) (fs : List Nat) (ls : List PutL) (h : Held K w w b M) (hj : JAt w jb b F n rec) (hKj : K jb)
    (hsv : Row w sv (fs.map fun f => meth f jb)) (hKs : ∀ k, sv.ownBlock = some k → K k) (hlen : fs.length = ls.length) (hne : ls ≠ [])
    (hst : ∀ i (h1 : i < fs.length) (h2 : i < ls.length), StepOk K w jb (txV g pv) fs[i] ls[i])
    (hok : ∀ l ∈ ls, PutsOk M.n l) (hwr : M.wr + ls.flatten.length ≤ 1099511627776) (hsmall : ∀ l ∈ ls, l.length ≤ 1048576) (hfs : fs.length ≤ 1000) :
    Calls Tryz.prog 56 #[devp jb, txV g pv, sv] w fun e w' => e = .returned (.int .i64 (if (M.runD ls).down then 30 else 0)) ∧ Held K w w' b (M.runD ls) := by
  obtain ⟨A, c, rfl, hc⟩ := hsv
  rw [List.length_map, hlen]
  rw [hlen] at hfs
  have HL := Lib.hid hlen
  clear hlen
  -- the box
  obtain ⟨V, hV⟩ : ∃ V, V = w.alloc (.cells #[.int .u64 (g : Int), pv] 129) := ⟨_, rfl⟩
  have hVb : Below w.heap.size w V := by rw [hV]; exact (Below.refl _ _).alloc (Nat.le_refl _) _
  have hVs : V.heap.size = w.heap.size + 1 := by rw [hV]; simp
  have hnew : V.heap[w.heap.size]? = some (.cells #[.int .u64 (g : Int), pv] 129 (0, 0)) := by rw [hV]; exact heap_alloc_new w _
  obtain ⟨K', hK'⟩ : ∃ K' : Nat → Prop, K' = fun k => K k ∨ k = w.heap.size := ⟨_, rfl⟩
  have hV1 : Held K' V V b M := h.more hVb fun k hk => by
    rw [hK'] at hk
    rcases hk with hk | hk
    · exact .inl hk
    · exact .inr (by omega)
  have hKV : Keeps K w V := h.keeps.below hVb
  have hKK : ∀ k, K k → K' k := fun k hk => by rw [hK']; exact .inl hk
  have hKb : K' w.heap.size := by rw [hK']; exact .inr rfl
  have hKlt : ∀ k, K k → k < w.heap.size := h.keeps.lt
  clear hK' h
  have HH := Lib.hid hV1
  have HC := Lib.hid hc
  have HST := Lib.hid hst
  have HOK := Lib.hid hok
  have HSM := Lib.hid hsmall
  have HJ := Lib.hid hj
  clear hV1 hc hst hok hj hsmall
  go_enter Tryz.func56, Tryz.ntmps56
  go_wp2_with fail
  rw [← hV]
  clear hV
  go_step3
  go_wp2_with fail
  go_step3
  go_wp2_with fail
  go_loopw [7, 14] (fun e i wr => ∃ k : Nat, k ≤ ls.length ∧ i = .int .i64 k ∧ e = .int .i64 0 ∧ Held K' V wr b (M.runD (ls.take k)) ∧ (0 < k → (M.runD (ls.take k)).down = false)) (fun _ i _ => ls.length - (intOf i).toNat)
  case atStart => exact ⟨0, Nat.zero_le _, rfl, rfl, HH.out, fun h => absurd h (by omega)⟩
  case round =>
    obtain ⟨k, hk, rfl, rfl, hN, hdn⟩ := hrel
    have HN := Lib.hid hN
    have HD := Lib.hid hdn
    clear hN hdn
    by_cases hlt : k < ls.length
    · have hlt2 : k < fs.length := by rw [HL.out]; exact hlt
      obtain ⟨sb, rfl, hcell⟩ := HC.out k (meth fs[k] jb) (by rw [List.getElem?_map, List.getElem?_eq_getElem hlt2]; rfl)
      obtain ⟨heg, hcall0⟩ := HST.out k hlt2 hlt
      have hKsb : K sb := hKs sb rfl
      have hsc : wr.cell? ⟨sb, k, none⟩ = some (meth fs[k] jb) := (cell_same k ((HN.out.keeps.same sb (hKK sb hKsb)).trans (hVb.block sb (hKlt sb hKsb)))).trans hcell
      have hbox := cells_two ((HN.out.keeps.same _ hKb).trans hnew)
      obtain ⟨x0, x1⟩ := hbox
      have hKw : Keeps K w wr := hKV.trans HN.out.keeps hKK
      have hcall := Lib.hid (hcall0 wr hKw)
      clear hcall0
      have hsucc := runD_take_succ M ls k hlt
      have hokk := HOK.out ls[k] (List.getElem_mem _)
      have hsmk := HSM.out ls[k] (List.getElem_mem _)
      have hfl := flat_len_take ls k hlt
      have hwrk := runD_wr M (ls.take k)
      have hnk := runD_n M (ls.take k)
      have htd := runD_take_down M ls (k + 1)
      rw [hsucc] at htd
      have HT := Lib.hid htd
      have HS := Lib.hid hsucc
      clear hsucc htd hcell
      generalize hP : M.runD (ls.take k) = P at *
      clear hP
      generalize ls[k] = l at *
      generalize fs[k] = f at *
      have hI : (k : Int) < (ls.length : Int) := by omega
      go_wp2_with fail
      refine hcall.out.mono ?_
      clear hcall
      rintro e w1 ⟨v, rfl, hpv, hkv, hb1⟩
      obtain ⟨K2, hK2⟩ : ∃ K2 : Nat → Prop, K2 = fun k => K' k ∨ v.ownBlock = some k := ⟨_, rfl⟩
      have hW1 : Held K2 w1 w1 b P := HN.out.more hb1 fun k hk => by
        rw [hK2] at hk
        rcases hk with hk | hk
        · exact .inl hk
        · rcases hkv k hk with e | e
          · exact .inl (hKK k e)
          · exact .inr e
      have hK2K : ∀ k, K' k → K2 k := fun k hk => by rw [hK2]; exact .inl hk
      have hKv : ∀ k, v.ownBlock = some k → K2 k := fun k hk => by rw [hK2]; exact .inr hk
      have hVw1 : Keeps K' V w1 := HN.out.keeps.below hb1
      clear hK2 hkv
      have HW := Lib.hid hW1
      have hj1 : JAt w1 jb b F n rec := HJ.out.kept ((hVw1.same jb (hKK jb hKj)).trans (hVb.block jb (hKlt jb hKj)))
      have HJ1 := Lib.hid hj1
      obtain ⟨A2, c2, rfl, hpc⟩ := hpv
      have HPC := Lib.hid hpc
      clear hpc hj1 hW1 x0 x1 hsc heg
      rw [castL_length]
      go_wp2_with fail
      go_loopw [7, 22] (fun e i wr => ∃ q : Nat, q ≤ l.length ∧ i = .int .i64 q ∧ e = .int .i64 0 ∧ Held K2 w1 wr b (P.puts (l.take q))) (fun _ i _ => l.length - (intOf i).toNat)
      case atStart => exact ⟨0, Nat.zero_le _, rfl, rfl, HW.out⟩
      case round =>
        obtain ⟨q, hq, rfl, rfl, hQ⟩ := hrel
        have HQ := Lib.hid hQ
        clear hQ
        by_cases hlq : q < l.length
        · obtain ⟨a, rfl, h1, h2⟩ := HPC.out q _ (castL_at l q hlq)
          have hpw := puts_take_succ P l q hlq
          have hpd := puts_take_down P l q
          have hpo := hokk l[q] (List.getElem_mem _)
          have hpn := puts_n P (l.take q)
          have hpr := puts_wr P (l.take q)
          rw [List.length_take, Nat.min_eq_left hq] at hpr
          have hka : K2 a.block := hKv _ rfl
          have hsame := HQ.out.keeps.same a.block hka
          unfold behind at h2
          have hd1 : wr.cell? (a.add (q * 2)) = some (.int .i64 (l[q].1 : Int)) := (World.cell?_of_block (a := a.add (q * 2)) (by rw [add_block]; exact hsame)).trans h1
          have hd2 : wr.cell? ⟨(a.add (q * 2)).block, (a.add (q * 2)).off + 1, none⟩ = some (str l[q].2) := (World.cell?_of_block (a := ⟨(a.add (q * 2)).block, (a.add (q * 2)).off + 1, none⟩) (by simp only [add_block]; exact hsame)).trans h2
          clear h1 h2 hsame
          have HPW := Lib.hid hpw
          have HPD := Lib.hid hpd
          clear hpw hpd
          generalize hR : P.puts (l.take q) = R at *
          clear hR
          generalize l[q] = x at *
          obtain ⟨s, d⟩ := x
          simp only at hd1 hd2 hpo
          have hI2 : (q : Int) < (l.length : Int) := by omega
          -- the put's own block
          obtain ⟨X, hX⟩ : ∃ X, X = wr.alloc (.cells #[.int .i64 (s : Int), str d] 140) := ⟨_, rfl⟩
          have hXb : Below wr.heap.size wr X := by rw [hX]; exact (Below.refl _ _).alloc (Nat.le_refl _) _
          have hXn : X.heap[wr.heap.size]? = some (.cells #[.int .i64 (s : Int), str d] 140 (0, 0)) := by rw [hX]; exact heap_alloc_new wr _
          have hXs : X.heap.size = wr.heap.size + 1 := by rw [hX]; simp
          obtain ⟨K3, hK3⟩ : ∃ K3 : Nat → Prop, K3 = fun k => K2 k ∨ k = wr.heap.size := ⟨_, rfl⟩
          have HX := Lib.hid (show Held K3 X.drew X.drew b R from HQ.out.more (hXb.trans (Below.refl wr.heap.size X).drew) fun k hk => by
            rw [hK3] at hk
            rcases hk with hk | hk
            · exact .inl hk
            · exact .inr ⟨by omega, by show k < X.heap.size; omega⟩)
          have hK3K : ∀ k, K2 k → K3 k := fun k hk => by rw [hK3]; exact .inl hk
          have hK3p : K3 wr.heap.size := by rw [hK3]; exact .inr rfl
          have hwX : Keeps K2 w1 X.drew := HQ.out.keeps.below (hXb.trans (Below.refl wr.heap.size X).drew)
          clear hK3
          have hdr : X.drew.heap[wr.heap.size]? = some (.cells #[.int .i64 (s : Int), str d] 140 (0, 0)) := hXn
          obtain ⟨p0, p1⟩ := cells_two hdr
          have hjq := HJ1.out.kept (hwX.same jb (hK2K jb (hKK jb hKj)))
          have HJQ := Lib.hid hjq
          have HDR := Lib.hid hdr
          have j0 := hjq.c0
          have hXX : wr.alloc (.cells #[.int .i64 (s : Int), str d] 140) = X := hX.symm
          clear hX hjq hdr hXn
          have hwR : R.wr < 1099511627776 := by omega
          cases hdn : R.down
          · obtain ⟨-, hE⟩ := wrote_up R hdn s (by rw [hpn, hnk]; exact hpo.1) d hpo.2
            have HWR := Lib.hid (held_write HX.out hwR (s : Int) d)
            rw [hE] at HWR
            go_wp2_with fail
            clear hXX
            go_region_held3 (fun W' => W'.cell? ⟨jb, 0, none⟩ = some (devp b) ∧ W'.cell? ⟨wr.heap.size, 0, none⟩ = some (.int .i64 (s : Int)) ∧ W'.cell? ⟨wr.heap.size, 1, none⟩ = some (str d))
              (exact ⟨j0, p0, p1⟩)
              (first | (go_at_call 83; ((with_reducible refine HWR.out.mono ?_); rintro e w4 ⟨rfl, hH⟩; have j0 := (HJQ.out.kept (hH.keeps.same jb (hK3K jb (hK2K jb (hKK jb hKj))))).c0; obtain ⟨p0, p1⟩ := cells_two ((hH.keeps.same _ hK3p).trans HDR.out))))
            have HH2 := Lib.hid (hH.back hwX hK3K)
            clear hH j0 p0 p1 HWR
            go_wp2_with fail
            go_roundw
            case rel => exact ⟨q + 1, by omega, by simp, rfl, by rw [HPW.out]; exact HH2.out⟩
            case measure => simp [intOf]; omega
          · have hE := wroteE_down R hdn (s : Int) d
            have HWR := Lib.hid (held_write HX.out hwR (s : Int) d)
            rw [hE, wrote_down R hdn] at HWR
            have hfin := HPD.out hdn
            have hstep : P.step l = R := by
              unfold Dv.step Dv.fl
              rw [hfin, if_pos hdn]
            have hrun : M.runD ls = R := by rw [HT.out (by rw [hstep]; exact hdn), hstep]
            have HR := Lib.hid hrun
            clear hfin hstep hrun
            go_wp2_with fail
            clear hXX
            go_region_held3 (fun W' => W'.cell? ⟨jb, 0, none⟩ = some (devp b) ∧ W'.cell? ⟨wr.heap.size, 0, none⟩ = some (.int .i64 (s : Int)) ∧ W'.cell? ⟨wr.heap.size, 1, none⟩ = some (str d))
              (exact ⟨j0, p0, p1⟩)
              (first | (go_at_call 83; ((with_reducible refine HWR.out.mono ?_); rintro e w4 ⟨rfl, hH⟩; have j0 := (HJQ.out.kept (hH.keeps.same jb (hK3K jb (hK2K jb (hKK jb hKj))))).c0; obtain ⟨p0, p1⟩ := cells_two ((hH.keeps.same _ hK3p).trans HDR.out))))
            have HH2 := Lib.hid (hH.back hwX hK3K)
            clear hH j0 p0 p1 HWR
            go_wp2_with fail
            rw [Exit.noGoto_ret]
            go_ret
            exact ⟨by rw [HR.out, hdn]; rfl, by rw [HR.out]; exact HH2.out.back (hKV.trans hVw1 hKK) fun k hk => hK2K k (hKK k hk)⟩
        · obtain rfl : q = l.length := by omega
          have hQ := HQ.out
          rw [List.take_length] at hQ
          have HQ2 := Lib.hid hQ
          clear hQ HQ
          have hpr := puts_wr P l
          have j0 := (HJ1.out.kept (HQ2.out.keeps.same jb (hK2K jb (hKK jb hKj)))).c0
          cases hdn : (P.puts l).down
          · have hstep : P.step l = (P.puts l).flush := by
              unfold Dv.step Dv.fl
              rw [if_neg (by rw [hdn]; simp)]
            have hdn2 : (P.step l).down = false := by rw [hstep]; exact hdn
            have HF := Lib.hid (held_flush HQ2.out hdn (by omega))
            rw [← hstep] at HF
            clear hstep
            go_wp2_with fail
            refine HF.out.mono ?_
            rintro e w4 ⟨rfl, hH⟩
            have HH2 := Lib.hid (hH.back hVw1 hK2K)
            clear hH j0 HF
            go_wp2_with fail
            go_roundw
            case rel => exact ⟨k + 1, by omega, by simp, rfl, by rw [HS.out]; exact HH2.out, fun _ => by rw [HS.out]; exact hdn2⟩
            case measure => simp [intOf]; omega
          · have hstep : P.step l = P.puts l := by
              unfold Dv.step Dv.fl
              rw [if_pos hdn]
            have hrun : M.runD ls = P.puts l := by rw [HT.out (by rw [hstep]; exact hdn), hstep]
            have HR := Lib.hid hrun
            have HF := Lib.hid (held_flush_down HQ2.out hdn)
            clear hstep hrun
            go_wp2_with fail
            refine HF.out.mono ?_
            rintro e w4 ⟨rfl, hH⟩
            have HH2 := Lib.hid (hH.back hVw1 hK2K)
            clear hH j0 HF
            go_wp2_with fail
            rw [Exit.noGoto_ret]
            go_ret
            exact ⟨by rw [HR.out, hdn]; rfl, by rw [HR.out]; exact HH2.out.back hKV hKK⟩
    · obtain rfl : k = ls.length := by omega
      have hp : 0 < ls.length := List.length_pos_iff.2 hne
      have hdn := HD.out hp
      have hN := HN.out
      rw [List.take_length] at hdn hN
      have HN2 := Lib.hid hN
      clear hN HN
      have HR := Lib.hid hdn
      go_wp2_with fail
      rw [Exit.noGoto_ret]
      go_ret
      exact ⟨by rw [HR.out]; rfl, HN2.out.back hKV hKK⟩
end Go.Proofs.YtdddennhdbmolaaGreat
/- Layer 4 (journal): the groups of a transaction, one by one. -/
namespace Go.Proofs.YtdddennhdbmolaaGreat
open Go.RowKit Go.Maps Go.Shelf
set_option linter.unusedVariables false
set_option linter.unusedSimpArgs false
set_option maxRecDepth 10000
attribute [local go_sem] Oper.semAt_some
/-- Group j of a row of m. -/
def groupV (g m j : Nat) : Value := .slice (some ⟨g, 32 * j * 2, none⟩) (min 32 (m - 32 * j)) (min 32 (m - 32 * j))
/-- The builtin at texts, closed. -/
def txtAppend (args : Array Value) : Sem Value := Builtin.append_ #[88, 88] 88 args
@[go_sem ↓] theorem txt_append_fold (args : Array Value) : Builtin.append_ #[88, 88] 88 args = txtAppend args := rfl
theorem txtInfo : (Tryz.prog.info? 9).map (fun i => (i.zero, i.size, i.bytes)) = some (some (str []), 1, 16) := by kernel_rfl
/-- A row of texts of the call's own. -/
abbrev OwnT (W : World) (base : Nat) (v : Value) (ss : List (List UInt8)) : Prop := W.ownsRow base 9 1 v ss.length (ss.map str)
/-- append(r, s). -/
theorem append_txt (W : World) (base : Nat) (v : Value) (ss : List (List UInt8)) (s : List UInt8) (h : OwnT W base v ss) (a c : Nat) (hc : W.cell? ⟨a, 0, none⟩ = some (str s)) (hl : ss.length ≤ 1048576) (hb : base ≤ W.heap.size) :
    ∃ v' W', (txtAppend #[v, .slice (some ⟨a, 0, none⟩) 1 c]).run Tryz.prog W = .ok v' W' ∧ OwnT W' base v' (ss ++ [s]) ∧ W.grownBy W' v.ownBlock ∧ (v'.ownBlock = v.ownBlock ∨ v'.ownBlock = some W.heap.size) := by
  obtain ⟨i, hi, hz, hsz, hby⟩ := info_parts txtInfo
  obtain ⟨v', W', hap, hown, hg, _, hor⟩ := run_append_own_at (P := Tryz.prog) (w := W) base 88 88 9 i (str []) 1 16 Tryz.underlying88 hi hz hsz hby rfl (by decide) v ss.length (ss.map str) h
    ⟨a, 0, none⟩ 1 c [str s] rfl (fun j u hu => by
      rw [Addr.add_lit]
      cases j with
      | zero => simp at hu; subst hu; exact hc
      | succ j => simp at hu) (fun u hu => by simp at hu; subst hu; rfl) (by unfold maxLen; omega) (by omega) hb
  refine ⟨v', W', hap, ?_, hg, hor⟩
  show W'.ownsRow base 9 1 v' (ss ++ [s]).length ((ss ++ [s]).map str)
  rw [List.length_append, List.map_append]
  exact hown
/-- append(a, b...). -/
theorem append_txts (W : World) (base : Nat) (v u : Value) (ss ts : List (List UInt8)) (h : OwnT W base v ss) (hu : OwnT W base u ts) (hl : ss.length + ts.length ≤ 1048576) (hb : base ≤ W.heap.size) :
    ∃ v' W', (txtAppend #[v, u]).run Tryz.prog W = .ok v' W' ∧ OwnT W' base v' (ss ++ ts) ∧ W.grownBy W' v.ownBlock := by
  obtain ⟨i, hi, hz, hsz, hby⟩ := info_parts txtInfo
  rcases hu.2 with ⟨rfl, h0⟩ | ⟨g, cap, cur, rfl, _⟩
  · have := List.length_eq_zero_iff.1 h0
    subst this
    refine ⟨v, W, run_append_owned_none W base 88 88 9 i 1 Tryz.underlying88 hi v _ _ h, by rw [List.append_nil]; exact h, ⟨rfl, rfl, rfl, Nat.le_refl _, fun _ _ _ => rfl⟩⟩
  · obtain ⟨v', W', hap, hown, hg, _, _⟩ := run_append_own_at (P := Tryz.prog) (w := W) base 88 88 9 i (str []) 1 16 Tryz.underlying88 hi hz hsz hby rfl (by decide) v ss.length (ss.map str) h
      ⟨g, 0, none⟩ ts.length cap (ts.map str) (by simp) (fun j x hj => hu.cells (g := g) rfl j x hj) (fun x hx => by obtain ⟨s, _, rfl⟩ := List.mem_map.1 hx; rfl) (by unfold maxLen; omega) (by omega) hb
    refine ⟨v', W', hap, ?_, hg⟩
    show W'.ownsRow base 9 1 v' (ss ++ ts).length ((ss ++ ts).map str)
    rw [List.length_append, List.map_append]
    exact hown
theorem owns_keep {W W' : World} {base : Nat} {e : TypeId} {v : Value} {n : Nat} {xs : List Value} (h : W.ownsRow base e 1 v n xs) (hk : ∀ k, v.ownBlock = some k → W'.heap[k]? = W.heap[k]?) : W'.ownsRow base e 1 v n xs := by
  refine ⟨h.1, ?_⟩
  rcases h.2 with h0 | ⟨g, cap, cur, rfl, hb, hg, hr⟩
  · exact .inl h0
  · exact .inr ⟨g, cap, cur, rfl, hb, (hk g rfl).trans hg, hr⟩
/-- While the body is made: numbers and contents, boxed; B: the first box; nothing else that was there turns. -/
structure BodyI (W0 : World) (B : Nat) (ns cs : List (List UInt8)) (V : World) : Prop where
  only : Only (fun k => k = B ∨ k = B + 1) W0 V
  rows : ∃ nv cv, V.heap[B]? = some (.cells #[nv] 88 (0, 0)) ∧ V.heap[B + 1]? = some (.cells #[cv] 88 (0, 0)) ∧ OwnT V (W0.heap.size + 2) nv ns ∧ OwnT V (W0.heap.size + 2) cv cs ∧ (∀ k, nv.ownBlock = some k → cv.ownBlock ≠ some k)
section
variable {W0 V : World} {B : Nat} {ns cs : List (List UInt8)}
theorem own_slice {W : World} {base : Nat} {v : Value} {ss : List (List UInt8)} {s : List UInt8} (h : OwnT W base v (ss ++ [s])) : ∃ g m cap, v = .slice (some ⟨g, 0, none⟩) m cap := by
  rcases h.2 with ⟨_, h0⟩ | ⟨g, cap, cur, hv, _⟩
  · simp at h0
  · exact ⟨g, _, cap, hv⟩
theorem BodyI.same {V' : World} (h : BodyI W0 B ns cs V) (hB : B + 1 < W0.heap.size) (ho : V'.os = V.os) (ht : V'.tape = V.tape) (hu : V'.output = V.output) (hs : V.heap.size ≤ V'.heap.size)
    (hk : ∀ k, k < V.heap.size → k ≠ W0.heap.size → k ≠ W0.heap.size + 1 → V'.heap[k]? = V.heap[k]?) : BodyI W0 B ns cs V' := by
  obtain ⟨hO, nv, cv, h1, h2, h3, h4, h5⟩ := h
  have hsz := hO.size
  refine ⟨⟨ho.trans hO.os, ht.trans hO.tape, hu.trans hO.output, Nat.le_trans hO.size hs, fun k hkl hn => (hk k (by omega) (by omega) (by omega)).trans (hO.block k hkl hn)⟩,
    nv, cv, (hk B (by omega) (by omega) (by omega)).trans h1, (hk (B + 1) (by omega) (by omega) (by omega)).trans h2, ?_, ?_, h5⟩
  · refine ⟨h3.1, ?_⟩
    rcases h3.2 with h0 | ⟨g', cap, cur, hv, hb, hg, hr⟩
    · exact .inl h0
    · exact .inr ⟨g', cap, cur, hv, hb, (hk g' (Array.getElem?_eq_some_iff.1 hg).1 (by omega) (by omega)).trans hg, hr⟩
  · refine ⟨h4.1, ?_⟩
    rcases h4.2 with h0 | ⟨g', cap, cur, hv, hb, hg, hr⟩
    · exact .inl h0
    · exact .inr ⟨g', cap, cur, hv, hb, (hk g' (Array.getElem?_eq_some_iff.1 hg).1 (by omega) (by omega)).trans hg, hr⟩
theorem BodyI.put (h : BodyI W0 B ns cs V) (hB : B + 1 < W0.heap.size) (l : Nat) (o : Obj) (h1 : W0.heap.size ≤ l) (h2 : l ≤ W0.heap.size + 1) : BodyI W0 B ns cs (V.putObj l o) :=
  h.same hB rfl rfl rfl (by simp) (fun k _ h3 h4 => World.putObj_heap_other (by omega))
theorem BodyI.below {V' : World} (h : BodyI W0 B ns cs V) (hB : B + 1 < W0.heap.size) (hb : Below V.heap.size V V') : BodyI W0 B ns cs V' :=
  h.same hB hb.os hb.tape hb.output hb.size (fun k hk _ _ => hb.block k hk)
/-- One more of the contents. -/
theorem BodyI.addC (h : BodyI W0 B ns cs V) (hB : B + 1 < W0.heap.size) (hV : W0.heap.size + 2 ≤ V.heap.size) (s : List UInt8) (hl : cs.length ≤ 1048576) :
    ∃ cv cv' W', V.cell? ⟨B + 1, 0, none⟩ = some cv ∧ (txtAppend #[cv, .slice (some ⟨V.heap.size, 0, none⟩) 1 1]).run Tryz.prog (V.alloc (.cells #[str s] 9)) = .ok cv' W' ∧ W'.cell? ⟨B + 1, 0, none⟩ = some cv ∧ W'.frozen? ⟨B + 1, 0, none⟩ = false ∧
      BodyI W0 B ns (cs ++ [s]) (W'.setCell ⟨B + 1, 0, none⟩ cv') ∧ KeepF W0.heap.size V (W'.setCell ⟨B + 1, 0, none⟩ cv') ∧ V.heap.size ≤ (W'.setCell ⟨B + 1, 0, none⟩ cv').heap.size ∧ ∃ g m cap, cv' = .slice (some ⟨g, 0, none⟩) m cap := by
  obtain ⟨hO, nv, cv, h1, h2, h3, h4, h5⟩ := h
  have hsz := hO.size
  obtain ⟨cv', W', hap, hown, hg, hor⟩ := append_txt (V.alloc (.cells #[str s] 9)) (W0.heap.size + 2) cv cs s (World.ownsRow.alloc h4 _) V.heap.size 1 (cell_new_l V _ _) hl (by simp; omega)
  have hvb : ∀ k, cv.ownBlock = some k → W0.heap.size + 2 ≤ k ∧ k < V.heap.size := fun k hk => h4.lt k hk
  have hs2 : V.heap.size + 1 ≤ W'.heap.size := by have := hg.size; simpa using this
  have hkeep : ∀ k, k < V.heap.size → cv.ownBlock ≠ some k → W'.heap[k]? = V.heap[k]? := fun k hk hne => (hg.block k (by simp; omega) (fun e => hne e.symm)).trans (Below.heap_alloc V _ k hk)
  have hlow : ∀ k, k < W0.heap.size + 2 → W'.heap[k]? = V.heap[k]? := fun k hk => hkeep k (by omega) (fun e => by have := hvb k e; omega)
  have hset : ∀ k, k ≠ B + 1 → (W'.setCell ⟨B + 1, 0, none⟩ cv').heap[k]? = W'.heap[k]? := fun k hk => set_other _ _ _ _ _ hk
  have hc' : W'.heap[B + 1]? = some (.cells #[cv] 88 (0, 0)) := (hlow _ (by omega)).trans h2
  refine ⟨cv, cv', W', cell_of_row _ _ 0 _ _ _ h2, hap, cell_of_row _ _ 0 _ _ _ hc', frozen_of_row _ _ 0 _ _ hc', ⟨⟨hg.os.trans hO.os, hg.tape.trans hO.tape, hg.output.trans hO.output, by rw [set_size]; omega, fun k hk hn => ?_⟩, nv, cv', ?_, ?_, ?_, ?_, ?_⟩, ⟨?_, ?_⟩, by rw [set_size]; omega, own_slice hown⟩
  · rw [hset k (fun e => hn (.inr e)), hlow k (by omega)]
    exact hO.block k hk hn
  · rw [hset B (by omega), hlow B (by omega)]; exact h1
  · exact heap_setCell_same W' (B + 1) 0 _ _ cv' hc'
  · refine owns_keep h3 fun k hk => ?_
    have := h3.lt k hk
    rw [hset k (by omega)]
    exact hkeep k this.2 (h5 k hk)
  · exact ownsRow_setCell_below hown (by show B + 1 < _; omega) _
  · intro k hk
    rcases hor with e | e
    · rw [e]; exact h5 k hk
    · rw [e]
      have := h3.lt k hk
      simp
      omega
  · rw [hset _ (by omega)]; exact hlow _ (by omega)
  · rw [hset _ (by omega)]; exact hlow _ (by omega)
/-- One more of the numbers. -/
theorem BodyI.addN (h : BodyI W0 B ns cs V) (hB : B + 1 < W0.heap.size) (hV : W0.heap.size + 2 ≤ V.heap.size) (s : List UInt8) (hl : ns.length ≤ 1048576) :
    ∃ cv cv' W', V.cell? ⟨B, 0, none⟩ = some cv ∧ (txtAppend #[cv, .slice (some ⟨V.heap.size, 0, none⟩) 1 1]).run Tryz.prog (V.alloc (.cells #[str s] 9)) = .ok cv' W' ∧ W'.cell? ⟨B, 0, none⟩ = some cv ∧ W'.frozen? ⟨B, 0, none⟩ = false ∧
      BodyI W0 B (ns ++ [s]) cs (W'.setCell ⟨B, 0, none⟩ cv') ∧ KeepF W0.heap.size V (W'.setCell ⟨B, 0, none⟩ cv') ∧ V.heap.size ≤ (W'.setCell ⟨B, 0, none⟩ cv').heap.size ∧ ∃ g m cap, cv' = .slice (some ⟨g, 0, none⟩) m cap := by
  obtain ⟨hO, cv, nv, h2, h1, h4, h3, h5⟩ := h
  have hsz := hO.size
  obtain ⟨cv', W', hap, hown, hg, hor⟩ := append_txt (V.alloc (.cells #[str s] 9)) (W0.heap.size + 2) cv ns s (World.ownsRow.alloc h4 _) V.heap.size 1 (cell_new_l V _ _) hl (by simp; omega)
  have hvb : ∀ k, cv.ownBlock = some k → W0.heap.size + 2 ≤ k ∧ k < V.heap.size := fun k hk => h4.lt k hk
  have hs2 : V.heap.size + 1 ≤ W'.heap.size := by have := hg.size; simpa using this
  have hkeep : ∀ k, k < V.heap.size → cv.ownBlock ≠ some k → W'.heap[k]? = V.heap[k]? := fun k hk hne => (hg.block k (by simp; omega) (fun e => hne e.symm)).trans (Below.heap_alloc V _ k hk)
  have hlow : ∀ k, k < W0.heap.size + 2 → W'.heap[k]? = V.heap[k]? := fun k hk => hkeep k (by omega) (fun e => by have := hvb k e; omega)
  have hset : ∀ k, k ≠ B → (W'.setCell ⟨B, 0, none⟩ cv').heap[k]? = W'.heap[k]? := fun k hk => set_other _ _ _ _ _ hk
  have hc' : W'.heap[B]? = some (.cells #[cv] 88 (0, 0)) := (hlow _ (by omega)).trans h2
  refine ⟨cv, cv', W', cell_of_row _ _ 0 _ _ _ h2, hap, cell_of_row _ _ 0 _ _ _ hc', frozen_of_row _ _ 0 _ _ hc', ⟨⟨hg.os.trans hO.os, hg.tape.trans hO.tape, hg.output.trans hO.output, by rw [set_size]; omega, fun k hk hn => ?_⟩, cv', nv, ?_, ?_, ?_, ?_, ?_⟩, ⟨?_, ?_⟩, by rw [set_size]; omega, own_slice hown⟩
  · rw [hset k (fun e => hn (.inl e)), hlow k (by omega)]
    exact hO.block k hk hn
  · exact heap_setCell_same W' B 0 _ _ cv' hc'
  · rw [hset (B + 1) (by omega), hlow (B + 1) (by omega)]; exact h1
  · exact ownsRow_setCell_below hown (by show B < _; omega) _
  · refine owns_keep h3 fun k hk => ?_
    have := h3.lt k hk
    rw [hset k (by omega)]
    exact hkeep k this.2 (fun e => h5 k e hk)
  · intro k hk e2
    have h6 := h3.lt k e2
    rcases hor with e | e
    · rw [e] at hk; exact h5 k hk e2
    · rw [e] at hk
      cases hk
      simp at h6
      omega
  · rw [hset _ (by omega)]; exact hlow _ (by omega)
  · rw [hset _ (by omega)]; exact hlow _ (by omega)
end
end Go.Proofs.YtdddennhdbmolaaGreat
