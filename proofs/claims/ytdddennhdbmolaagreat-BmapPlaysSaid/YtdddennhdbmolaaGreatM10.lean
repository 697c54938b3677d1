/- Layer 3 (dev): a sector is written. -/
import Derived.Test.YtdddennhdbmolaaGreatM9
import Derived.BigRegion
import Derived.Deep.RegionHeld3
namespace Go.Proofs.YtdddennhdbmolaaGreat
open Go.RowKit Go.Maps
set_option linter.unusedVariables false
set_option linter.unusedSimpArgs false
set_option maxRecDepth 10000
/-- A slice of one sector, built: the walk doesn't open it. -/
def secBuild (n : Nat) (ps : Array (Nat × Value)) : Sem Value := Instr.buildSlice 114 n ps
def secAppend (args : Array Value) : Sem Value := Builtin.append_ #[114, 114] 114 args
@[go_sem ↓] theorem sec_build_fold (n : Nat) (ps : Array (Nat × Value)) : Instr.buildSlice 114 n ps = secBuild n ps := rfl
@[go_sem ↓] theorem sec_append_fold (args : Array Value) : Builtin.append_ #[114, 114] 114 args = secAppend args := rfl
theorem sec_arr (A : Option Addr) (cp : Nat) (w : World) : (Instr.arrayAt 165 (.slice A 64 cp)).run Tryz.prog w = .ok (.pointer A) w := by
  simp [Instr.arrayAt, run_underlying Tryz.underlying165]
set_option maxRecDepth 100000 in
set_option maxHeartbeats 2000000 in
theorem write_raw (b g c n m i wr k cap k' cap' : Nat) (A A' : Option Addr) (s : List UInt8) (W Wc Wb Wa Wm : World) (cp : Nat) (hi : i < n) (hn : n ≤ 4096) (hs : s.length = 64) (hwr : wr ≤ 1099511627776)
    (h1 : W.cell? ⟨b, 1, none⟩ = some (.bool false)) (h2 : W.cell? ⟨b, 2, none⟩ = some (.slice (some ⟨g, 0, none⟩) n c))
    (h3 : W.cell? ⟨b, 3, none⟩ = some (.map (some m))) (h3c : Wc.cell? ⟨b, 3, none⟩ = some (.map (some m))) (h3b : Wb.cell? ⟨b, 3, none⟩ = some (.map (some m))) (h3a : Wa.cell? ⟨b, 3, none⟩ = some (.map (some m))) (h3m : Wm.cell? ⟨b, 3, none⟩ = some (.map (some m)))
    (hl0 : (Instr.lookup 115 (.map (some m)) (.int .i64 (i : Int)) false).run Tryz.prog W.drew = .ok (.agg #[.slice A k cap]) W.drew)
    (hlc : (Instr.lookup 115 (.map (some m)) (.int .i64 (i : Int)) false).run Tryz.prog Wc = .ok (.agg #[.slice A k cap]) Wc)
    (hlb : (Instr.lookup 115 (.map (some m)) (.int .i64 (i : Int)) false).run Tryz.prog Wb = .ok (.agg #[.slice A k cap]) Wb)
    (hcv : (convert 9 89 (str s)).run Tryz.prog W.drew = .ok (.slice (some ⟨W.heap.size, 0, none⟩) 64 cp) Wc)
    (hrg : Wc.rangeAt W.heap.size 0 (bc s))
    (hbs : (secBuild 1 #[(0, .agg (bc s).toArray)]).run Tryz.prog Wc = .ok (.slice (some ⟨Wc.heap.size, 0, none⟩) 1 1) Wb)
    (hap : (secAppend #[.slice A k cap, .slice (some ⟨Wc.heap.size, 0, none⟩) 1 1]).run Tryz.prog Wb = .ok (.slice A' k' cap') Wa)
    (hup : (Instr.mapUpdate 115 (.map (some m)) (.int .i64 (i : Int)) (.agg #[.slice A' k' cap'])).run Tryz.prog Wa = .ok () Wm)
    (h4 : Wm.cell? ⟨b, 4, none⟩ = some (.int .u64 (wr : Int))) (f4 : Wm.frozen? ⟨b, 4, none⟩ = false) (R : World → Prop)
    (hburn : Calls Tryz.prog 108 #[devp b] (Wm.setCell ⟨b, 4, none⟩ (.int .u64 ((wr : Int) + 1))) fun e w' => e = .returned (.tuple #[]) ∧ R w') :
    Calls Tryz.prog 83 #[devp b, .int .i64 (i : Int), str s] W fun e w' => e = .returned (.int .i64 0) ∧ R w' := by
  have hf := row_field A k cap
  have hbd := row_build A' k' cap'
  have har := sec_arr (some ⟨W.heap.size, 0, none⟩) cp
  have hld := sec_load Wc W.heap.size 0 s hs hrg
  have hwrap : IntKind.u64.wrap ((wr : Int) + 1) = (wr : Int) + 1 := u64_wrap _ (by omega) (by omega)
  have hu := Tryz.underlying165
  have hsz : (Tryz.prog.info? 165).map (·.size) = some (bc s).length := by rw [List.length_map, hs]; kernel_rfl
  go_enter Tryz.func83, Tryz.ntmps83
  go_wp2_with fail
  refine (works_any _ _ _ h1).mono ?_
  rintro e w1 ⟨rfl, rfl⟩
  go_wp2_with fail
  refine (has_yes _ _ _ _ _ _ hn hi h2).mono ?_
  rintro e w1 ⟨rfl, rfl⟩
  go_wp2_with fail
  go_region
  go_wp2_with fail
  refine hburn.mono ?_
  rintro e w' ⟨rfl, hR⟩
  go_wp2
  go_ret
  exact ⟨rfl, hR⟩
theorem sec_build (W : World) (s : List UInt8) (hs : s.length = 64) : (secBuild 1 #[(0, .agg (bc s).toArray)]).run Tryz.prog W = .ok (.slice (some ⟨W.heap.size, 0, none⟩) 1 1) (W.alloc (.cells (bc s).toArray 165)) := by
  obtain ⟨i, hi, hz, hsz, hby⟩ := info_parts secInfo
  refine run_buildSlice W 114 165 1 _ _ i _ Tryz.underlying114 hi hz (by rw [hsz]; decide) (by rw [hsz]; decide) ?_
  rw [hsz]
  have := Go.Great.fill_whole (s := 64) (by decide) [Value.agg (bc s).toArray] ((Array.range (1 * 64)).map ((Value.agg (Array.replicate 64 (Value.int .u8 0))).cells[· % (Value.agg (Array.replicate 64 (Value.int .u8 0))).cells.size]!)) (by simp [Value.cells, hs]) (by simp)
  simpa [Value.cells] using this
theorem write_any {S : Nat → Prop} {W : World} {b : Nat} {M : Dv} (h : DevAt S W b M) (hd : M.down = false) (hw : M.wr < 1099511627776) (i : Nat) (hi : i < M.n) (s : List UInt8) (hs : s.length = 64) :
    Calls Tryz.prog 83 #[devp b, .int .i64 (i : Int), str s] W fun e w' => e = .returned (.int .i64 0) ∧ Step S W b (M.write i s) w' := by
  obtain ⟨g, c, m, vals, h⟩ := h
  have h1 := h.head.c1
  rw [hd] at h1
  obtain ⟨A, cap, hlk, hA⟩ := look_row h i hi
  obtain ⟨cp, Wc, hcv, hby, hbc, hszc⟩ := bytes_of_string (P := Tryz.prog) W.drew 9 89 5 s Tryz.underlying9 Tryz.underlying89 Tryz.underlying5
  rw [hs] at hcv
  have hsW : W.drew.heap.size = W.heap.size := rfl
  rw [hsW] at hcv hby hbc hszc
  have hbel : Below W.heap.size W Wc := ((Below.refl W.heap.size W).drew).trans hbc
  have hrg : Wc.rangeAt W.heap.size 0 (bc s) := fun j v hj => by
    have hj' : j < s.length := by simpa using (List.getElem?_eq_some_iff.1 hj).1
    have := (hby j hj').1
    rw [Nat.zero_add, this]
    rw [List.getElem?_map, List.getElem?_eq_getElem hj'] at hj
    exact hj
  have hbs := sec_build Wc s hs
  obtain ⟨Wb, hWb⟩ : ∃ Wb, Wc.alloc (.cells (bc s).toArray 165) = Wb := ⟨_, rfl⟩
  have hbelb : Below W.heap.size W Wb := by rw [← hWb]; exact hbel.alloc hbel.size _
  have hszb : Wb.heap.size = W.heap.size + 2 := by rw [← hWb]; simp [hszc]
  have hnewr : Wb.rangeAt Wc.heap.size 0 (bc s) := by
    rw [← hWb]
    exact range_row (heap_alloc_new Wc _) (by simp)
  rw [hWb] at hbs
  have hD0 : DevIn S W.drew b g c m vals M := h.kept (Nat.le_refl _) (fun _ _ => rfl)
  have hDc : DevIn S Wc b g c m vals M := h.kept hbel.size (fun k hk => hbel.block k (h.lt k hk))
  have hDb : DevIn S Wb b g c m vals M := h.kept hbelb.size (fun k hk => hbelb.block k (h.lt k hk))
  have hsame : ∀ {W' : World}, DevIn S W' b g c m vals M → (Instr.lookup 115 (.map (some m)) (.int .i64 (i : Int)) false).run Tryz.prog W' = .ok (.agg #[.slice A (M.row i).length cap]) W' := by
    intro W' hD'
    obtain ⟨A', cap', hl', hA'⟩ := look_row hD' i hi
    rw [hl']
    rcases hA with ⟨_, rfl, rfl⟩ | ⟨hr, hv⟩ <;> rcases hA' with ⟨hr', h2, h3⟩ | ⟨hr', hv'⟩
    · rw [h2, h3]
    · rename_i h0; exact absurd h0 hr'
    · exact absurd hr' hr
    · rw [hv', hv]
  have hv : ((.slice A (M.row i).length cap : Value) = .slice none 0 0 ∧ M.row i = []) ∨ RowAt Wb (.slice A (M.row i).length cap) (M.row i) := by
    rcases hA with ⟨hr, rfl, rfl⟩ | ⟨hr, hv⟩
    · exact .inl ⟨by rw [hr]; rfl, hr⟩
    · exact .inr (by rw [hv]; exact hDb.ro.at_ i hr)
  have hownv : ∀ k, (Value.slice A (M.row i).length cap).ownBlock = some k → M.row i ≠ [] ∧ (vals i).ownBlock = some k := by
    intro k hk
    rcases hA with ⟨hr, rfl, rfl⟩ | ⟨hr, hv⟩
    · cases hk
    · exact ⟨hr, by rw [← hv]; exact hk⟩
  obtain ⟨v', Wa, hap, hrowa, hga, hown'⟩ := run_append_row (P := Tryz.prog) Tryz.underlying114 secInfo (by simp [Value.cells]) (ty := 114) Wb _ (M.row i) hv (h.fine.row i) Wc.heap.size 1 s hs hnewr (by have := h.fine.rows i; omega)
  have hrowa' := hrowa
  obtain ⟨g', off', cap', hv', _⟩ := hrowa'
  have hm_own : ∀ k, S k → ¬ Rk M.row vals k → Wa.heap[k]? = Wb.heap[k]? := fun k hk hno =>
    hga.block k (hDb.lt k hk) (fun e => hno ⟨i, (hownv k e.symm).1, (hownv k e.symm).2⟩)
  obtain ⟨Wm, hup, hmapm, hgm⟩ := (hDb.ro.map.kept (hm_own m h.sm h.rm)).store Tryz.underlying3 Tryz.underlying115 (by have := h.fine.n; omega) hi (.agg #[v'])
  have hlta : ∀ k, S k → k < Wa.heap.size := fun k hk => Nat.lt_of_lt_of_le (hDb.lt k hk) hga.size
  have hbm : Wm.heap[b]? = Wa.heap[b]? := grown_other hgm (hlta b h.sb) h.bm
  have hba : Wa.heap[b]? = Wb.heap[b]? := hm_own b h.sb h.rb
  have hHa := hDb.head.kept hba
  have hHm := hHa.kept hbm
  have hH4 := hHm.set4 (M.wr + 1)
  have hne' : M.row i ++ [s] ≠ [] := by simp
  obtain ⟨k', hk', hk'lt⟩ := hrowa.own hne'
  have hk'or : (M.row i ≠ [] ∧ (vals i).ownBlock = some k') ∨ Wb.heap.size ≤ k' := by
    rcases hown' with e | ⟨g2, e, hg2⟩
    · exact .inl (hownv k' (e ▸ hk'))
    · rw [hk'] at e; cases e; exact .inr hg2
  have hk'm : k' ≠ m := by
    rintro rfl
    rcases hk'or with h2 | h2
    · exact h.rm ⟨i, h2.1, h2.2⟩
    · have := hDb.lt _ h.sm; omega
  have hk'b : k' ≠ b := by
    rintro rfl
    rcases hk'or with h2 | h2
    · exact h.rb ⟨i, h2.1, h2.2⟩
    · have := hDb.lt _ h.sb; omega
  have hszm : Wb.heap.size ≤ Wm.heap.size := Nat.le_trans hga.size hgm.size
  have hset : ∀ k, k ≠ b → (Wm.setCell ⟨b, 4, none⟩ (.int .u64 ((M.wr + 1 : Nat) : Int))).heap[k]? = Wm.heap[k]? := fun k hk => set_other _ _ _ _ _ hk
  have hD4 := hDb.rows (S' := fun k => S k ∨ k = k') (W' := Wm.setCell ⟨b, 4, none⟩ (.int .u64 ((M.wr + 1 : Nat) : Int))) i hi (M.row i ++ [s]) v' (fun k hk => .inl hk)
    (fun k hk => by
      rw [set_size]
      rcases hk with hk | rfl
      · exact Nat.lt_of_lt_of_le (hlta k hk) hgm.size
      · exact Nat.lt_of_lt_of_le hk'lt hgm.size)
    (fun k hk hb2 hm2 hno => by
      rw [hset k hb2, grown_other hgm (Nat.lt_of_lt_of_le hk hga.size) hm2]
      exact hga.block k hk (fun e => hno (hownv k e.symm).1 (hownv k e.symm).2))
    (by rw [if_neg (by simp)]; exact hmapm.kept (hset m (Ne.symm h.bm)))
    (fun _ => ⟨hrowa.kept fun k hk => by rw [hk'] at hk; cases hk; rw [hset k' hk'b]; exact grown_other hgm hk'lt hk'm, k', hk', .inr rfl, hk'or⟩)
    (fun p hp => by
      rcases List.mem_append.1 hp with hp | hp
      · exact h.fine.row i p hp
      · simp at hp; rw [hp]; exact hs)
    hH4 h.fine.left (by rw [List.length_append]; have := h.fine.rows i; simp; omega) (Nat.le_succ _)
  have hburn := burn_any hD4 hd
  have hcast : ((M.wr + 1 : Nat) : Int) = (M.wr : Int) + 1 := by omega
  rw [hcast] at hburn
  rw [hv'] at hap hup
  refine (write_raw b g c M.n m i M.wr _ _ _ _ A _ s W Wc Wb Wa Wm cp hi h.fine.n hs (by omega) h1 h.head.c2 h.head.c3 hDc.head.c3 hDb.head.c3 hHa.c3 hHm.c3 (hsame hD0) (hsame hDc) (hsame hDb) hcv hrg hbs hap hup hHm.c4 hHm.f4 _ hburn).mono ?_
  rintro e w' ⟨rfl, hDf, hOf⟩
  refine ⟨rfl, fun k => S k ∨ k = k', ⟨g, c, m, _, hDf⟩, ?_, ?_⟩
  · have o1 : Only S W Wb := Only.of_below hbelb
    have o2 : Only S Wb Wa := Only.of_grown hga (fun k e => h.sr k ⟨i, hownv k e⟩)
    have o3 : Only S Wa Wm := Only.of_grown hgm (fun k e => by cases e; exact h.sm)
    have o4 : Only S Wm (Wm.setCell ⟨b, 4, none⟩ (.int .u64 ((M.wr : Int) + 1))) := Only.setCell S Wm ⟨b, 4, none⟩ _ h.sb
    refine ((((o1.trans o2 (fun _ e => .inl e)).trans o3 (fun _ e => .inl e)).trans o4 (fun _ e => .inl e))).trans hOf (fun k e => ?_)
    rcases e with e | rfl
    · exact .inl e
    · rcases hk'or with h2 | h2
      · exact .inl (h.sr _ ⟨i, h2⟩)
      · exact .inr (by omega)
  · intro k e
    rcases e with e | rfl
    · exact .inl e
    · rcases hk'or with h2 | h2
      · exact .inl (h.sr _ ⟨i, h2⟩)
      · exact .inr (by omega)
end Go.Proofs.YtdddennhdbmolaaGreat
/- Layer 3 (dev): what is refused; Back. -/
namespace Go.Proofs.YtdddennhdbmolaaGreat
open Go.RowKit Go.Maps
set_option linter.unusedVariables false
set_option linter.unusedSimpArgs false
set_option maxRecDepth 10000
theorem DevAt.down_cell {S : Nat → Prop} {W : World} {b : Nat} {M : Dv} (h : DevAt S W b M) {d : Bool} (hd : M.down = d) : W.cell? ⟨b, 1, none⟩ = some (.bool d) := by
  obtain ⟨g, c, m, vals, h⟩ := h
  rw [← hd]
  exact h.head.c1
theorem write_down (b : Nat) (i s : Value) (W : World) (h1 : W.cell? ⟨b, 1, none⟩ = some (.bool true)) :
    Calls Tryz.prog 83 #[devp b, i, s] W fun e w' => e = .returned (.int .i64 30) ∧ W = w' := by
  go_enter Tryz.func83, Tryz.ntmps83
  go_wp2_with fail
  refine (works_any _ _ _ h1).mono ?_
  rintro e w1 ⟨rfl, rfl⟩
  go_wp2_with fail
  go_ret
  exact ⟨rfl, rfl⟩
theorem read_down (b : Nat) (i : Value) (W : World) (h1 : W.cell? ⟨b, 1, none⟩ = some (.bool true)) :
    Calls Tryz.prog 69 #[devp b, i] W fun e w' => e = .returned (.tuple #[str [], .int .i64 30]) ∧ W = w' := by
  go_enter Tryz.func69, Tryz.ntmps69
  go_wp2_with fail
  refine (works_any _ _ _ h1).mono ?_
  rintro e w1 ⟨rfl, rfl⟩
  go_wp2_with fail
  go_ret2
  exact ⟨rfl, rfl⟩
theorem write_out (b g c n : Nat) (i : Int) (s : Value) (W : World) (hn : n ≤ 4096) (hi : i < 0 ∨ (n : Int) ≤ i) (h1 : W.cell? ⟨b, 1, none⟩ = some (.bool false)) (h2 : W.cell? ⟨b, 2, none⟩ = some (.slice (some ⟨g, 0, none⟩) n c)) :
    Calls Tryz.prog 83 #[devp b, .int .i64 i, s] W fun e w' => e = .returned (.int .i64 2) ∧ W = w' := by
  have hc := has_no b g c n i W hn hi h2
  have HC := Lib.hid hc
  clear hc hi
  go_enter Tryz.func83, Tryz.ntmps83
  go_wp2_with fail
  refine (works_any _ _ _ h1).mono ?_
  rintro e w1 ⟨rfl, rfl⟩
  go_wp2_with fail
  refine HC.out.mono ?_
  rintro e w1 ⟨rfl, rfl⟩
  go_wp2_with fail
  go_ret
  exact ⟨rfl, rfl⟩
theorem write_size (b g c n i : Nat) (s : List UInt8) (W : World) (hn : n ≤ 4096) (hi : i < n) (hs : s.length ≠ 64) (h1 : W.cell? ⟨b, 1, none⟩ = some (.bool false)) (h2 : W.cell? ⟨b, 2, none⟩ = some (.slice (some ⟨g, 0, none⟩) n c)) :
    Calls Tryz.prog 83 #[devp b, .int .i64 (i : Int), str s] W fun e w' => e = .returned (.int .i64 2) ∧ W = w' := by
  have hs1 : (((s.length : Nat) : Int) != 64) = true := by simp; omega
  go_enter Tryz.func83, Tryz.ntmps83
  go_wp2_with fail
  refine (works_any _ _ _ h1).mono ?_
  rintro e w1 ⟨rfl, rfl⟩
  go_wp2_with fail
  refine (has_yes _ _ _ _ _ _ hn hi h2).mono ?_
  rintro e w1 ⟨rfl, rfl⟩
  go_wp2_with fail
  go_ret
  exact ⟨rfl, rfl⟩
/-- What Write answers, and what the device is behind it. -/
def Dv.canWrite (M : Dv) (i : Int) (s : List UInt8) : Bool := !M.down && decide (0 ≤ i) && decide (i < (M.n : Int)) && (s.length == 64)
def Dv.wrote (M : Dv) (i : Int) (s : List UInt8) : Dv := if M.canWrite i s then M.write i.toNat s else M
def Dv.wroteE (M : Dv) (i : Int) (s : List UInt8) : Int := if M.down then 30 else if M.canWrite i s then 0 else 2
theorem Step.refl {S : Nat → Prop} {W : World} {b : Nat} {M : Dv} (h : DevAt S W b M) : Step S W b M W := .of h (Only.refl _ _)
theorem write_all {S : Nat → Prop} {W : World} {b : Nat} {M : Dv} (h : DevAt S W b M) (hw : M.wr < 1099511627776) (i : Int) (s : List UInt8) :
    Calls Tryz.prog 83 #[devp b, .int .i64 i, str s] W fun e w' => e = .returned (.int .i64 (M.wroteE i s)) ∧ Step S W b (M.wrote i s) w' := by
  have h' := h
  obtain ⟨g, c, m, vals, hI⟩ := h'
  cases hd : M.down
  · have h1 := h.down_cell hd
    by_cases hi : i < 0 ∨ (M.n : Int) ≤ i
    · refine (write_out b g c M.n i (str s) W hI.fine.n hi h1 hI.head.c2).mono ?_
      rintro e w' ⟨rfl, rfl⟩
      have hc : M.canWrite i s = false := by
        unfold Dv.canWrite
        rcases hi with hi | hi
        · rw [decide_eq_false (by omega : ¬ 0 ≤ i)]; simp
        · rw [decide_eq_false (by omega : ¬ i < (M.n : Int))]; simp
      refine ⟨by unfold Dv.wroteE; rw [hd, hc]; rfl, ?_⟩
      unfold Dv.wrote; rw [hc]; exact Step.refl h
    · obtain ⟨j, rfl⟩ : ∃ j : Nat, i = (j : Int) := ⟨i.toNat, by omega⟩
      by_cases hs : s.length = 64
      · have hc : M.canWrite (j : Int) s = true := by
          unfold Dv.canWrite
          rw [hd, decide_eq_true (by omega : (0 : Int) ≤ (j : Int)), decide_eq_true (by omega : (j : Int) < (M.n : Int)), hs]; rfl
        refine (write_any h hd hw j (by omega) s hs).mono ?_
        rintro e w' ⟨rfl, hS⟩
        refine ⟨by unfold Dv.wroteE; rw [hd, hc]; rfl, ?_⟩
        unfold Dv.wrote; rw [hc, if_pos rfl, Int.toNat_natCast]; exact hS
      · have hc : M.canWrite (j : Int) s = false := by
          unfold Dv.canWrite
          rw [(by simpa using hs : (s.length == 64) = false)]; simp
        refine (write_size b g c M.n j s W hI.fine.n (by omega) hs h1 hI.head.c2).mono ?_
        rintro e w' ⟨rfl, rfl⟩
        refine ⟨by unfold Dv.wroteE; rw [hd, hc]; rfl, ?_⟩
        unfold Dv.wrote; rw [hc]; exact Step.refl h
  · refine (write_down b _ _ W (h.down_cell hd)).mono ?_
    rintro e w' ⟨rfl, rfl⟩
    refine ⟨by unfold Dv.wroteE; rw [hd]; rfl, ?_⟩
    have hc : M.canWrite i s = false := by unfold Dv.canWrite; rw [hd]; rfl
    unfold Dv.wrote; rw [hc]; exact Step.refl h
/-- What Back answers, and what the device is behind it. -/
def Dv.canBack (M : Dv) (i k : Int) : Bool := !M.down && decide (0 ≤ i) && decide (i < (M.n : Int)) && decide (0 ≤ k) && decide (k ≤ ((M.row i.toNat).length : Int))
def Dv.backed (M : Dv) (i k : Int) : Dv := if M.canBack i k then M.settle i.toNat k.toNat else M
def Dv.backE (M : Dv) (i k : Int) : Int := if M.down then 30 else if M.canBack i k then 0 else 2
end Go.Proofs.YtdddennhdbmolaaGreat
/- A range over a function whose rounds are told what they are handed (the round's arguments may hang on the world), and keep one block of the iterator's own. -/
namespace Go.Proofs.YtdddennhdbmolaaGreat
open Go.RowKit
set_option linter.unusedVariables false
set_option linter.unusedSimpArgs false
set_option maxRecDepth 10000
/-- The two blocks of the loop's own, and block p, lie as they lay. -/
def KeepB (B p : Nat) (W W' : World) : Prop := W'.heap[B]? = W.heap[B]? ∧ W'.heap[B + 1]? = W.heap[B + 1]? ∧ W'.heap[p]? = W.heap[p]?
theorem KeepB.refl (B p : Nat) (W : World) : KeepB B p W W := ⟨rfl, rfl, rfl⟩
theorem KeepB.trans {B p : Nat} {X Y Z : World} (h : KeepB B p X Y) (k : KeepB B p Y Z) : KeepB B p X Z := ⟨k.1.trans h.1, k.2.1.trans h.2.1, k.2.2.trans h.2.2⟩
theorem KeepB.below {B p : Nat} {W W' : World} (h : Below W.heap.size W W') (hB : B + 2 ≤ W.heap.size) (hp : p < W.heap.size) : KeepB B p W W' := ⟨h.block _ (by omega), h.block _ (by omega), h.block _ hp⟩
/-- How a round ends here: off its end. -/
def roundEnd (B p : Nat) (I : World → Prop) (W : World) : Exit → Act → World → Prop
  | .normal, _, W' => KeepB B p W W' ∧ I W'
  | _, _, _ => False
section
variable {P : Program} {n : Nat}
theorem range_told {g : Operand} {ps : Array Tmp} {assign body : Code} {Q : Exit → Act → World → Prop} {a : Act} {w : World} (h1 : 1 ≤ n) {gf : Nat} {lb : Array Value}
    (hg : a.eval g = .func (.func gf) #[] lb) (eg : ∀ args w, (callFunc gf args).run P w = .ok (.enter gf args) w)
    (N : Nat) (G : Nat → Array Value → World → Prop) (I : Nat → Nat → World → Prop)
    (hit : ∀ (l : Nat) (J : Nat → Nat → World → Prop) (W : World), (∀ p j W, J p j W → I p j W) → (∀ p W', Below W.heap.size W W' → W.heap.size ≤ p → p < W'.heap.size → J p 0 W') →
      (∀ p j, j < N → ∀ args W1, J p j W1 → G j args W1 → YieldAt Fence.wide (n - 1 - 1) P l args W1 fun e W' => e = .returned (.bool true) ∧ J p (j + 1) W' ∧ W'.heap[p]? = W1.heap[p]?) →
      Below w.heap.size w W → CallsIn Fence.wide (n - 1) P gf (#[.func (.yield l) #[] #[]] ++ lb) W fun e W' => (∃ v, e = .returned v) ∧ ∃ p, J p N W')
    (h0 : ∀ p W, Below w.heap.size w W → w.heap.size + 2 ≤ p → p < W.heap.size → I p 0 W) (hput : ∀ p j W l o, w.heap.size ≤ l → l ≤ w.heap.size + 1 → I p j W → I p j (W.putObj l o))
    (Ax : Nat → Nat → Act → World → Prop) (hAx : ∀ p j a' W l o, w.heap.size ≤ l → l ≤ w.heap.size + 1 → Ax p j a' W → Ax p j a' (W.putObj l o))
    (hassign : ∀ (l p j : Nat) (args : Array Value) (W : World), j < N → w.heap.size + 2 ≤ p → p < W.heap.size → I p j W → G j args W → args.size = ps.size ∧
      assign.wpIn (Fence.wide.inRound l) (n - 1 - 1) P (Exit.then (fun a' W' => KeepB w.heap.size p W W' ∧ Ax p j a' W') (fun _ _ _ => False))
        { tmps := (ps.zip args).foldl (fun t (p, v) => t.setIfInBounds p v) a.tmps, defers := [] } W)
    (hbody : ∀ (l p j : Nat) (a' : Act) (W : World), j < N → w.heap.size + 2 ≤ p → p < W.heap.size → Ax p j a' W → body.wpIn (Fence.wide.inRound l) (n - 1 - 1) P (roundEnd w.heap.size p (I p (j + 1)) W) a' W)
    (hdone : ∀ p W, I p N W → W.heap[w.heap.size]? = some (.deferred (some [])) → Q .normal { a with defers := { target := .collected w.heap.size, args := #[] } :: a.defers } W) :
    (Code.rangeFunc g ps assign body).wpIn Fence.wide n P Q a w := by
  refine wpIn_rangeFunc fun fn hfn => ?_
  obtain ⟨mk, hmk⟩ : ∃ mk : LoopState → Option Code → Loop, mk = fun s p => { state := s, pending := p, fn := fn, tmps := a.tmps, params := ps, assign := assign, body := body, defers := w.heap.size } := ⟨_, rfl⟩
  obtain ⟨V, hV⟩ : ∃ V, (w.alloc (.deferred (some []))).alloc (.loop (mk .ready none)) = V := ⟨_, rfl⟩
  have hVs : V.heap.size = w.heap.size + 2 := by rw [← hV]; simp
  have hVb : Below w.heap.size w V := by
    rw [← hV]; exact ((Below.refl _ w).alloc (Nat.le_refl _) _).alloc (by simp) _
  have hV1 : V.heap[w.heap.size + 1]? = some (.loop (mk .ready none)) := by
    rw [← hV]; have := World.alloc_heap_new (w.alloc (.deferred (some []))) (.loop (mk .ready none)); rwa [World.size_alloc] at this
  have hV0 : V.heap[w.heap.size]? = some (.deferred (some [])) := by
    rw [← hV, Below.heap_alloc _ _ _ (by simp)]; exact World.alloc_heap_new w _
  refine ⟨w.heap.size + 1, [{ target := .collected w.heap.size, args := #[] }], V, { target := .fn (.func gf) lb, args := #[.func (.yield (w.heap.size + 1)) #[] #[]] }, V, gf,
    #[.func (.yield (w.heap.size + 1)) #[] #[]] ++ lb, V, ?_, ?_, fun _ _ => trivial, ?_, fun _ => h1, ?_⟩
  · rw [← hV, hmk]; exact run_enterLoop_outer _ _ _ _ _
  · simp only [resolve, hg]
    simp [go_sem]
  · simp [invoke, go_sem, eg]
  refine (hit (w.heap.size + 1) (fun p j W => I p j W ∧ W.heap[w.heap.size + 1]? = some (.loop (mk .ready none)) ∧ W.heap[w.heap.size]? = some (.deferred (some [])) ∧ w.heap.size + 2 ≤ p ∧ p < W.heap.size) V
    (fun p j W h => h.1) (fun p W' hbl hp1 hp2 => ⟨h0 p W' (hVb.trans (hbl.mono hVb.size)) (by omega) hp2, ?_, ?_, by omega, hp2⟩) ?_ hVb).mono ?_
  · rw [hbl.block _ (by omega)]; exact hV1
  · rw [hbl.block _ (by omega)]; exact hV0
  · rintro p j hj args W ⟨hi, hl, hk, hp1, hp2⟩ hG
    obtain ⟨has, hwp⟩ := hassign (w.heap.size + 1) p j args W hj hp1 hp2 hi hG
    have hy := run_yield (P := P) (args := args) hl (by rw [hmk]; exact has)
    rw [hmk] at hy
    refine ⟨fn, _, assign, body, hy, roundIn_of_wpIn hfn (wpIn_mono hwp ?_)⟩
    clear hy
    rintro e a' Wa hp
    cases e with
    | normal =>
      obtain ⟨hka, hax⟩ := hp
      have hla := hka.2.1.trans hl
      have hka0 := hka.1.trans hk
      have hpa : p < Wa.heap.size := by
        have h2 : W.heap[p]? = some W.heap[p] := Array.getElem?_eq_getElem hp2
        exact (Array.getElem?_eq_some_iff.1 (hka.2.2.trans h2)).1
      have hsa : w.heap.size + 1 < Wa.heap.size := (Array.getElem?_eq_some_iff.1 hla).1
      refine ⟨_, run_beginRound hla (by rw [hmk]), ?_⟩
      refine wpIn_mono (hbody _ p j a' _ hj hp1 (by simpa using hpa) (hAx _ _ _ _ _ _ (by omega) (Nat.le_refl _) hax)) ?_
      rintro e2 a2 W2 hp2'
      cases e2 with
      | normal =>
        obtain ⟨hk2, hi2⟩ := hp2'
        have hl2 : W2.heap[w.heap.size + 1]? = some (.loop { mk .ready none with state := .busy }) := hk2.2.1.trans (World.putObj_heap_same hsa)
        have hk20 : W2.heap[w.heap.size]? = some (.deferred (some [])) := hk2.1.trans ((World.putObj_heap_other (by omega)).trans hka0)
        have hkp : W2.heap[p]? = W.heap[p]? := hk2.2.2.trans ((World.putObj_heap_other (by omega)).trans hka.2.2)
        have hps2 : p < W2.heap.size := by
          have h2 : W.heap[p]? = some W.heap[p] := Array.getElem?_eq_getElem hp2
          exact (Array.getElem?_eq_some_iff.1 (hkp.trans h2)).1
        refine ⟨_, _, run_endRound none hl2, rfl, ⟨hput _ _ _ _ _ (by omega) (Nat.le_refl _) hi2, ?_, (World.putObj_heap_other (by omega)).trans hk20, hp1, by simpa using hps2⟩, (World.putObj_heap_other (by omega)).trans hkp⟩
        rw [World.putObj_heap_same (Array.getElem?_eq_some_iff.1 hl2).1, hmk]
        rfl
      | ret => exact hp2'.elim
      | exit id => exact hp2'.elim
      | goto t => exact hp2'.elim
      | panic c => exact hp2'.elim
      | outgrown => exact hp2'.elim
    | ret => exact hp.elim
    | exit id => exact hp.elim
    | goto t => exact hp.elim
    | panic c => exact hp.elim
    | outgrown => exact hp.elim
  · rintro e W2 ⟨⟨v, rfl⟩, p, hi, hl, hk, _, _⟩
    exact ⟨none, _, by have := run_endLoop (P := P) hl (by rw [hmk]; simp); rw [hmk] at this; exact this, hdone p _ (hput _ _ _ _ _ (by omega) (Nat.le_refl _) hi) ((World.putObj_heap_other (by omega)).trans hk)⟩
end
end Go.Proofs.YtdddennhdbmolaaGreat
