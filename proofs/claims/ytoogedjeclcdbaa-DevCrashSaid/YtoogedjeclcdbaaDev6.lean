/- Layer 3 (dev): a sector is written. -/
import Derived.Test.YtoogedjeclcdbaaDev5
import Derived.BigRegion
import Derived.Deep.RegionHeld3
namespace Go.Proofs.Ytoogedjeclcdbaa
open Go.RowKit Go.Maps
set_option linter.unusedVariables false
/-- A slice of one sector, built: the walk doesn't open it. -/
def secBuild (n : Nat) (ps : Array (Nat × Value)) : Sem Value := Instr.buildSlice 53 n ps
def secAppend (args : Array Value) : Sem Value := Builtin.append_ #[53, 53] 53 args
@[go_sem ↓] theorem sec_build_fold (n : Nat) (ps : Array (Nat × Value)) : Instr.buildSlice 53 n ps = secBuild n ps := rfl
@[go_sem ↓] theorem sec_append_fold (args : Array Value) : Builtin.append_ #[53, 53] 53 args = secAppend args := rfl
theorem sec_arr (A : Option Addr) (cp : Nat) (w : World) : (Instr.arrayAt 64 (.slice A 64 cp)).run Try.prog w = .ok (.pointer A) w := by
  simp [Instr.arrayAt, run_underlying Try.underlying64]
set_option maxRecDepth 100000 in
set_option maxHeartbeats 2000000 in
theorem write_raw (b g c n m i wr k cap k' cap' : Nat) (A A' : Option Addr) (s : List UInt8) (W Wc Wb Wa Wm : World) (cp : Nat) (hi : i < n) (hn : n ≤ 4096) (hs : s.length = 64) (hwr : wr ≤ 1099511627776)
    (h1 : W.cell? ⟨b, 1, none⟩ = some (.bool false)) (h2 : W.cell? ⟨b, 2, none⟩ = some (.slice (some ⟨g, 0, none⟩) n c))
    (h3 : W.cell? ⟨b, 3, none⟩ = some (.map (some m))) (h3c : Wc.cell? ⟨b, 3, none⟩ = some (.map (some m))) (h3b : Wb.cell? ⟨b, 3, none⟩ = some (.map (some m))) (h3a : Wa.cell? ⟨b, 3, none⟩ = some (.map (some m))) (h3m : Wm.cell? ⟨b, 3, none⟩ = some (.map (some m)))
    (hl0 : (Instr.lookup 54 (.map (some m)) (.int .i64 (i : Int)) false).run Try.prog W.drew = .ok (.agg #[.slice A k cap]) W.drew)
    (hlc : (Instr.lookup 54 (.map (some m)) (.int .i64 (i : Int)) false).run Try.prog Wc = .ok (.agg #[.slice A k cap]) Wc)
    (hlb : (Instr.lookup 54 (.map (some m)) (.int .i64 (i : Int)) false).run Try.prog Wb = .ok (.agg #[.slice A k cap]) Wb)
    (hcv : (convert 9 47 (str s)).run Try.prog W.drew = .ok (.slice (some ⟨W.heap.size, 0, none⟩) 64 cp) Wc)
    (hrg : Wc.rangeAt W.heap.size 0 (bc s))
    (hbs : (secBuild 1 #[(0, .agg (bc s).toArray)]).run Try.prog Wc = .ok (.slice (some ⟨Wc.heap.size, 0, none⟩) 1 1) Wb)
    (hap : (secAppend #[.slice A k cap, .slice (some ⟨Wc.heap.size, 0, none⟩) 1 1]).run Try.prog Wb = .ok (.slice A' k' cap') Wa)
    (hup : (Instr.mapUpdate 54 (.map (some m)) (.int .i64 (i : Int)) (.agg #[.slice A' k' cap'])).run Try.prog Wa = .ok () Wm)
    (h4 : Wm.cell? ⟨b, 4, none⟩ = some (.int .u64 (wr : Int))) (f4 : Wm.frozen? ⟨b, 4, none⟩ = false) (R : World → Prop)
    (hburn : Calls Try.prog 26 #[devp b] (Wm.setCell ⟨b, 4, none⟩ (.int .u64 ((wr : Int) + 1))) fun e w' => e = .returned (.tuple #[]) ∧ R w') :
    Calls Try.prog 10 #[devp b, .int .i64 (i : Int), str s] W fun e w' => e = .returned (.int .i64 0) ∧ R w' := by
  have hf := row_field A k cap
  have hbd := row_build A' k' cap'
  have har := sec_arr (some ⟨W.heap.size, 0, none⟩) cp
  have hld := sec_load Wc W.heap.size 0 s hs hrg
  have hwrap : IntKind.u64.wrap ((wr : Int) + 1) = (wr : Int) + 1 := u64_wrap _ (by omega) (by omega)
  have hu := Try.underlying64
  have hsz : (Try.prog.info? 64).map (·.size) = some (bc s).length := by rw [List.length_map, hs]; kernel_rfl
  go_enter Try.func10, Try.ntmps10
  go_wp2_with fail
  refine (works_any _ _ _ h1).mono ?_
  rintro e w1 ⟨rfl, rfl⟩
  go_wp2_with fail
  refine (has_yes _ _ _ _ _ _ hn hi h2).mono ?_
  rintro e w1 ⟨rfl, rfl⟩
  go_wp2_with fail
  go_region
  go_wp2_with fail
  refine hburn.mono ?_
  rintro e w' ⟨rfl, hR⟩
  go_wp2
  go_ret
  exact ⟨rfl, hR⟩
theorem sec_build (W : World) (s : List UInt8) (hs : s.length = 64) : (secBuild 1 #[(0, .agg (bc s).toArray)]).run Try.prog W = .ok (.slice (some ⟨W.heap.size, 0, none⟩) 1 1) (W.alloc (.cells (bc s).toArray 64)) := by
  obtain ⟨i, hi, hz, hsz, hby⟩ := info_parts secInfo
  refine run_buildSlice W 53 64 1 _ _ i _ Try.underlying53 hi hz (by rw [hsz]; decide) (by rw [hsz]; decide) ?_
  rw [hsz]
  have := Go.Great.fill_whole (s := 64) (by decide) [Value.agg (bc s).toArray] ((Array.range (1 * 64)).map ((Value.agg (Array.replicate 64 (Value.int .u8 0))).cells[· % (Value.agg (Array.replicate 64 (Value.int .u8 0))).cells.size]!)) (by simp [Value.cells, hs]) (by simp)
  simpa [Value.cells] using this
theorem write_any {S : Nat → Prop} {W : World} {b : Nat} {M : Dv} (h : DevAt S W b M) (hd : M.down = false) (hw : M.wr < 1099511627776) (i : Nat) (hi : i < M.n) (s : List UInt8) (hs : s.length = 64) :
    Calls Try.prog 10 #[devp b, .int .i64 (i : Int), str s] W fun e w' => e = .returned (.int .i64 0) ∧ Step S W b (M.write i s) w' := by
  obtain ⟨g, c, m, vals, h⟩ := h
  have h1 := h.head.c1
  rw [hd] at h1
  obtain ⟨A, cap, hlk, hA⟩ := look_row h i hi
  obtain ⟨cp, Wc, hcv, hby, hbc, hszc⟩ := bytes_of_string (P := Try.prog) W.drew 9 47 5 s Try.underlying9 Try.underlying47 Try.underlying5
  rw [hs] at hcv
  have hsW : W.drew.heap.size = W.heap.size := rfl
  rw [hsW] at hcv hby hbc hszc
  have hbel : Below W.heap.size W Wc := ((Below.refl W.heap.size W).drew).trans hbc
  have hrg : Wc.rangeAt W.heap.size 0 (bc s) := fun j v hj => by
    have hj' : j < s.length := by simpa using (List.getElem?_eq_some_iff.1 hj).1
    have := (hby j hj').1
    rw [Nat.zero_add, this]
    rw [List.getElem?_map, List.getElem?_eq_getElem hj'] at hj
    exact hj
  have hbs := sec_build Wc s hs
  obtain ⟨Wb, hWb⟩ : ∃ Wb, Wc.alloc (.cells (bc s).toArray 64) = Wb := ⟨_, rfl⟩
  have hbelb : Below W.heap.size W Wb := by rw [← hWb]; exact hbel.alloc hbel.size _
  have hszb : Wb.heap.size = W.heap.size + 2 := by rw [← hWb]; simp [hszc]
  have hnewr : Wb.rangeAt Wc.heap.size 0 (bc s) := by
    rw [← hWb]
    exact range_row (heap_alloc_new Wc _) (by simp)
  rw [hWb] at hbs
  have hD0 : DevIn S W.drew b g c m vals M := h.kept (Nat.le_refl _) (fun _ _ => rfl)
  have hDc : DevIn S Wc b g c m vals M := h.kept hbel.size (fun k hk => hbel.block k (h.lt k hk))
  have hDb : DevIn S Wb b g c m vals M := h.kept hbelb.size (fun k hk => hbelb.block k (h.lt k hk))
  have hsame : ∀ {W' : World}, DevIn S W' b g c m vals M → (Instr.lookup 54 (.map (some m)) (.int .i64 (i : Int)) false).run Try.prog W' = .ok (.agg #[.slice A (M.row i).length cap]) W' := by
    intro W' hD'
    obtain ⟨A', cap', hl', hA'⟩ := look_row hD' i hi
    rw [hl']
    rcases hA with ⟨_, rfl, rfl⟩ | ⟨hr, hv⟩ <;> rcases hA' with ⟨hr', h2, h3⟩ | ⟨hr', hv'⟩
    · rw [h2, h3]
    · rename_i h0; exact absurd h0 hr'
    · exact absurd hr' hr
    · rw [hv', hv]
  have hv : ((.slice A (M.row i).length cap : Value) = .slice none 0 0 ∧ M.row i = []) ∨ RowAt Wb (.slice A (M.row i).length cap) (M.row i) := by
    rcases hA with ⟨hr, rfl, rfl⟩ | ⟨hr, hv⟩
    · exact .inl ⟨by rw [hr]; rfl, hr⟩
    · exact .inr (by rw [hv]; exact hDb.ro.at_ i hr)
  have hownv : ∀ k, (Value.slice A (M.row i).length cap).ownBlock = some k → M.row i ≠ [] ∧ (vals i).ownBlock = some k := by
    intro k hk
    rcases hA with ⟨hr, rfl, rfl⟩ | ⟨hr, hv⟩
    · cases hk
    · exact ⟨hr, by rw [← hv]; exact hk⟩
  obtain ⟨v', Wa, hap, hrowa, hga, hown'⟩ := run_append_row (P := Try.prog) Try.underlying53 secInfo (by simp [Value.cells]) (ty := 53) Wb _ (M.row i) hv (h.fine.row i) Wc.heap.size 1 s hs hnewr (by have := h.fine.rows i; omega)
  have hrowa' := hrowa
  obtain ⟨g', off', cap', hv', _⟩ := hrowa'
  have hm_own : ∀ k, S k → ¬ Rk M.row vals k → Wa.heap[k]? = Wb.heap[k]? := fun k hk hno =>
    hga.block k (hDb.lt k hk) (fun e => hno ⟨i, (hownv k e.symm).1, (hownv k e.symm).2⟩)
  obtain ⟨Wm, hup, hmapm, hgm⟩ := (hDb.ro.map.kept (hm_own m h.sm h.rm)).store Try.underlying3 Try.underlying54 (by have := h.fine.n; omega) hi (.agg #[v'])
  have hlta : ∀ k, S k → k < Wa.heap.size := fun k hk => Nat.lt_of_lt_of_le (hDb.lt k hk) hga.size
  have hbm : Wm.heap[b]? = Wa.heap[b]? := grown_other hgm (hlta b h.sb) h.bm
  have hba : Wa.heap[b]? = Wb.heap[b]? := hm_own b h.sb h.rb
  have hHa := hDb.head.kept hba
  have hHm := hHa.kept hbm
  have hH4 := hHm.set4 (M.wr + 1)
  have hne' : M.row i ++ [s] ≠ [] := by simp
  obtain ⟨k', hk', hk'lt⟩ := hrowa.own hne'
  have hk'or : (M.row i ≠ [] ∧ (vals i).ownBlock = some k') ∨ Wb.heap.size ≤ k' := by
    rcases hown' with e | ⟨g2, e, hg2⟩
    · exact .inl (hownv k' (e ▸ hk'))
    · rw [hk'] at e; cases e; exact .inr hg2
  have hk'm : k' ≠ m := by
    rintro rfl
    rcases hk'or with h2 | h2
    · exact h.rm ⟨i, h2.1, h2.2⟩
    · have := hDb.lt _ h.sm; omega
  have hk'b : k' ≠ b := by
    rintro rfl
    rcases hk'or with h2 | h2
    · exact h.rb ⟨i, h2.1, h2.2⟩
    · have := hDb.lt _ h.sb; omega
  have hszm : Wb.heap.size ≤ Wm.heap.size := Nat.le_trans hga.size hgm.size
  have hset : ∀ k, k ≠ b → (Wm.setCell ⟨b, 4, none⟩ (.int .u64 ((M.wr + 1 : Nat) : Int))).heap[k]? = Wm.heap[k]? := fun k hk => set_other _ _ _ _ _ hk
  have hD4 := hDb.rows (S' := fun k => S k ∨ k = k') (W' := Wm.setCell ⟨b, 4, none⟩ (.int .u64 ((M.wr + 1 : Nat) : Int))) i hi (M.row i ++ [s]) v' (fun k hk => .inl hk)
    (fun k hk => by
      rw [set_size]
      rcases hk with hk | rfl
      · exact Nat.lt_of_lt_of_le (hlta k hk) hgm.size
      · exact Nat.lt_of_lt_of_le hk'lt hgm.size)
    (fun k hk hb2 hm2 hno => by
      rw [hset k hb2, grown_other hgm (Nat.lt_of_lt_of_le hk hga.size) hm2]
      exact hga.block k hk (fun e => hno (hownv k e.symm).1 (hownv k e.symm).2))
    (by rw [if_neg (by simp)]; exact hmapm.kept (hset m (Ne.symm h.bm)))
    (fun _ => ⟨hrowa.kept fun k hk => by rw [hk'] at hk; cases hk; rw [hset k' hk'b]; exact grown_other hgm hk'lt hk'm, k', hk', .inr rfl, hk'or⟩)
    (fun p hp => by
      rcases List.mem_append.1 hp with hp | hp
      · exact h.fine.row i p hp
      · simp at hp; rw [hp]; exact hs)
    hH4 h.fine.left (by rw [List.length_append]; have := h.fine.rows i; simp; omega) (Nat.le_succ _)
  have hburn := burn_any hD4 hd
  have hcast : ((M.wr + 1 : Nat) : Int) = (M.wr : Int) + 1 := by omega
  rw [hcast] at hburn
  rw [hv'] at hap hup
  refine (write_raw b g c M.n m i M.wr _ _ _ _ A _ s W Wc Wb Wa Wm cp hi h.fine.n hs (by omega) h1 h.head.c2 h.head.c3 hDc.head.c3 hDb.head.c3 hHa.c3 hHm.c3 (hsame hD0) (hsame hDc) (hsame hDb) hcv hrg hbs hap hup hHm.c4 hHm.f4 _ hburn).mono ?_
  rintro e w' ⟨rfl, hDf, hOf⟩
  refine ⟨rfl, fun k => S k ∨ k = k', ⟨g, c, m, _, hDf⟩, ?_, ?_⟩
  · have o1 : Only S W Wb := Only.of_below hbelb
    have o2 : Only S Wb Wa := Only.of_grown hga (fun k e => h.sr k ⟨i, hownv k e⟩)
    have o3 : Only S Wa Wm := Only.of_grown hgm (fun k e => by cases e; exact h.sm)
    have o4 : Only S Wm (Wm.setCell ⟨b, 4, none⟩ (.int .u64 ((M.wr : Int) + 1))) := Only.setCell S Wm ⟨b, 4, none⟩ _ h.sb
    refine ((((o1.trans o2 (fun _ e => .inl e)).trans o3 (fun _ e => .inl e)).trans o4 (fun _ e => .inl e))).trans hOf (fun k e => ?_)
    rcases e with e | rfl
    · exact .inl e
    · rcases hk'or with h2 | h2
      · exact .inl (h.sr _ ⟨i, h2⟩)
      · exact .inr (by omega)
  · intro k e
    rcases e with e | rfl
    · exact .inl e
    · rcases hk'or with h2 | h2
      · exact .inl (h.sr _ ⟨i, h2⟩)
      · exact .inr (by omega)
end Go.Proofs.Ytoogedjeclcdbaa
