import Derived.Test.YtnfiapjdkjbdhaaGreatQ6
import Derived.Stop.RegionWithIn
namespace Go.Proofs.YtnfiapjdkjbdhaaGreat
open Go.RowKit Go.Maps Go.Shelf
set_option linter.unusedVariables false
set_option linter.unusedSimpArgs false
set_option maxRecDepth 10000
attribute [local go_sem] Oper.semAt_some
end Go.Proofs.YtnfiapjdkjbdhaaGreat
/- Layer 4 (journal): a transaction is kept, and read back. -/
namespace Go.Proofs.YtnfiapjdkjbdhaaGreat
open Go.RowKit Go.Maps
set_option linter.unusedVariables false
set_option linter.unusedSimpArgs false
set_option maxRecDepth 10000
theorem grown_of_below' {w w' : World} (h : Below w.heap.size w w') (row : Option Nat) : w.grownBy w' row := ⟨h.os, h.tape, h.output, h.size, fun i hi _ => h.block i hi⟩
end Go.Proofs.YtnfiapjdkjbdhaaGreat
/- Layer 4 (journal): what was kept; a journal is opened. -/
namespace Go.Proofs.YtnfiapjdkjbdhaaGreat
open Go.RowKit Go.Maps
set_option linter.unusedVariables false
set_option linter.unusedSimpArgs false
set_option maxRecDepth 10000
end Go.Proofs.YtnfiapjdkjbdhaaGreat
/- Layer 4 (journal): a journal is opened. -/
namespace Go.Proofs.YtnfiapjdkjbdhaaGreat
open Go.RowKit Go.Maps
set_option linter.unusedVariables false
set_option linter.unusedSimpArgs false
set_option maxRecDepth 10000
def mayB (N : Nat) (F n : Int) : Bool := decide (4 ≤ n) && decide (n ≤ 256) && decide (0 ≤ F) && decide (F ≤ (N : Int) - n)
theorem cells4 {W : World} {jb b F n : Nat} (h : W.heap[jb]? = some (.cells #[devp b, .int .i64 (F : Int), .int .i64 (n : Int), .int .i64 0] 152 (0, 0))) : JAt W jb b F n 0 := by
  refine ⟨?_, ?_, ?_, ?_⟩ <;> (unfold World.cell?; rw [h]; rfl)
set_option maxHeartbeats 1000000 in
/-- Where nothing is to be recovered. -/
theorem jopen_clean {K : Nat → Prop} {W : World} {b : Nat} {M : Dv} (h : Held K W W b M) (F n : Nat) (h4 : 4 ≤ n) (h256 : n ≤ 256) (hF : F + n ≤ M.n) (hdn : M.down = false) (hw : M.wr ≤ 1099511627776) (hp : (hd (M.cur F)).pend = false) :
    Calls Tryz.prog 39 #[devp b, .int .i64 (F : Int), .int .i64 (n : Int)] W fun e w' => ∃ jb, e = .returned (.tuple #[devp jb, .int .i64 0]) ∧ W.heap.size ≤ jb ∧ JAt w' jb b F n 0 ∧ Below W.heap.size W w' ∧ Held (fun k => K k ∨ k = jb) w' w' b M := by
  have hn := h.fine.n
  have HL := Lib.hid (held_len h)
  have hD := held_down h
  rw [hdn] at hD
  have HD := Lib.hid hD
  have HH := Lib.hid h
  clear hD
  -- the journal
  obtain ⟨V, hV⟩ : ∃ V, V = W.alloc (.cells #[devp b, .int .i64 (F : Int), .int .i64 (n : Int), .int .i64 0] 152) := ⟨_, rfl⟩
  have hVb : Below W.heap.size W V := by rw [hV]; exact (Below.refl _ _).alloc (Nat.le_refl _) _
  have hVs : V.heap.size = W.heap.size + 1 := by rw [hV]; simp
  have hjat : JAt V W.heap.size b F n 0 := cells4 (by rw [hV]; exact heap_alloc_new W _)
  have hhead : Calls Tryz.prog 81 #[devp W.heap.size] V fun e w' => e = .returned (hdV (M.headOf F)) ∧ Below V.heap.size V w' := by
    obtain ⟨h1, S, h3, _⟩ := h
    exact head_any W.heap.size F n 0 (h3.below hVb) hjat (by omega) hw
  have hpd : (M.headOf F).pend = false := by unfold Dv.headOf; rw [hdn, if_neg (by simp)]; exact hp
  have HHD := Lib.hid hhead
  have HJ := Lib.hid hjat
  clear h hhead hjat hp hdn
  generalize M.headOf F = x at *
  obtain ⟨g, p, c⟩ := x
  simp only at hpd
  subst hpd
  unfold hdV at HHD
  simp only at HHD
  have hfin : ∀ w', Below V.heap.size V w' → W.heap.size ≤ W.heap.size ∧ JAt w' W.heap.size b F n 0 ∧ Below W.heap.size W w' ∧ Held (fun k => K k ∨ k = W.heap.size) w' w' b M := fun w' hb => by
    have hbw := hVb.trans (hb.mono (by omega))
    exact ⟨Nat.le_refl _, HJ.out.below hb, hbw, HH.out.more hbw fun k hk => by
      rcases hk with hk | hk
      · exact .inl hk
      · have := hb.size; exact .inr (by omega)⟩
  have HF := Lib.hid hfin
  clear hfin
  generalize hN : M.n = N at *
  have e1 : decide ((n : Int) < 4) = false := decide_eq_false (by omega)
  have e2 : decide (256 < (n : Int)) = false := decide_eq_false (by omega)
  have e4 : decide ((N : Int) - (n : Int) < (F : Int)) = false := decide_eq_false (by omega)
  go_enter Tryz.func39, Tryz.ntmps39
  go_wp2_with fail
  refine HL.out.mono ?_
  rintro e w1 ⟨rfl, rfl⟩
  go_wp2_with fail
  refine HD.out.mono ?_
  rintro e w1 ⟨rfl, rfl⟩
  go_wp2_with fail
  rw [← hV]
  clear hV
  refine HHD.out.mono ?_
  rintro e w1 ⟨rfl, hb1⟩
  have hB2 := Lib.hid (hb1.alloc hb1.size (.cells #[.int .u64 (g : Int), .bool false, .int .i64 (c : Int)] 154))
  obtain ⟨x0, x1, x2⟩ := row3 (heap_alloc_new w1 (.cells #[.int .u64 (g : Int), .bool false, .int .i64 (c : Int)] 154))
  go_wp2_with fail
  go_ret2
  exact ⟨_, rfl, HF.out _ hB2.out⟩
end Go.Proofs.YtnfiapjdkjbdhaaGreat
/- Layer 4 (journal): a journal is opened, and something is recovered. -/
namespace Go.Proofs.YtnfiapjdkjbdhaaGreat
open Go.RowKit Go.Maps
set_option linter.unusedVariables false
set_option linter.unusedSimpArgs false
set_option maxRecDepth 10000
end Go.Proofs.YtnfiapjdkjbdhaaGreat
/- Layer 4 (journal): a commit. -/
namespace Go.Proofs.YtnfiapjdkjbdhaaGreat
open Go.RowKit Go.Maps
set_option linter.unusedVariables false
set_option linter.unusedSimpArgs false
set_option maxRecDepth 10000
def stepAppend (args : Array Value) : Sem Value := Builtin.append_ #[160, 160] 160 args
@[go_sem ↓] theorem step_append_fold (args : Array Value) : Builtin.append_ #[160, 160] 160 args = stepAppend args := rfl
end Go.Proofs.YtnfiapjdkjbdhaaGreat
/- Layer 4 (journal): a commit, taken. -/
namespace Go.Proofs.YtnfiapjdkjbdhaaGreat
open Go.RowKit Go.Maps
set_option linter.unusedVariables false
set_option linter.unusedSimpArgs false
set_option maxRecDepth 10000
end Go.Proofs.YtnfiapjdkjbdhaaGreat
/- What a call holds in memory, as a row of things that lie apart: each in blocks of its own; what was there ahead lies as it lay. -/
namespace Go.Proofs.YtnfiapjdkjbdhaaGreat
open Go.RowKit Go.Maps
set_option linter.unusedVariables false
set_option linter.unusedSimpArgs false
set_option maxRecDepth 10000
structure Res where
  at_ : (Nat → Prop) → World → Prop
  lt : ∀ S W, at_ S W → ∀ k, S k → k < W.heap.size
  kept : ∀ S W W', at_ S W → W.heap.size ≤ W'.heap.size → (∀ k, S k → W'.heap[k]? = W.heap[k]?) → at_ S W'
structure SysOn (w W : World) (rs : List Res) (S : Nat → Nat → Prop) : Prop where
  keeps : Keeps (All w) w W
  at_ : ∀ (i : Nat) (r : Res), rs[i]? = some r → r.at_ (S i) W
  new : ∀ i, i < rs.length → ∀ k, S i k → w.heap.size ≤ k
  apart : ∀ i j, i < rs.length → j < rs.length → i ≠ j → ∀ k, S i k → ¬ S j k
def Sys (w W : World) (rs : List Res) : Prop := ∃ S, SysOn w W rs S
theorem idx_lt {α : Type} {rs : List α} {i : Nat} {r : α} (h : rs[i]? = some r) : i < rs.length := (List.getElem?_eq_some_iff.1 h).1
section
variable {w W : World} {rs : List Res} {S : Nat → Nat → Prop}
theorem SysOn.lt (h : SysOn w W rs S) {i : Nat} (hi : i < rs.length) (k : Nat) (hk : S i k) : k < W.heap.size :=
  rs[i].lt _ _ (h.at_ i _ (List.getElem?_eq_getElem hi)) k hk
theorem SysOn.below (h : SysOn w W rs S) {W' : World} (hb : Below W.heap.size W W') : SysOn w W' rs S :=
  ⟨h.keeps.below hb, fun i r hi => r.kept _ _ _ (h.at_ i r hi) hb.size fun k hk => hb.block k (h.lt (idx_lt hi) k hk), h.new, h.apart⟩
theorem SysOn.set (h : SysOn w W rs S) {i : Nat} {r r' : Res} (hi : rs[i]? = some r) {W' : World} {S' : Nat → Prop} (ho : Only (S i) W W') (hr : r'.at_ S' W') (hs : ∀ k, S' k → S i k ∨ W.heap.size ≤ k) : SysOn w W' (rs.set i r') (upd S i S') := by
  have hil := idx_lt hi
  have hlen : (rs.set i r').length = rs.length := List.length_set
  refine ⟨h.keeps.only ho fun k hk hK => ?_, fun j q hj => ?_, fun j hj k hk => ?_, fun a c ha hc hne k hk hk2 => ?_⟩
  · have := h.new i hil k hk
    have : k < w.heap.size := hK
    omega
  · by_cases e : j = i
    · subst e
      rw [List.getElem?_set_self hil] at hj
      cases hj
      rw [upd_same]
      exact hr
    · rw [List.getElem?_set_ne (fun h => e h.symm)] at hj
      rw [upd_other _ _ e]
      exact q.kept _ _ _ (h.at_ j q hj) ho.size fun k hk => ho.block k (h.lt (idx_lt hj) k hk) (h.apart j i (idx_lt hj) hil e k hk)
  · rw [hlen] at hj
    by_cases e : j = i
    · subst e
      rw [upd_same] at hk
      rcases hs k hk with h1 | h1
      · exact h.new j hj k h1
      · exact Nat.le_trans h.keeps.size h1
    · rw [upd_other _ _ e] at hk
      exact h.new j hj k hk
  · rw [hlen] at ha hc
    by_cases e : a = i
    · subst e
      rw [upd_same] at hk
      rw [upd_other _ _ (fun h => hne h.symm)] at hk2
      rcases hs k hk with h1 | h1
      · exact h.apart a c ha hc hne k h1 hk2
      · have := h.lt hc k hk2; omega
    · rw [upd_other _ _ e] at hk
      by_cases e2 : c = i
      · subst e2
        rw [upd_same] at hk2
        rcases hs k hk2 with h1 | h1
        · exact h.apart a c ha hc hne k hk h1
        · have := h.lt ha k hk; omega
      · rw [upd_other _ _ e2] at hk2
        exact h.apart a c ha hc hne k hk hk2
theorem SysOn.push (h : SysOn w W rs S) {q : Res} {T : Nat → Prop} (hq : q.at_ T W) (hn : ∀ k, T k → w.heap.size ≤ k) (hd : ∀ i, i < rs.length → ∀ k, S i k → ¬ T k) : SysOn w W (rs ++ [q]) (upd S rs.length T) := by
  have hlen : (rs ++ [q]).length = rs.length + 1 := by simp
  refine ⟨h.keeps, fun j r hj => ?_, fun j hj k hk => ?_, fun a c ha hc hne k hk hk2 => ?_⟩
  · by_cases e : j = rs.length
    · subst e
      rw [List.getElem?_append_right (Nat.le_refl _), Nat.sub_self] at hj
      cases hj
      rw [upd_same]
      exact hq
    · have hjl := idx_lt hj
      rw [hlen] at hjl
      rw [List.getElem?_append_left (by omega)] at hj
      rw [upd_other _ _ e]
      exact h.at_ j r hj
  · rw [hlen] at hj
    by_cases e : j = rs.length
    · subst e
      rw [upd_same] at hk
      exact hn k hk
    · rw [upd_other _ _ e] at hk
      exact h.new j (by omega) k hk
  · rw [hlen] at ha hc
    by_cases e : a = rs.length
    · subst e
      rw [upd_same] at hk
      rw [upd_other _ _ (fun h => hne h.symm)] at hk2
      exact hd c (by omega) k hk2 hk
    · rw [upd_other _ _ e] at hk
      by_cases e2 : c = rs.length
      · subst e2
        rw [upd_same] at hk2
        exact hd a (by omega) k hk hk2
      · rw [upd_other _ _ e2] at hk2
        exact h.apart a c (by omega) (by omega) hne k hk hk2
theorem Sys.start (w : World) : Sys w w [] := ⟨fun _ _ => False, Keeps.start w, fun i r h => by simp at h, fun i h => by simp at h, fun i j h => by simp at h⟩
theorem Sys.keeps (h : Sys w W rs) : Keeps (All w) w W := by obtain ⟨S, h⟩ := h; exact h.keeps
theorem Sys.all (h : Sys w W rs) : Below w.heap.size w W := h.keeps.all
theorem Sys.below (h : Sys w W rs) {W' : World} (hb : Below W.heap.size W W') : Sys w W' rs := by
  obtain ⟨S, h⟩ := h
  exact ⟨S, h.below hb⟩
theorem Sys.push (h : Sys w W rs) {W' : World} (hb : Below W.heap.size W W') {q : Res} {T : Nat → Prop} (hq : q.at_ T W') (hn : ∀ k, T k → W.heap.size ≤ k) : Sys w W' (rs ++ [q]) := by
  obtain ⟨S, h⟩ := h
  refine ⟨_, (h.below hb).push hq (fun k hk => Nat.le_trans h.keeps.size (hn k hk)) fun i hi k hk hT => ?_⟩
  have := h.lt hi k hk
  have := hn k hT
  omega
theorem Sys.take (h : Sys w W rs) (m : Nat) : Sys w W (rs.take m) := by
  obtain ⟨S, h⟩ := h
  have hlen : (rs.take m).length ≤ rs.length := by rw [List.length_take]; omega
  exact ⟨S, h.keeps, fun i r hi => h.at_ i r (by rw [List.getElem?_take] at hi; split at hi; exact hi; cases hi), fun i hi => h.new i (by omega), fun i j hi hj => h.apart i j (by omega) (by omega)⟩
theorem Sys.use (h : Sys w W rs) {i : Nat} {r : Res} (hi : rs[i]? = some r) : ∃ S, r.at_ S W ∧ (∀ k, S k → w.heap.size ≤ k) ∧ (∀ j q, j ≠ i → rs[j]? = some q → ∃ T, q.at_ T W ∧ ∀ k, T k → ¬ S k) ∧
    (∀ W' r' S', Only S W W' → r'.at_ S' W' → (∀ k, S' k → S k ∨ W.heap.size ≤ k) → Sys w W' (rs.set i r')) ∧
    ∀ W' r' S' q T, Only S W W' → r'.at_ S' W' → (∀ k, S' k → S k ∨ W.heap.size ≤ k) → q.at_ T W' → (∀ k, T k → W.heap.size ≤ k) → (∀ k, S' k → ¬ T k) → Sys w W' (rs.set i r' ++ [q]) := by
  obtain ⟨S, h⟩ := h
  have hil := idx_lt hi
  refine ⟨S i, h.at_ i r hi, h.new i hil, fun j q hj hq => ⟨S j, h.at_ j q hq, h.apart j i (idx_lt hq) hil hj⟩, fun W' r' S' ho hr hs => ⟨_, h.set hi ho hr hs⟩, fun W' r' S' q T ho hr hs hq hT hd => ?_⟩
  refine ⟨_, (h.set hi ho hr hs).push hq (fun k hk => Nat.le_trans h.keeps.size (hT k hk)) fun j hj k hk hTk => ?_⟩
  rw [List.length_set] at hj
  by_cases e : j = i
  · subst e
    rw [upd_same] at hk
    exact hd k hk hTk
  · rw [upd_other _ _ e] at hk
    have := h.lt hj k hk
    have := hT k hTk
    omega
end
/-! Things that are read only. -/
def memR (own : Nat → Prop) (p : World → Prop) (hp : ∀ W W', p W → (∀ k, own k → W'.heap[k]? = W.heap[k]?) → p W') : Res where
  at_ S W := (∀ k, S k ↔ own k) ∧ (∀ k, S k → k < W.heap.size) ∧ p W
  lt S W h := h.2.1
  kept S W W' h hs hb := ⟨h.1, fun k hk => Nat.lt_of_lt_of_le (h.2.1 k hk) hs, hp W W' h.2.2 fun k hk => hb k ((h.1 k).2 hk)⟩
section
variable {w W : World} {rs : List Res} {own : Nat → Prop} {p : World → Prop} {hp : ∀ W W', p W → (∀ k, own k → W'.heap[k]? = W.heap[k]?) → p W'}
theorem Sys.mem (h : Sys w W rs) {i : Nat} (hi : rs[i]? = some (memR own p hp)) : p W := by
  obtain ⟨S, h1, _⟩ := h.use hi
  exact h1.2.2
theorem Sys.addMem (h : Sys w W rs) {W' : World} (hb : Below W.heap.size W W') (hp' : p W') (hn : ∀ k, own k → W.heap.size ≤ k ∧ k < W'.heap.size) : Sys w W' (rs ++ [memR own p hp]) :=
  h.push hb (T := own) ⟨fun k => Iff.rfl, fun k hk => (hn k hk).2, hp'⟩ fun k hk => (hn k hk).1
end
def devR (b : Nat) (M : Dv) : Res := ⟨fun S W => DevAt S W b M, fun S W h => h.lt, fun S W W' h => h.kept⟩
def jourR (jb b F n rec : Nat) : Res := memR (fun k => k = jb) (fun W => JAt W jb b F n rec) fun W W' h hb => h.kept (hb jb rfl)
theorem Sys.dev {w W : World} {rs : List Res} (h : Sys w W rs) {i b : Nat} {M : Dv} (hi : rs[i]? = some (devR b M)) :
    ∃ K, Held K W W b M ∧ (∀ k, k < w.heap.size → K k) ∧ (∀ j own p hp, j ≠ i → rs[j]? = some (memR own p hp) → p W ∧ ∀ k, own k → K k) ∧ (∀ W' N, Held K W W' b N → Sys w W' (rs.set i (devR b N))) ∧
      ∀ W' N q jb, Keeps K W W' → Held (fun k => K k ∨ k = jb) W' W' b N → q.at_ (fun k => k = jb) W' → W.heap.size ≤ jb → Sys w W' (rs.set i (devR b N) ++ [q]) := by
  obtain ⟨S, h1, h2, h3, h4, h5⟩ := h.use hi
  have h1' : DevAt S W b M := h1
  have hon : ∀ W', Keeps (fun k => k < W.heap.size ∧ ¬ S k) W W' → Only S W W' := fun W' hk => ⟨hk.os, hk.tape, hk.output, hk.size, fun k hkl hS => hk.same k ⟨hkl, hS⟩⟩
  have hsub : ∀ S' : Nat → Prop, (∀ k, S' k → ¬ (k < W.heap.size ∧ ¬ S k)) → ∀ k, S' k → S k ∨ W.heap.size ≤ k := fun S' hh k hk => by
    by_cases e : S k
    · exact .inl e
    · exact .inr (Nat.le_of_not_lt fun hlt => hh k hk ⟨hlt, e⟩)
  refine ⟨fun k => k < W.heap.size ∧ ¬ S k, ⟨.refl fun k hk => hk.1, S, h1', fun k hk hK => hK.2 hk⟩, fun k hk => ⟨Nat.lt_of_lt_of_le hk h.keeps.size, fun hS => by have := h2 k hS; omega⟩, fun j own p hp hj hq => ?_, fun W' N hH => ?_, fun W' N q jb hk hH hq hjb => ?_⟩
  · obtain ⟨T, hT, hd⟩ := h3 j _ hj hq
    exact ⟨hT.2.2, fun k hk => ⟨hT.2.1 k ((hT.1 k).2 hk), hd k ((hT.1 k).2 hk)⟩⟩
  · obtain ⟨hk, S', hS', hn⟩ := hH
    exact h4 W' (devR b N) S' (hon W' hk) hS' (hsub S' hn)
  · obtain ⟨_, S', hS', hn⟩ := hH
    exact h5 W' (devR b N) S' q _ (hon W' hk) hS' (hsub S' fun k hkS hK => hn k hkS (.inl hK)) hq (fun k hk => by rw [hk]; exact hjb) fun k hkS hkj => hn k hkS (.inr hkj)
end Go.Proofs.YtnfiapjdkjbdhaaGreat
/- Layer 8 (tx): what was written, as mathematics: pairs of a sector and its contents, by sectors rising. -/
namespace Go.Proofs.YtnfiapjdkjbdhaaGreat
open Go.RowKit Go.Maps
set_option linter.unusedVariables false
set_option linter.unusedSimpArgs false
set_option maxRecDepth 10000
def asc (L : PutL) : Prop := (L.map (·.1)).Pairwise (· < ·)
def look : PutL → Nat → Option (List UInt8)
  | [], _ => none
  | p :: r, i => if p.1 = i then some p.2 else look r i
def ins : PutL → Nat → List UInt8 → PutL
  | [], i, d => [(i, d)]
  | p :: r, i, d => if p.1 < i then p :: ins r i d else if p.1 = i then (i, d) :: r else (i, d) :: p :: r
theorem asc_nil : asc [] := List.Pairwise.nil
theorem asc_cons {p : Nat × List UInt8} {r : PutL} : asc (p :: r) ↔ (∀ q ∈ r, p.1 < q.1) ∧ asc r := by
  unfold asc
  rw [List.map_cons, List.pairwise_cons]
  constructor
  · rintro ⟨h1, h2⟩
    exact ⟨fun q hq => h1 _ (List.mem_map_of_mem hq), h2⟩
  · rintro ⟨h1, h2⟩
    refine ⟨fun a ha => ?_, h2⟩
    obtain ⟨q, hq, rfl⟩ := List.mem_map.1 ha
    exact h1 q hq
theorem look_none {L : PutL} {i : Nat} (h : ∀ p ∈ L, p.1 ≠ i) : look L i = none := by
  induction L with
  | nil => rfl
  | cons p r ih =>
    unfold look
    rw [if_neg (h p (by simp)), ih fun q hq => h q (by simp [hq])]
theorem look_mem {L : PutL} {i : Nat} {d : List UInt8} (h : look L i = some d) : (i, d) ∈ L := by
  induction L with
  | nil => cases h
  | cons p r ih =>
    unfold look at h
    split at h
    · rename_i e
      cases h
      subst e
      simp
    · exact List.mem_cons_of_mem _ (ih h)
theorem look_of {L : PutL} (hL : asc L) {p : Nat × List UInt8} (h : p ∈ L) : look L p.1 = some p.2 := by
  induction L with
  | nil => cases h
  | cons q r ih =>
    obtain ⟨h1, h2⟩ := asc_cons.1 hL
    unfold look
    rcases List.mem_cons.1 h with rfl | h
    · rw [if_pos rfl]
    · have := h1 p h
      rw [if_neg (by omega), ih h2 h]
theorem ins_mem {L : PutL} {i : Nat} {d : List UInt8} {p : Nat × List UInt8} (h : p ∈ ins L i d) : p = (i, d) ∨ p ∈ L := by
  induction L with
  | nil => exact .inl (List.mem_singleton.1 h)
  | cons q r ih =>
    unfold ins at h
    split at h
    · rcases List.mem_cons.1 h with rfl | h
      · exact .inr (by simp)
      · rcases ih h with h | h
        · exact .inl h
        · exact .inr (List.mem_cons_of_mem _ h)
    · split at h
      · rcases List.mem_cons.1 h with rfl | h
        · exact .inl rfl
        · exact .inr (List.mem_cons_of_mem _ h)
      · rcases List.mem_cons.1 h with rfl | h
        · exact .inl rfl
        · exact .inr h
theorem asc_ins {L : PutL} (hL : asc L) (i : Nat) (d : List UInt8) : asc (ins L i d) := by
  induction L with
  | nil => exact asc_cons.2 ⟨fun q hq => by simp at hq, asc_nil⟩
  | cons p r ih =>
    obtain ⟨h1, h2⟩ := asc_cons.1 hL
    unfold ins
    split
    · rename_i h
      refine asc_cons.2 ⟨fun q hq => ?_, ih h2⟩
      rcases ins_mem hq with rfl | hq
      · exact h
      · exact h1 q hq
    · split
      · rename_i h h3
        subst h3
        exact asc_cons.2 ⟨h1, h2⟩
      · refine asc_cons.2 ⟨fun q hq => ?_, hL⟩
        show i < q.1
        rcases List.mem_cons.1 hq with rfl | hq
        · omega
        · have := h1 q hq; omega
theorem look_ins (L : PutL) (i : Nat) (d : List UInt8) : look (ins L i d) = upd (look L) i (some d) := by
  funext j
  induction L with
  | nil =>
    unfold upd ins look look
    by_cases e : j = i
    · subst e; simp
    · rw [if_neg e, if_neg (fun h => e h.symm)]
  | cons p r ih =>
    unfold upd at ih ⊢
    unfold ins
    split
    · rename_i h
      unfold look
      rw [ih]
      by_cases e : j = i
      · subst e; rw [if_neg (by omega), if_pos rfl]; simp
      · rw [if_neg e, if_neg e]
    · split
      · rename_i h h3
        subst h3
        unfold look
        by_cases e : j = p.1
        · subst e; simp
        · rw [if_neg e, if_neg (fun h => e h.symm), if_neg (fun h => e h.symm)]
      · rename_i h h3
        show (if i = j then some d else look (p :: r) j) = _
        by_cases e : j = i
        · subst e; simp
        · rw [if_neg e, if_neg (fun h => e h.symm)]
theorem ins_length {L : PutL} (hL : asc L) (i : Nat) (d : List UInt8) : (ins L i d).length = if (look L i).isSome then L.length else L.length + 1 := by
  induction L with
  | nil => rfl
  | cons p r ih =>
    obtain ⟨h1, h2⟩ := asc_cons.1 hL
    unfold ins
    split
    · rename_i h
      have e : look (p :: r) i = look r i := by show (if p.1 = i then _ else _) = _; rw [if_neg (by omega)]
      rw [List.length_cons, ih h2, e, List.length_cons]
      split <;> rfl
    · split
      · rename_i h h3
        have : look (p :: r) i = some p.2 := by unfold look; rw [if_pos h3]
        rw [this]
        rfl
      · rename_i h h3
        have : look (p :: r) i = none := look_none fun q hq => by
          rcases List.mem_cons.1 hq with rfl | hq
          · exact h3
          · have := h1 q hq; omega
        rw [this]
        rfl
theorem asc_eq : ∀ {a b : List Nat}, a.Pairwise (· < ·) → b.Pairwise (· < ·) → (∀ x, x ∈ a ↔ x ∈ b) → a = b
  | [], [], _, _, _ => rfl
  | [], y :: s, _, _, h => by have := (h y).2 (by simp); simp at this
  | x :: r, [], _, _, h => by have := (h x).1 (by simp); simp at this
  | x :: r, y :: s, ha, hb, h => by
    obtain ⟨h1, h2⟩ := List.pairwise_cons.1 ha
    obtain ⟨h3, h4⟩ := List.pairwise_cons.1 hb
    have hxy : x = y := by
      have hx := (h x).1 (by simp)
      have hy := (h y).2 (by simp)
      rcases List.mem_cons.1 hx with e | e
      · exact e
      · rcases List.mem_cons.1 hy with e2 | e2
        · exact e2.symm
        · have := h3 x e; have := h1 y e2; omega
    subst hxy
    refine congrArg _ (asc_eq h2 h4 fun z => ⟨fun hz => ?_, fun hz => ?_⟩)
    · have hlt := h1 z hz
      rcases List.mem_cons.1 ((h z).1 (List.mem_cons_of_mem _ hz)) with e | e
      · omega
      · exact e
    · have hlt := h3 z hz
      rcases List.mem_cons.1 ((h z).2 (List.mem_cons_of_mem _ hz)) with e | e
      · omega
      · exact e
theorem keys_look {L : PutL} (hL : asc L) {n : Nat} (hn : ∀ p ∈ L, p.1 < n) (f : Nat → Option Value) (hf : ∀ i, (f i).isSome = (look L i).isSome) : keysOf n f = L.map (·.1) := by
  refine asc_eq ((List.pairwise_lt_range).filter _) hL fun x => ?_
  unfold keysOf
  rw [List.mem_filter, List.mem_range, hf, List.mem_map]
  constructor
  · rintro ⟨h1, h2⟩
    obtain ⟨d, hd⟩ := Option.isSome_iff_exists.1 h2
    exact ⟨_, look_mem hd, rfl⟩
  · rintro ⟨p, hp, rfl⟩
    exact ⟨hn p hp, by rw [look_of hL hp]; rfl⟩
theorem ok_ins {L : PutL} {n i : Nat} {d : List UInt8} (h : PutsOk n L) (hi : i < n) (hd : d.length = 64) : PutsOk n (ins L i d) := by
  intro p hp
  rcases ins_mem hp with rfl | hp
  · exact ⟨hi, hd⟩
  · exact h p hp
end Go.Proofs.YtnfiapjdkjbdhaaGreat
/- Layer 8 (tx): a transaction in memory; what is refused. -/
namespace Go.Proofs.YtnfiapjdkjbdhaaGreat
open Go.RowKit Go.Maps
set_option linter.unusedVariables false
set_option linter.unusedSimpArgs false
set_option maxRecDepth 10000
def putX (i : Nat) (d : List UInt8) : Value := .agg #[.int .i64 (i : Int), str d]
def txE (L : PutL) (i : Nat) : Option Value := (look L i).map (putX i)
theorem txE_isSome (L : PutL) (i : Nat) : (txE L i).isSome = (look L i).isSome := by unfold txE; cases look L i <;> rfl
theorem txE_ins (L : PutL) (i : Nat) (d : List UInt8) : txE (ins L i d) = upd (txE L) i (some (putX i d)) := by
  funext j
  unfold txE
  rw [look_ins]
  unfold upd
  by_cases e : j = i
  · subst e; simp
  · rw [if_neg e, if_neg e]
structure TxIn (W : World) (tb b jb m n : Nat) (L : PutL) : Prop where
  c0 : W.cell? ⟨tb, 0, none⟩ = some (devp b)
  c1 : W.cell? ⟨tb, 1, none⟩ = some (devp jb)
  c2 : W.cell? ⟨tb, 2, none⟩ = some (.map (some m))
  c3 : W.cell? ⟨tb, 3, none⟩ = some (.bool false)
  f2 : W.frozen? ⟨tb, 2, none⟩ = false
  f3 : W.frozen? ⟨tb, 3, none⟩ = false
  map : IMap Tryz.prog 3 W m n (txE L)
  asc : asc L
  ok : PutsOk n L
  small : n ≤ 4096
  ne : tb ≠ m
theorem TxIn.kept {W W' : World} {tb b jb m n : Nat} {L : PutL} (h : TxIn W tb b jb m n L) (h1 : W'.heap[tb]? = W.heap[tb]?) (h2 : W'.heap[m]? = W.heap[m]?) : TxIn W' tb b jb m n L :=
  { h with
    c0 := (cell_same 0 h1).trans h.c0
    c1 := (cell_same 1 h1).trans h.c1
    c2 := (cell_same 2 h1).trans h.c2
    c3 := (cell_same 3 h1).trans h.c3
    f2 := (World.frozen?_of_block (a := ⟨tb, 2, none⟩) h1).trans h.f2
    f3 := (World.frozen?_of_block (a := ⟨tb, 3, none⟩) h1).trans h.f3
    map := h.map.kept h2 }
theorem TxIn.lt {W : World} {tb b jb m n : Nat} {L : PutL} (h : TxIn W tb b jb m n L) : tb < W.heap.size ∧ m < W.heap.size := ⟨World.block_lt_of_cell? W _ h.c0, h.map.lt⟩
theorem TxIn.below {W W' : World} {tb b jb m n : Nat} {L : PutL} (h : TxIn W tb b jb m n L) (hb : Below W.heap.size W W') : TxIn W' tb b jb m n L :=
  h.kept (hb.block tb h.lt.1) (hb.block m h.lt.2)
def txR (tb b jb n : Nat) (L : PutL) : Res where
  at_ S W := ∃ m, TxIn W tb b jb m n L ∧ ∀ k, S k ↔ k = tb ∨ k = m
  lt S W h k hk := by
    obtain ⟨m, h1, h2⟩ := h
    rcases (h2 k).1 hk with rfl | rfl
    · exact h1.lt.1
    · exact h1.lt.2
  kept S W W' h hs hb := by
    obtain ⟨m, h1, h2⟩ := h
    exact ⟨m, h1.kept (hb tb ((h2 tb).2 (.inl rfl))) (hb m ((h2 m).2 (.inr rfl))), h2⟩
/-! What is refused. -/
theorem over_any (tb : Nat) (d : Bool) (W : World) (h : W.cell? ⟨tb, 3, none⟩ = some (.bool d)) : Calls Tryz.prog 57 #[devp tb] W fun e w' => e = .returned (.int .i64 (if d then 80 else 0)) ∧ W = w' := by
  cases d
  all_goals
    go_enter Tryz.func57, Tryz.ntmps57
    go_wp2
    go_ret
    exact ⟨rfl, rfl⟩
section
variable (tb b N : Nat) (W : World) (h3 : W.cell? ⟨tb, 3, none⟩ = some (.bool false)) (h0 : W.cell? ⟨tb, 0, none⟩ = some (devp b))
  (hlen : Calls Tryz.prog 74 #[devp b] W fun e w' => e = .returned (.int .i64 (N : Int)) ∧ W = w')
include h3 h0 hlen
theorem refusal_out (i : Int) (v : Value) (hi : i < 0 ∨ (N : Int) ≤ i) : Calls Tryz.prog 95 #[devp tb, .int .i64 i, v] W fun e w' => e = .returned (.int .i64 2) ∧ W = w' := by
  have HL := Lib.hid hlen
  clear hlen
  by_cases h : i < 0
  · have hd : decide (i < 0) = true := decide_eq_true h
    go_enter Tryz.func95, Tryz.ntmps95
    go_wp2_with fail
    refine (over_any tb false W h3).mono ?_
    rintro e w1 ⟨rfl, rfl⟩
    go_wp2_with fail
    go_ret
    exact ⟨rfl, rfl⟩
  · have hd : decide (i < 0) = false := decide_eq_false h
    have hd2 : decide ((N : Int) ≤ i) = true := decide_eq_true (by omega)
    clear hi
    go_enter Tryz.func95, Tryz.ntmps95
    go_wp2_with fail
    refine (over_any tb false W h3).mono ?_
    rintro e w1 ⟨rfl, rfl⟩
    go_wp2_with fail
    refine HL.out.mono ?_
    rintro e w1 ⟨rfl, rfl⟩
    go_wp2_with fail
    go_ret
    exact ⟨rfl, rfl⟩
theorem refusal_read (i : Nat) (hi : i < N) : Calls Tryz.prog 95 #[devp tb, .int .i64 (i : Int), .func (.func 132) #[] #[]] W fun e w' => e = .returned (.int .i64 0) ∧ W = w' := by
  have HL := Lib.hid hlen
  clear hlen
  have hd : decide ((i : Int) < 0) = false := decide_eq_false (by omega)
  have hd2 : decide ((N : Int) ≤ (i : Int)) = false := decide_eq_false (by omega)
  have hm : Calls Tryz.prog 132 #[] W fun e w' => e = .returned (.bool true) ∧ W = w' := by
    go_enter Tryz.func132, Tryz.ntmps132
    go_wp2
    go_ret
    exact ⟨rfl, rfl⟩
  have HM := Lib.hid hm
  clear hm
  go_enter Tryz.func95, Tryz.ntmps95
  go_wp2_with fail
  refine (over_any tb false W h3).mono ?_
  rintro e w1 ⟨rfl, rfl⟩
  go_wp2_with fail
  refine HL.out.mono ?_
  rintro e w1 ⟨rfl, rfl⟩
  go_wp2_with fail
  refine HM.out.mono ?_
  rintro e w1 ⟨rfl, rfl⟩
  go_wp2_with fail
  go_ret
  exact ⟨rfl, rfl⟩
theorem refusal_write (i p : Nat) (s : List UInt8) (r : Bool) (hi : i < N) (hp : W.cell? ⟨p, 0, none⟩ = some (str s)) (hr : ((s.length : Int) == 64) = r) :
    Calls Tryz.prog 95 #[devp tb, .int .i64 (i : Int), .func (.func 104) #[] #[.pointer (some ⟨p, 0, none⟩)]] W fun e w' => e = .returned (.int .i64 (if r then 0 else 2)) ∧ W = w' := by
  have HL := Lib.hid hlen
  clear hlen
  have hd : decide ((i : Int) < 0) = false := decide_eq_false (by omega)
  have hd2 : decide ((N : Int) ≤ (i : Int)) = false := decide_eq_false (by omega)
  have hm : Calls Tryz.prog 104 #[.pointer (some ⟨p, 0, none⟩)] W fun e w' => e = .returned (.bool r) ∧ W = w' := by
    go_enter Tryz.func104, Tryz.ntmps104
    go_wp2
    go_ret
    exact ⟨rfl, rfl⟩
  have HM := Lib.hid hm
  clear hm
  cases r
  all_goals
    go_enter Tryz.func95, Tryz.ntmps95
    go_wp2_with fail
    refine (over_any tb false W h3).mono ?_
    rintro e w1 ⟨rfl, rfl⟩
    go_wp2_with fail
    refine HL.out.mono ?_
    rintro e w1 ⟨rfl, rfl⟩
    go_wp2_with fail
    refine HM.out.mono ?_
    rintro e w1 ⟨rfl, rfl⟩
    go_wp2_with fail
    go_ret
    exact ⟨rfl, rfl⟩
theorem refusal_patch (i p q : Nat) (f : Int) (s : List UInt8) (r : Bool) (hi : i < N) (hp : W.cell? ⟨p, 0, none⟩ = some (.int .i64 f)) (hq : W.cell? ⟨q, 0, none⟩ = some (str s)) (hs : s.length ≤ 140737488351232) (hr : (decide (0 ≤ f) && decide (f ≤ 64 - (s.length : Int))) = r) :
    Calls Tryz.prog 95 #[devp tb, .int .i64 (i : Int), .func (.func 96) #[] #[.pointer (some ⟨p, 0, none⟩), .pointer (some ⟨q, 0, none⟩)]] W fun e w' => e = .returned (.int .i64 (if r then 0 else 2)) ∧ W = w' := by
  have HL := Lib.hid hlen
  clear hlen
  have hd : decide ((i : Int) < 0) = false := decide_eq_false (by omega)
  have hd2 : decide ((N : Int) ≤ (i : Int)) = false := decide_eq_false (by omega)
  have hm : Calls Tryz.prog 96 #[.pointer (some ⟨p, 0, none⟩), .pointer (some ⟨q, 0, none⟩)] W fun e w' => e = .returned (.bool r) ∧ W = w' := by
    by_cases h1 : 0 ≤ f
    · have e1 : decide (0 ≤ f) = true := decide_eq_true h1
      rw [e1, Bool.true_and] at hr
      go_enter Tryz.func96, Tryz.ntmps96
      go_wp2
      go_ret
      exact ⟨rfl, rfl⟩
    · have e1 : decide (0 ≤ f) = false := decide_eq_false h1
      rw [e1, Bool.false_and] at hr
      subst hr
      go_enter Tryz.func96, Tryz.ntmps96
      go_wp2
      go_ret
      exact ⟨rfl, rfl⟩
  have HM := Lib.hid hm
  clear hm
  cases r
  all_goals
    go_enter Tryz.func95, Tryz.ntmps95
    go_wp2_with fail
    refine (over_any tb false W h3).mono ?_
    rintro e w1 ⟨rfl, rfl⟩
    go_wp2_with fail
    refine HL.out.mono ?_
    rintro e w1 ⟨rfl, rfl⟩
    go_wp2_with fail
    refine HM.out.mono ?_
    rintro e w1 ⟨rfl, rfl⟩
    go_wp2_with fail
    go_ret
    exact ⟨rfl, rfl⟩
end
/-! Begin, and the end. -/
theorem begin_any (b jb n : Nat) (hn : n ≤ 4096) (W : World) : Calls Tryz.prog 22 #[devp b, devp jb] W fun e w' => e = .returned (.tuple #[devp (W.heap.size + 1), .int .i64 0]) ∧ Below W.heap.size W w' ∧ TxIn w' (W.heap.size + 1) b jb W.heap.size n [] := by
  have hmm := @run_makeMap Tryz.prog
  go_enter Tryz.func22, Tryz.ntmps22
  go_wp2_with fail
  go_ret2
  have hnew := heap_alloc_new (W.alloc (.map #[] 0)) (.cells #[devp b, devp jb, .map (some W.heap.size), .bool false] 113)
  have hs1 : (W.alloc (.map #[] 0)).heap.size = W.heap.size + 1 := by simp
  rw [hs1] at hnew
  refine ⟨by simp [devp], ((Below.refl _ W).alloc (Nat.le_refl _) _).alloc (by simp) _, ?_⟩
  refine ⟨cell_of_row _ _ 0 _ _ _ hnew, cell_of_row _ _ 1 _ _ _ hnew, cell_of_row _ _ 2 _ _ _ hnew, cell_of_row _ _ 3 _ _ _ hnew, frozen_of_row _ _ 2 _ _ hnew, frozen_of_row _ _ 3 _ _ hnew, ?_, asc_nil, fun p hp => by simp at hp, hn, by omega⟩
  have h1 := (IMap.made W Tryz.prog 3 n).congr (g := txE []) fun i _ => rfl
  exact h1.kept (Below.heap_alloc _ _ _ (by simp))
end Go.Proofs.YtnfiapjdkjbdhaaGreat
namespace Go.Proofs.YtnfiapjdkjbdhaaGreat
open Go.RowKit Go.Maps Go.Sort
set_option linter.unusedVariables false
set_option linter.unusedSimpArgs false
set_option maxRecDepth 10000
theorem IMap.len {P : Program} {t k e : TypeId} {W : World} {m n : Nat} {f : Nat → Option Value} (h : IMap P k W m n f) (hk : P.underlying k = some (.int .i64)) (ht : P.underlying t = some (.map k e)) (ty : TypeId) :
    (Builtin.len_ #[t] ty #[.map (some m)]).run P W = .ok (.int .i64 ((keysOf n f).length : Int)) W := by
  obtain ⟨D, h1, h2, h3⟩ := h
  rw [h1.len ht ty]
  have hs := sorted_keys h1 hk h2 (List.Perm.refl (intKeys D))
  have hl := congrArg List.length hs
  rw [List.length_mergeSort, List.length_map] at hl
  obtain ⟨es, rfl, -⟩ := h1.tidy (int_keyed hk)
  have : (intKeys (DataW.map es)).length = es.length := by show (es.map _).length = _; rw [List.length_map]
  rw [← hl, this]
  rfl
theorem zeroPut (W : World) : (zeroValue 117).run Tryz.prog W = .ok (.agg #[.int .i64 0, str []]) W := by kernel_rfl
structure TxOn (W : World) (tb b jb m : Nat) (M : Dv) (L : PutL) (F n rec : Nat) : Prop where
  tx : TxIn W tb b jb m M.n L
  dev : ∃ S, DevAt S W b M
  j : JAt W jb b F n rec
  up : M.down = false
  wr : M.wr ≤ 1099511627776
  h4 : 4 ≤ n
  h256 : n ≤ 256
  cap : L.length ≤ capL n
section
variable {W : World} {tb b jb m F n rec : Nat} {M : Dv} {L : PutL}
theorem TxOn.below (h : TxOn W tb b jb m M L F n rec) {W' : World} (hb : Below W.heap.size W W') : TxOn W' tb b jb m M L F n rec := by
  obtain ⟨S, hS⟩ := h.dev
  exact { h with tx := h.tx.below hb, dev := ⟨S, hS.below hb⟩, j := h.j.below hb }
theorem TxOn.len (h : TxOn W tb b jb m M L F n rec) : Calls Tryz.prog 74 #[devp b] W fun e w' => e = .returned (.int .i64 (M.n : Int)) ∧ W = w' := by
  obtain ⟨S, g, c, m, vals, hI⟩ := h.dev
  exact len_any b g _ _ W hI.head.c2
theorem TxOn.look (h : TxOn W tb b jb m M L F n rec) (i : Nat) (hi : i < M.n) :
    (Instr.lookup 111 (.map (some m)) (.int .i64 (i : Int)) true).run Tryz.prog W = .ok (.tuple #[(txE L i).getD (.agg #[.int .i64 0, str []]), .bool (look L i).isSome]) W := by
  have := h.tx.map.look2 (t := 111) Tryz.underlying3 Tryz.underlying111 (zeroPut W) (by have := h.tx.small; omega) hi
  rwa [txE_isSome] at this
theorem TxOn.count (h : TxOn W tb b jb m M L F n rec) (ty : TypeId) : (Builtin.len_ #[111] ty #[.map (some m)]).run Tryz.prog W = .ok (.int .i64 (L.length : Int)) W := by
  have := h.tx.map.len (t := 111) Tryz.underlying3 Tryz.underlying111 ty
  rwa [keys_look h.tx.asc (fun p hp => (h.tx.ok p hp).1) _ (txE_isSome L), List.length_map] at this
set_option maxRecDepth 100000 in
theorem txRead_any (h : TxOn W tb b jb m M L F n rec) (i : Nat) (hi : i < M.n) :
    Calls Tryz.prog 70 #[devp tb, .int .i64 (i : Int)] W fun e w' => e = .returned (.tuple #[str ((look L i).getD (M.cur i)), .int .i64 0]) ∧ Below W.heap.size W w' := by
  have c0 := h.tx.c0
  have c2 := h.tx.c2
  have hlk := h.look i hi
  have HR := Lib.hid (refusal_read tb b M.n W h.tx.c3 c0 h.len i hi)
  obtain ⟨S, hS⟩ := h.dev
  have hrd := fun W' (hb : Below W.heap.size W W') => read_any (hS.below hb) h.up h.wr i hi
  have HD := Lib.hid hrd
  clear hrd
  have hB0 : ∀ v w' t, Below W.heap.size W w' → Below W.heap.size W (w'.alloc (.cells v t)) := fun v w' t hb => hb.alloc hb.size _
  have hlt := h.tx.lt.1
  cases hl : look L i with
  | none =>
    have hE : txE L i = none := by unfold txE; rw [hl]; rfl
    rw [hE, hl] at hlk
    simp only [Option.getD, Option.isSome] at hlk
    clear h hS hl hE
    go_enter Tryz.func70, Tryz.ntmps70
    go_wp2_with fail
    refine HR.out.mono ?_
    rintro e w1 ⟨rfl, rfl⟩
    go_wp2_with fail
    refine (HD.out _ ((Below.refl _ W).alloc (Nat.le_refl _) _)).mono ?_
    rintro e w2 ⟨rfl, hb⟩
    go_wp2_with fail
    go_ret2
    exact ⟨rfl, ((Below.refl _ W).alloc (Nat.le_refl _) _).trans (hb.mono (by simp))⟩
  | some d =>
    have hE : txE L i = some (putX i d) := by unfold txE; rw [hl]; rfl
    rw [hE, hl] at hlk
    simp only [Option.getD, Option.isSome, putX] at hlk
    clear h hS hl hE
    go_enter Tryz.func70, Tryz.ntmps70
    go_wp2_with fail
    refine HR.out.mono ?_
    rintro e w1 ⟨rfl, rfl⟩
    go_wp2_with fail
    go_ret2
    exact ⟨rfl, (Below.refl _ W).alloc (Nat.le_refl _) _⟩
theorem txRead_out (h : TxOn W tb b jb m M L F n rec) (i : Int) (hi : i < 0 ∨ (M.n : Int) ≤ i) :
    Calls Tryz.prog 70 #[devp tb, .int .i64 i] W fun e w' => e = .returned (.tuple #[str [], .int .i64 2]) ∧ W = w' := by
  have HR := Lib.hid (refusal_out tb b M.n W h.tx.c3 h.tx.c0 h.len i (.func (.func 132) #[] #[]) hi)
  clear h hi
  go_enter Tryz.func70, Tryz.ntmps70
  go_wp2_with fail
  refine HR.out.mono ?_
  rintro e w1 ⟨rfl, rfl⟩
  go_wp2_with fail
  go_ret2
  exact ⟨rfl, rfl⟩
theorem txRoom_quiet (h : TxOn W tb b jb m M L F n rec) : Calls Tryz.prog 20 #[devp tb] W fun e w' => e = .returned (.int .i64 ((capL n : Int) - (L.length : Int))) ∧ ∃ k, w' = W.drewN k := by
  have c1 := h.tx.c1
  have c2 := h.tx.c2
  have c3 := h.tx.c3
  have hct := fun k ty => (h.below (below_drewN (Below.refl _ _) k)).count ty
  have hcap := h.cap
  have hcb : capL n ≤ 256 := by have := h.h256; unfold capL; omega
  have hm : ∀ k, Calls Tryz.prog 58 #[devp jb] (W.drewN k) fun e w' => e = .returned (.int .i64 (capL n : Int)) ∧ w' = W.drewN k := fun k => (max_any jb b F n rec (W.drewN k) (h.j.below (below_drewN (Below.refl _ _) k)) h.h4 h.h256).mono fun e w' hx => ⟨hx.1, hx.2.symm⟩
  have hmax := Lib.hid hm
  clear hm
  have hO := Lib.hid (over_any tb false W c3)
  clear h
  go_enter Tryz.func20, Tryz.ntmps20
  go_wp2_with fail
  refine hO.out.mono ?_
  rintro e w1 ⟨rfl, rfl⟩
  go_wp2_with fail
  go_quiet (refine Calls.quiet_of_same (hmax.out _))
  go_wp2_with fail
  go_ret
  exact ⟨rfl, _, rfl⟩
theorem txRoom_any (h : TxOn W tb b jb m M L F n rec) : Calls Tryz.prog 20 #[devp tb] W fun e w' => e = .returned (.int .i64 ((capL n - L.length : Nat) : Int)) ∧ Below W.heap.size W w' := by
  refine (txRoom_quiet h).mono ?_
  rintro e w' ⟨rfl, k, rfl⟩
  have := h.cap
  exact ⟨by rw [show ((capL n - L.length : Nat) : Int) = (capL n : Int) - (L.length : Int) by omega], below_drewN (Below.refl _ _) k⟩
theorem txWrite_bad (h : TxOn W tb b jb m M L F n rec) (i : Int) (s : List UInt8) (hs : s.length ≤ 140737488351232) (hbad : i < 0 ∨ (M.n : Int) ≤ i ∨ s.length ≠ 64) :
    Calls Tryz.prog 49 #[devp tb, .int .i64 i, str s] W fun e w' => e = .returned (.int .i64 2) ∧ Below W.heap.size W w' := by
  have hB := (Below.refl W.heap.size W).alloc (Nat.le_refl _) (.cells #[str s] 9)
  have hr : Calls Tryz.prog 95 #[devp tb, .int .i64 i, .func (.func 104) #[] #[.pointer (some ⟨W.heap.size, 0, none⟩)]] (W.alloc (.cells #[str s] 9)) fun e w' => e = .returned (.int .i64 2) ∧ (W.alloc (.cells #[str s] 9)) = w' := by
    have h' := h.below hB
    by_cases hi : i < 0 ∨ (M.n : Int) ≤ i
    · exact refusal_out tb b M.n _ h'.tx.c3 h'.tx.c0 h'.len i _ hi
    · obtain ⟨k, rfl⟩ : ∃ k : Nat, i = (k : Int) := ⟨i.toNat, by omega⟩
      exact refusal_write tb b M.n _ h'.tx.c3 h'.tx.c0 h'.len k W.heap.size s false (by omega) (cell_new_l W _ _) (by simp; omega)
  have HR := Lib.hid hr
  have HB := Lib.hid hB
  clear hr hB h hbad
  go_enter Tryz.func49, Tryz.ntmps49
  go_wp2_with fail
  refine HR.out.mono ?_
  rintro e w1 ⟨rfl, rfl⟩
  go_wp2_with fail
  go_ret
  exact ⟨rfl, HB.out⟩
theorem txWrite_full (h : TxOn W tb b jb m M L F n rec) (i : Nat) (hi : i < M.n) (s : List UInt8) (hs : s.length = 64) (hl : look L i = none) (hfull : L.length = capL n) :
    Calls Tryz.prog 49 #[devp tb, .int .i64 (i : Int), str s] W fun e w' => e = .returned (.int .i64 4) ∧ Below W.heap.size W w' := by
  have hB := (Below.refl W.heap.size W).alloc (Nat.le_refl _) (.cells #[str s] 9)
  have h' := h.below hB
  have HR := Lib.hid (refusal_write tb b M.n _ h'.tx.c3 h'.tx.c0 h'.len i W.heap.size s true hi (cell_new_l W _ _) (by simp [hs]))
  have c2 := h'.tx.c2
  have hlk := h'.look i hi
  have hE : txE L i = none := by unfold txE; rw [hl]; rfl
  rw [hE, hl] at hlk
  simp only [Option.getD, Option.isSome] at hlk
  have hroom := fun V (hb : Below W.heap.size W V) => txRoom_any (h.below hb)
  rw [hfull, Nat.sub_self] at hroom
  have HM := Lib.hid hroom
  have HB := Lib.hid hB
  clear h h' hE hl hroom hfull hs
  go_enter Tryz.func49, Tryz.ntmps49
  go_wp2_with fail
  refine HR.out.mono ?_
  rintro e w1 ⟨rfl, rfl⟩
  go_wp2_with fail
  refine (HM.out _ (HB.out.alloc (by simp) _)).mono ?_
  rintro e w2 ⟨rfl, hb⟩
  go_wp2_with fail
  go_ret
  exact ⟨rfl, (HB.out.alloc (by simp) _).trans (hb.mono (by simp; omega))⟩
set_option maxHeartbeats 1000000 in
theorem txWrite_ok (h : TxOn W tb b jb m M L F n rec) (i : Nat) (hi : i < M.n) (s : List UInt8) (hs : s.length = 64) (hl : (look L i).isSome = true ∨ L.length < capL n) :
    Calls Tryz.prog 49 #[devp tb, .int .i64 (i : Int), str s] W fun e w' => e = .returned (.int .i64 0) ∧ TxIn w' tb b jb m M.n (ins L i s) ∧ Only (fun k => k = m) W w' := by
  have hB := (Below.refl W.heap.size W).alloc (Nat.le_refl _) (.cells #[str s] 9)
  have h' := h.below hB
  have HR := Lib.hid (refusal_write tb b M.n _ h'.tx.c3 h'.tx.c0 h'.len i W.heap.size s true hi (cell_new_l W _ _) (by simp [hs]))
  have c2 := h'.tx.c2
  have hlk := h'.look i hi
  have hbx := cell_new_l W (str s) 9
  have hup := fun V (hb : Below W.heap.size W V) => (h.below hb).tx.map.store (t := 111) Tryz.underlying3 Tryz.underlying111 (by have := h.tx.small; omega) hi (putX i s)
  have hfin : ∀ V, Below W.heap.size W V → ∀ W2, IMap Tryz.prog 3 W2 m M.n (upd (txE L) i (some (putX i s))) → V.grownBy W2 (some m) → TxIn W2 tb b jb m M.n (ins L i s) ∧ Only (fun k => k = m) W W2 := fun V hb W2 hm hg => by
    have hV := (h.below hb).tx
    have hk : W2.heap[tb]? = V.heap[tb]? := hg.block tb hV.lt.1 (by intro e; cases e; exact hV.ne rfl)
    refine ⟨?_, (Only.of_below hb).trans (Only.of_grown (S := fun k => k = m) hg fun k e => by cases e; rfl) fun j hj => .inl hj⟩
    exact ⟨(cell_same 0 hk).trans hV.c0, (cell_same 1 hk).trans hV.c1, (cell_same 2 hk).trans hV.c2, (cell_same 3 hk).trans hV.c3, (World.frozen?_of_block (a := ⟨tb, 2, none⟩) hk).trans hV.f2, (World.frozen?_of_block (a := ⟨tb, 3, none⟩) hk).trans hV.f3,
      by rw [txE_ins]; exact hm, asc_ins hV.asc i s, ok_ins hV.ok hi hs, hV.small, hV.ne⟩
  have HF := Lib.hid hfin
  have HU := Lib.hid hup
  have HB := Lib.hid hB
  have hc := fun V (hb : Below W.heap.size W V) => (h.below hb).tx.c2
  have HC := Lib.hid hc
  have hc3 := fun V (hb : Below W.heap.size W V) => hb.cell (p := ⟨W.heap.size, 0, none⟩)
  have hlt := h.tx.lt.1
  clear hfin hup hc hc3
  by_cases hsome : (look L i).isSome = true
  · obtain ⟨d, hd⟩ := Option.isSome_iff_exists.1 hsome
    have hE : txE L i = some (putX i d) := by unfold txE; rw [hd]; rfl
    rw [hE, hd] at hlk
    simp only [Option.getD, Option.isSome, putX] at hlk
    obtain ⟨V, hVe⟩ : ∃ V, V = (W.alloc (.cells #[str s] 9)).alloc (.cells #[.int .i64 (i : Int), str d] 117) := ⟨_, rfl⟩
    have hBV : Below W.heap.size W V := by rw [hVe]; exact HB.out.alloc (by simp) _
    have hVc2 := HC.out V hBV
    have hVb : V.cell? ⟨W.heap.size, 0, none⟩ = some (str s) := by rw [hVe, World.cell?_alloc_lt _ _ _ (by simp)]; exact hbx
    obtain ⟨W2, hrun, hm2, hg2⟩ := HU.out V.drew (below_drewN hBV 1)
    obtain ⟨r1, r2⟩ := HF.out V.drew (below_drewN hBV 1) W2 hm2 hg2
    have R1 := Lib.hid r1
    have R2 := Lib.hid r2
    unfold putX at hrun
    clear h h' hE hd r1 r2 hsome hl hm2 hg2 hBV
    go_enter Tryz.func49, Tryz.ntmps49
    go_wp2_with fail
    refine HR.out.mono ?_
    rintro e w1 ⟨rfl, rfl⟩
    go_wp2_with fail
    rw [← hVe]
    clear hVe
    go_region
    all_goals
      go_wp2_with fail
      go_ret
      exact ⟨rfl, R1.out, R2.out⟩
  · have hnone : look L i = none := by cases h : look L i; rfl; rw [h] at hsome; exact absurd rfl hsome
    have hE : txE L i = none := by unfold txE; rw [hnone]; rfl
    rw [hE, hnone] at hlk
    simp only [Option.getD, Option.isSome] at hlk
    have hroom := fun V (hb : Below W.heap.size W V) => txRoom_any (h.below hb)
    have HM := Lib.hid hroom
    have hpos : ¬ ((capL n - L.length : Nat) : Int) = 0 := by rcases hl with e | e; exact absurd e hsome; omega
    have hne : (((capL n - L.length : Nat) : Int) == 0) = false := by simpa using hpos
    clear h h' hE hnone hroom hsome hl hpos
    generalize ((capL n - L.length : Nat) : Int) = room at *
    go_enter Tryz.func49, Tryz.ntmps49
    go_wp2_with fail
    refine HR.out.mono ?_
    rintro e w1 ⟨rfl, rfl⟩
    go_wp2_with fail
    refine (HM.out _ (HB.out.alloc (by simp) _)).mono ?_
    rintro e V ⟨rfl, hb⟩
    have hBV : Below W.heap.size W V := (HB.out.alloc (by simp) _).trans (hb.mono (by simp; omega))
    have hVc2 := HC.out V hBV
    have hVb : V.cell? ⟨W.heap.size, 0, none⟩ = some (str s) := by
      rw [hb.cell (p := ⟨W.heap.size, 0, none⟩) (by simp; omega), World.cell?_alloc_lt _ _ _ (by simp)]; exact hbx
    obtain ⟨W2, hrun, hm2, hg2⟩ := HU.out V.drew (below_drewN hBV 1)
    obtain ⟨r1, r2⟩ := HF.out V.drew (below_drewN hBV 1) W2 hm2 hg2
    have R1 := Lib.hid r1
    have R2 := Lib.hid r2
    unfold putX at hrun
    clear r1 r2 hm2 hg2 hBV hb
    go_wp2_with fail
    go_region
    all_goals
      go_wp2_with fail
      go_ret
      exact ⟨rfl, R1.out, R2.out⟩
end
end Go.Proofs.YtnfiapjdkjbdhaaGreat
/- Layer 8 (tx): the iterator over what was written; Touched; Collect. -/
namespace Go.Proofs.YtnfiapjdkjbdhaaGreat
open Go.RowKit Go.Maps Go.Sort Go.Shelf
set_option linter.unusedVariables false
set_option linter.unusedSimpArgs false
set_option maxRecDepth 10000
attribute [local go_sem] Oper.semAt_some
def TouchI (w : World) (tb b jb m n : Nat) (L : PutL) (B p : Nat) (t : TypeId) (sz len : Nat) (cs : List Value) (V : World) : Prop :=
  TxIn V tb b jb m n L ∧ Only (fun k => k = B) w V ∧ ∃ v, V.cell? ⟨B, 0, none⟩ = some v ∧ V.frozen? ⟨B, 0, none⟩ = false ∧ V.ownsRow (w.heap.size + 2) t sz v len cs ∧ ∀ k, v.ownBlock = some k → k ≠ p
section
variable {w : World} {tb b jb m n : Nat} {L : PutL} {B p : Nat} {t : TypeId} {sz len : Nat} {cs : List Value} {V : World}
theorem TouchI.below {W' : World} (h : TouchI w tb b jb m n L B p t sz len cs V) (hB : B < w.heap.size) (hb : Below V.heap.size V W') : TouchI w tb b jb m n L B p t sz len cs W' := by
  obtain ⟨h1, h2, v, h3, h4, h5, h6⟩ := h
  have hBv : B < V.heap.size := Nat.lt_of_lt_of_le hB h2.size
  exact ⟨h1.below hb, h2.trans (Only.of_below (S := fun k => k = B) hb) (fun _ e => .inl e), v, (cell_same 0 (hb.block B hBv)).trans h3, (World.frozen?_of_block (a := ⟨B, 0, none⟩) (hb.block B hBv)).trans h4,
    h5.kept (grown_of_below' hb none) (by cases hv : Value.ownBlock _ <;> simp), h6⟩
theorem TouchI.put (h : TouchI w tb b jb m n L B p t sz len cs V) (hB : B < w.heap.size) (ht : tb < w.heap.size) (hm : m < w.heap.size) (l : Nat) (o : Obj) (hl : w.heap.size ≤ l) (hl2 : l ≤ w.heap.size + 1) : TouchI w tb b jb m n L B p t sz len cs (V.putObj l o) := by
  obtain ⟨h1, h2, v, h3, h4, h5, h6⟩ := h
  have hk : ∀ k, k ≠ l → (V.putObj l o).heap[k]? = V.heap[k]? := fun k hk => World.putObj_heap_other hk
  refine ⟨h1.kept (hk _ (by omega)) (hk _ (by omega)), ⟨h2.os, h2.tape, h2.output, by simpa using h2.size, fun k hkl hS => (hk k (by omega)).trans (h2.block k hkl hS)⟩, v, (cell_same 0 (hk B (by omega))).trans h3, (World.frozen?_of_block (a := ⟨B, 0, none⟩) (hk B (by omega))).trans h4, ?_, h6⟩
  refine h5.kept (row := some l) ⟨rfl, rfl, rfl, by simp, fun k _ hne => hk k (by intro e; subst e; exact hne rfl)⟩ (.inr fun e => ?_)
  have := (h5.lt l e).1
  omega
end
end Go.Proofs.YtnfiapjdkjbdhaaGreat
/- Layer 8 (tx): Touched. -/
namespace Go.Proofs.YtnfiapjdkjbdhaaGreat
open Go.RowKit Go.Maps Go.Sort Go.Shelf
set_option linter.unusedVariables false
set_option linter.unusedSimpArgs false
set_option maxRecDepth 10000
attribute [local go_sem] Oper.semAt_some
def nth (L : PutL) (j : Nat) : Nat × List UInt8 := L.getD j (0, [])
theorem nth_get {L : PutL} {j : Nat} (h : j < L.length) : nth L j = L[j] := by unfold nth; rw [List.getD_eq_getElem?_getD, List.getElem?_eq_getElem h]; rfl
theorem TxIn.at {W : World} {tb b jb m n : Nat} {L : PutL} (h : TxIn W tb b jb m n L) {j : Nat} (hj : j < L.length) :
    (Instr.lookup 111 (.map (some m)) (.int .i64 (((L.map (·.1))[j]'(by rw [List.length_map]; exact hj) : Nat) : Int)) false).run Tryz.prog W = .ok (putX (nth L j).1 (nth L j).2) W := by
  rw [nth_get hj, List.getElem_map]
  have hm := List.getElem_mem hj
  have := h.map.look (t := 111) Tryz.underlying3 Tryz.underlying111 (zeroPut W) (by have := h.small; omega) (h.ok _ hm).1
  rw [show txE L L[j].1 = some (putX L[j].1 L[j].2) by unfold txE; rw [look_of h.asc hm]; rfl] at this
  exact this
end Go.Proofs.YtnfiapjdkjbdhaaGreat
/- Layer 8 (tx): what was written, collected; Commit, Abort. -/
namespace Go.Proofs.YtnfiapjdkjbdhaaGreat
open Go.RowKit Go.Maps Go.Sort Go.Shelf
set_option linter.unusedVariables false
set_option linter.unusedSimpArgs false
set_option maxRecDepth 10000
attribute [local go_sem] Oper.semAt_some
section
variable {W : World} {tb b jb m n : Nat} {L : PutL}
end
end Go.Proofs.YtnfiapjdkjbdhaaGreat
/- Layer 8 (tx): Patch; all methods of a transaction that is done, and of none. -/
namespace Go.Proofs.YtnfiapjdkjbdhaaGreat
open Go.RowKit Go.Maps Go.Sort
set_option linter.unusedVariables false
set_option linter.unusedSimpArgs false
set_option maxRecDepth 10000
section
variable {W : World} {tb b jb m F n rec : Nat} {M : Dv} {L : PutL}
def over (l : List UInt8) (f : Nat) (s : List UInt8) : List UInt8 := l.take f ++ s ++ l.drop (f + s.length)
theorem over_length {l : List UInt8} (hl : l.length = 64) {f : Nat} {s : List UInt8} (h : f + s.length ≤ 64) : (over l f s).length = 64 := by
  unfold over
  rw [List.length_append, List.length_append, List.length_take, List.length_drop]
  omega
theorem txPatch_bad (h : TxOn W tb b jb m M L F n rec) (i f : Int) (s : List UInt8) (hs : s.length ≤ 140737488351232) (hbad : i < 0 ∨ (M.n : Int) ≤ i ∨ f < 0 ∨ 64 - (s.length : Int) < f) :
    Calls Tryz.prog 44 #[devp tb, .int .i64 i, .int .i64 f, str s] W fun e w' => e = .returned (.int .i64 2) ∧ Below W.heap.size W w' := by
  have hB := ((Below.refl W.heap.size W).alloc (Nat.le_refl _) (.cells #[.int .i64 f] 3)).alloc (by simp) (.cells #[str s] 9)
  have hr : Calls Tryz.prog 95 #[devp tb, .int .i64 i, .func (.func 96) #[] #[.pointer (some ⟨W.heap.size, 0, none⟩), .pointer (some ⟨W.heap.size + 1, 0, none⟩)]] ((W.alloc (.cells #[.int .i64 f] 3)).alloc (.cells #[str s] 9)) fun e w' => e = .returned (.int .i64 2) ∧ ((W.alloc (.cells #[.int .i64 f] 3)).alloc (.cells #[str s] 9)) = w' := by
    have h' := h.below hB
    by_cases hi : i < 0 ∨ (M.n : Int) ≤ i
    · exact refusal_out tb b M.n _ h'.tx.c3 h'.tx.c0 h'.len i _ hi
    · obtain ⟨k, rfl⟩ : ∃ k : Nat, i = (k : Int) := ⟨i.toNat, by omega⟩
      have e1 := up1 (o := .cells #[str s] 9) (cell_new_l W (.int .i64 f) 3)
      have e2 := cell_new_l (W.alloc (.cells #[.int .i64 f] 3)) (str s) 9
      rw [World.size_alloc] at e2
      exact refusal_patch tb b M.n _ h'.tx.c3 h'.tx.c0 h'.len k W.heap.size (W.heap.size + 1) f s false (by omega) e1 e2 hs (by
        rw [Bool.and_eq_false_iff, decide_eq_false_iff_not, decide_eq_false_iff_not]
        omega)
  have HR := Lib.hid hr
  have HB := Lib.hid hB
  clear hr hB h hbad
  go_enter Tryz.func44, Tryz.ntmps44
  go_wp2_with fail
  refine HR.out.mono ?_
  rintro e w1 ⟨rfl, rfl⟩
  go_wp2_with fail
  go_ret
  exact ⟨rfl, HB.out⟩
set_option maxHeartbeats 1000000 in
theorem txPatch_any (h : TxOn W tb b jb m M L F n rec) (i : Nat) (hi : i < M.n) (f : Nat) (s : List UInt8) (hf : f + s.length ≤ 64) (h64 : ((look L i).getD (M.cur i)).length = 64) (Q : Value → World → Prop)
    (hw : ∀ V, Below W.heap.size W V → Calls Tryz.prog 49 #[devp tb, .int .i64 (i : Int), str (over ((look L i).getD (M.cur i)) f s)] V fun e w' => ∃ r, e = .returned r ∧ Q r w' ∧ Only (fun k => k = m) V w') :
    Calls Tryz.prog 44 #[devp tb, .int .i64 (i : Int), .int .i64 (f : Int), str s] W fun e w' => ∃ r, e = .returned r ∧ Q r w' := by
  obtain ⟨X, hX⟩ : ∃ X, X = (W.alloc (.cells #[.int .i64 (f : Int)] 3)).alloc (.cells #[str s] 9) := ⟨_, rfl⟩
  have hB : Below W.heap.size W X := by rw [hX]; exact ((Below.refl W.heap.size W).alloc (Nat.le_refl _) _).alloc (by simp) _
  have hsX : X.heap.size = W.heap.size + 2 := by rw [hX]; simp
  have e1 : X.cell? ⟨W.heap.size, 0, none⟩ = some (.int .i64 (f : Int)) := by rw [hX]; exact up1 (cell_new_l W (.int .i64 (f : Int)) 3)
  have e2 : X.cell? ⟨W.heap.size + 1, 0, none⟩ = some (str s) := by
    rw [hX]
    have := cell_new_l (W.alloc (.cells #[.int .i64 (f : Int)] 3)) (str s) 9
    rwa [World.size_alloc] at this
  have h' := h.below hB
  have HR := Lib.hid (refusal_patch tb b M.n X h'.tx.c3 h'.tx.c0 h'.len i W.heap.size (W.heap.size + 1) f s true hi e1 e2 (by omega) (by
    rw [Bool.and_eq_true, decide_eq_true_eq, decide_eq_true_eq]; omega))
  have HRd := Lib.hid (txRead_any h' i hi)
  have hml := h.tx.lt.2
  have HW := Lib.hid hw
  have HB := Lib.hid hB
  generalize (look L i).getD (M.cur i) = now at *
  have b1 : (f : Int) ≤ (now.length : Int) := by omega
  have b2 : (f : Int) + (s.length : Int) ≤ (now.length : Int) := by omega
  have b3 : (0 : Int) ≤ (f : Int) + (s.length : Int) := by omega
  have b4 : IntKind.i64.wrap ((f : Int) + (s.length : Int)) = (f : Int) + (s.length : Int) := IntWalk.i64_in _ (by omega)
  have b5 : ((f : Int) + (s.length : Int)).toNat = f + s.length := by omega
  have b6 : ¬ 9223372036854775807 < min f now.length + s.length := by omega
  have b7 : ¬ 9223372036854775807 < min f now.length + s.length + (now.length - (f + s.length)) := by omega
  have b8 : ¬ 9223372036854775807 < min f now.length + (s.length + (now.length - (f + s.length))) := by omega
  unfold over at HW
  rw [List.append_assoc] at HW
  clear h h' hw hB h64
  go_enter Tryz.func44, Tryz.ntmps44
  go_wp2_with fail
  rw [← hX]
  clear hX
  refine HR.out.mono ?_
  rintro e w1 ⟨rfl, rfl⟩
  go_wp2_with fail
  refine HRd.out.mono ?_
  rintro e Y ⟨rfl, hb⟩
  have d1 := (hb.cell (p := ⟨W.heap.size, 0, none⟩) (by show W.heap.size < _; omega)).trans e1
  have d2 := (hb.cell (p := ⟨W.heap.size + 1, 0, none⟩) (by show W.heap.size + 1 < _; omega)).trans e2
  have HBY := Lib.hid (HB.out.trans (hb.mono (by omega)))
  have hsY := hb.size
  clear hb e1 e2
  go_wp2_with fail
  go_region_held3 (fun W' => W'.cell? ⟨W.heap.size, 0, none⟩ = some (.int .i64 (f : Int)) ∧ W'.cell? ⟨W.heap.size + 1, 0, none⟩ = some (str s))
    (exact ⟨d1, d2⟩)
    (first | (go_at_call 49; ((with_reducible refine (HW.out _ (HBY.out.drew)).mono ?_); rintro e w4 ⟨r, rfl, hq, ho⟩; have HQ := Lib.hid hq; have d1 := (cell_same 0 (ho.block W.heap.size (by show W.heap.size < Y.heap.size; omega) (by omega))).trans d1; have d2 := (cell_same 0 (ho.block (W.heap.size + 1) (by show W.heap.size + 1 < Y.heap.size; omega) (by omega))).trans d2; clear hq ho)))
  go_wp2_with fail
  go_ret
  exact ⟨_, rfl, HQ.out⟩
end
/-! What a transaction that is done answers. -/
section
variable (tb : Nat) (W : World) (h : W.cell? ⟨tb, 3, none⟩ = some (.bool true))
include h
end
/-! What none answers. -/
section
variable (W : World)
end
end Go.Proofs.YtnfiapjdkjbdhaaGreat
/- Layer 4 (journal): what the statements ask of a transaction. -/
namespace Go.Proofs.YtnfiapjdkjbdhaaGreat
open Go.RowKit Go.Maps
set_option linter.unusedVariables false
set_option linter.unusedSimpArgs false
set_option maxRecDepth 10000
end Go.Proofs.YtnfiapjdkjbdhaaGreat
/- Layer 4 (journal): rows of sectors, as the statements make and compare them. -/
namespace Go.Proofs.YtnfiapjdkjbdhaaGreat
open Go.RowKit Go.Maps
set_option linter.unusedVariables false
set_option linter.unusedSimpArgs false
set_option maxRecDepth 10000
def secs (N : Nat) (f : Nat → List UInt8) : List (List UInt8) := (List.range N).map f
abbrev Txt (W : World) (v : Value) (ss : List (List UInt8)) : Prop := Row W v (ss.map str)
theorem Txt.below {w W : World} {v : Value} {ss : List (List UInt8)} (h : Txt w v ss) (hb : Below w.heap.size w W) : Txt W v ss := by
  obtain ⟨A, c, rfl, hc⟩ := h
  refine ⟨A, c, rfl, fun j u hu => ?_⟩
  obtain ⟨g, rfl, hcell⟩ := hc j u hu
  exact ⟨g, rfl, (hb.cell (World.block_lt_of_cell? w _ hcell)).trans hcell⟩
theorem Txt.at {W : World} {v : Value} {ss : List (List UInt8)} (h : Txt W v ss) : ∃ A c, v = .slice A ss.length c ∧ ∀ k (hk : k < ss.length), ∃ g, A = some ⟨g, 0, none⟩ ∧ W.cell? ⟨g, k, none⟩ = some (str ss[k]) := by
  obtain ⟨A, c, rfl, hc⟩ := h
  refine ⟨A, c, by simp, fun k hk => ?_⟩
  obtain ⟨g, rfl, hcell⟩ := hc k (str ss[k]) (by simp [hk])
  exact ⟨g, rfl, hcell⟩
end Go.Proofs.YtnfiapjdkjbdhaaGreat
/- Layer 4 (journal): a device, its journals and rows, held by a statement. -/
namespace Go.Proofs.YtnfiapjdkjbdhaaGreat
open Go.RowKit Go.Maps
set_option linter.unusedVariables false
set_option linter.unusedSimpArgs false
set_option maxRecDepth 10000
abbrev Rows3 := List (Value × List (List UInt8))
def Kept (w : World) (js : List Nat) (vs : Rows3) (k : Nat) : Prop := k < w.heap.size ∨ k ∈ js ∨ ∃ x ∈ vs, x.1.ownBlock = some k
structure Law (F n : Nat) (w W : World) (b : Nat) (M : Dv) (js : List (Nat × Nat)) (vs : Rows3) : Prop where
  keeps : Keeps (All w) w W
  held : Held (Kept w (js.map (·.1)) vs) W W b M
  jat : ∀ x ∈ js, JAt W x.1 b F n x.2
  txt : ∀ x ∈ vs, Txt W x.1 x.2
section
variable {F n : Nat} {w W : World} {b : Nat} {M : Dv} {js : List (Nat × Nat)} {vs : Rows3}
theorem Law.below (h : Law F n w W b M js vs) {W' : World} (hb : Below W.heap.size W W') : Law F n w W' b M js vs :=
  ⟨h.keeps.below hb, h.held.more hb fun k hk => .inl hk, fun x hx => (h.jat x hx).below hb, fun x hx => Txt.below (h.txt x hx) hb⟩
theorem Law.all (h : Law F n w W b M js vs) : Below w.heap.size w W := h.keeps.all
theorem Law.fine (h : Law F n w W b M js vs) : Fine M := h.held.fine
theorem Law.on (h : Law F n w W b M js vs) {W' : World} {N : Dv} (hH : Held (Kept w (js.map (·.1)) vs) W W' b N) : Law F n w W' b N js vs :=
  ⟨h.keeps.trans hH.keeps fun k hk => .inl hk, hH.more (Below.refl _ _) fun k hk => .inl hk,
    fun x hx => (h.jat x hx).kept (hH.keeps.same _ (.inr (.inl (List.mem_map.2 ⟨x, hx, rfl⟩)))),
    fun x hx => Row.kept (h.txt x hx) fun k hk => hH.keeps.same k (.inr (.inr ⟨x, hx, hk⟩))⟩
theorem Law.step (h : Law F n w W b M js vs) {f : FuncId} {args : Array Value} {r : Ending} {N : Dv} (hc : Calls Tryz.prog f args W fun e w' => e = r ∧ Held (Kept w (js.map (·.1)) vs) W w' b N) :
    Calls Tryz.prog f args W fun e w' => e = r ∧ Law F n w w' b N js vs := hc.mono fun e w' hx => ⟨hx.1, h.on hx.2⟩
theorem Law.less (h : Law F n w W b M js vs) {js' : List (Nat × Nat)} {vs' : Rows3} (hj : ∀ x ∈ js', x ∈ js) (hv : ∀ x ∈ vs', x ∈ vs) : Law F n w W b M js' vs' := by
  refine ⟨h.keeps, h.held.more (Below.refl _ _) fun k hk => .inl ?_, fun x hx => h.jat x (hj x hx), fun x hx => h.txt x (hv x hx)⟩
  rcases hk with hk | hk | ⟨x, hx, hk⟩
  · exact .inl hk
  · obtain ⟨x, hx, rfl⟩ := List.mem_map.1 hk
    exact .inr (.inl (List.mem_map.2 ⟨x, hj x hx, rfl⟩))
  · exact .inr (.inr ⟨x, hv x hx, hk⟩)
/-! Between two crashes. -/
theorem calm_head (hc : M.calm) (F : Nat) : M.headOf F = hd (M.dur F) := by
  unfold Dv.headOf
  split
  · rfl
  · rw [calm_cur M hc]
theorem sta_head {N g : Nat} {f d : Nat → List UInt8} (h : StA N F n g f d) : hd (d F) = ⟨g, false, (hd (d F)).cnt⟩ := by
  have h1 := h.gen; have h2 := h.pend
  generalize hd (d F) = x at *
  obtain ⟨a, p, c⟩ := x
  simp only at h1 h2
  rw [h1, h2]
/-! The calls. -/
end
end Go.Proofs.YtnfiapjdkjbdhaaGreat
/- Layer 4 (journal): the chapter's examples, walked. -/
namespace Go.Proofs.YtnfiapjdkjbdhaaGreat
open Go.RowKit Go.Maps
set_option linter.unusedVariables false
set_option linter.unusedSimpArgs false
set_option maxRecDepth 10000
section
variable {F n : Nat} {w W : World} {b : Nat} {M : Dv} {js : List (Nat × Nat)} {vs : Rows3}
end
end Go.Proofs.YtnfiapjdkjbdhaaGreat
/- Layer 8 (tx): the document's answer: a transaction of its own; where a sector stands, what it reads. -/
namespace Go.Proofs.YtnfiapjdkjbdhaaGreat
open Go.RowKit Go.Maps
set_option linter.unusedVariables false
set_option linter.unusedSimpArgs false
set_option maxRecDepth 10000
theorem OwnP.kept {W W' : World} {base : Nat} {v : Value} {l : PutI} (h : OwnP W base v l) (hb : ∀ k, v.ownBlock = some k → W'.heap[k]? = W.heap[k]?) : OwnP W' base v l := by
  refine ⟨h.1, ?_⟩
  rcases h.2 with h0 | ⟨g, cap, cur, hv, h1, hg, hr⟩
  · exact .inl h0
  · exact .inr ⟨g, cap, cur, hv, h1, (hb g (by rw [hv]; rfl)).trans hg, hr⟩
theorem OwnP.low {W : World} {base : Nat} {v : Value} {l : PutI} (h : OwnP W base v l) : OwnP W 0 v l := by
  refine ⟨h.1, ?_⟩
  rcases h.2 with h0 | ⟨g, cap, cur, hv, h1, hg, hr⟩
  · exact .inl h0
  · exact .inr ⟨g, cap, cur, hv, Nat.zero_le _, hg, hr⟩
structure RefIn (W : World) (rb : Nat) (v u : Value) (L : PutL) (most : Nat) : Prop where
  c0 : W.cell? ⟨rb, 0, none⟩ = some v
  c1 : W.cell? ⟨rb, 1, none⟩ = some u
  c2 : W.cell? ⟨rb, 2, none⟩ = some (.int .i64 (most : Int))
  c3 : W.cell? ⟨rb, 3, none⟩ = some (.bool false)
  f1 : W.frozen? ⟨rb, 1, none⟩ = false
  f3 : W.frozen? ⟨rb, 3, none⟩ = false
  own : OwnP W 0 u (castL L)
  far : ∀ k, u.ownBlock = some k → k ≠ rb
  asc : asc L
  small : L.length ≤ 4096
theorem RefIn.kept {W W' : World} {rb : Nat} {v u : Value} {L : PutL} {most : Nat} (h : RefIn W rb v u L most) (h1 : W'.heap[rb]? = W.heap[rb]?) (h2 : ∀ k, u.ownBlock = some k → W'.heap[k]? = W.heap[k]?) : RefIn W' rb v u L most :=
  { h with
    c0 := (cell_same 0 h1).trans h.c0
    c1 := (cell_same 1 h1).trans h.c1
    c2 := (cell_same 2 h1).trans h.c2
    c3 := (cell_same 3 h1).trans h.c3
    f1 := (World.frozen?_of_block (a := ⟨rb, 1, none⟩) h1).trans h.f1
    f3 := (World.frozen?_of_block (a := ⟨rb, 3, none⟩) h1).trans h.f3
    own := h.own.kept h2 }
theorem RefIn.lt {W : World} {rb : Nat} {v u : Value} {L : PutL} {most : Nat} (h : RefIn W rb v u L most) : rb < W.heap.size ∧ ∀ k, u.ownBlock = some k → k < W.heap.size :=
  ⟨World.block_lt_of_cell? W _ h.c0, fun k hk => (h.own.lt k hk).2⟩
theorem RefIn.below {W W' : World} {rb : Nat} {v u : Value} {L : PutL} {most : Nat} (h : RefIn W rb v u L most) (hb : Below W.heap.size W W') : RefIn W' rb v u L most :=
  h.kept (hb.block rb h.lt.1) fun k hk => hb.block k (h.lt.2 k hk)
def refR (rb : Nat) (v : Value) (L : PutL) (most : Nat) : Res where
  at_ S W := ∃ u, RefIn W rb v u L most ∧ ∀ k, S k ↔ k = rb ∨ u.ownBlock = some k
  lt S W h k hk := by
    obtain ⟨u, h1, h2⟩ := h
    rcases (h2 k).1 hk with rfl | h3
    · exact h1.lt.1
    · exact h1.lt.2 k h3
  kept S W W' h hs hb := by
    obtain ⟨u, h1, h2⟩ := h
    exact ⟨u, h1.kept (hb rb ((h2 rb).2 (.inl rfl))) (fun k hk => hb k ((h2 k).2 (.inr hk))), h2⟩
section
variable {W : World} {rb : Nat} {v u : Value} {L : PutL} {most : Nat}
theorem RefIn.row (h : RefIn W rb v u L most) : ∃ A c, u = .slice A L.length c ∧ (L.length ≤ c) ∧ (A = none → L.length = 0 ∧ c = 0) ∧ ∀ j (hj : j < L.length), ∃ g, A = some ⟨g, 0, none⟩ ∧ W.cell? ⟨g, j * 2, none⟩ = some (.int .i64 (L[j].1 : Int)) ∧ W.cell? ⟨g, j * 2 + 1, none⟩ = some (str L[j].2) := by
  have hcl := castL_length L
  have ho := h.own
  rcases ho.2 with ⟨rfl, h0⟩ | ⟨g, cap, cur, hv, -, -, hcap, -⟩
  · rw [hcl] at h0
    exact ⟨none, 0, by rw [h0], by omega, fun _ => ⟨h0, rfl⟩, fun j hj => by omega⟩
  · rw [hcl] at hv hcap
    subst hv
    refine ⟨some ⟨g, 0, none⟩, cap, rfl, hcap, (fun e => by cases e), fun j hj => ⟨g, rfl, ?_⟩⟩
    obtain ⟨e1, e2⟩ := putC_at (castL L) j (by rw [hcl]; exact hj)
    have ho' : W.ownsRow 0 117 2 (.slice (some ⟨g, 0, none⟩) L.length cap) L.length (putC (castL L)) := by
      have := ho
      unfold OwnP at this
      rwa [hcl] at this
    have r0 := (ho'.cellAt (j * 2) (by omega)).trans e1
    have r1 := (ho'.cellAt (j * 2 + 1) (by omega)).trans e2
    refine ⟨r0.trans (by simp [castL]), r1.trans (by simp [castL])⟩
end
end Go.Proofs.YtnfiapjdkjbdhaaGreat
/- Layer 8 (tx): the document's answer: Write. -/
namespace Go.Proofs.YtnfiapjdkjbdhaaGreat
open Go.RowKit Go.Maps
set_option linter.unusedVariables false
set_option linter.unusedSimpArgs false
set_option maxRecDepth 10000
section
variable {W : World} {rb : Nat} {v u : Value} {L : PutL} {most : Nat}
theorem RefIn.part {g c : Nat} (h : RefIn W rb v (.slice (some ⟨g, 0, none⟩) L.length c) L most) (k n : Nat) (hk : k + n ≤ L.length) (a : Nat) (ha : a = k * 2) (c' : Nat) :
    Puts W (.slice (some ⟨g, a, none⟩) n c') (castL ((L.drop k).take n)) := by
  subst ha
  obtain ⟨A, c1, e, -, -, hrow⟩ := h.row
  have hl : (castL ((L.drop k).take n)).length = n := by rw [castL_length, List.length_take, List.length_drop]; omega
  refine ⟨some ⟨g, k * 2, none⟩, c', by rw [hl], fun j p hj => ⟨_, rfl, ?_⟩⟩
  obtain ⟨hlt, he⟩ := List.getElem?_eq_some_iff.1 hj
  rw [hl] at hlt
  obtain ⟨g', e1, r0, r1⟩ := hrow (k + j) (by omega)
  obtain rfl : g = g' := by injection e with e2; rw [← e2] at e1; injection e1 with e1; injection e1
  have hp : p = ((L[k + j].1 : Int), L[k + j].2) := by
    rw [← he]
    simp [castL]
  subst hp
  rw [show (k + j) * 2 = k * 2 + j * 2 by omega] at r0 r1
  refine ⟨by rw [Addr.add_lit]; exact r0, ?_⟩
  unfold behind
  rw [Addr.add_lit]
  exact r1
theorem RefIn.cut {g c : Nat} (h : RefIn W rb v (.slice (some ⟨g, 0, none⟩) L.length c) L most) (k : Nat) (hk : k ≤ L.length) (q : Nat) (hq : q = k * 2 ∨ k = L.length) (c1 c2 : Nat) :
    Puts W (.slice (some ⟨g, 0, none⟩) k c1) (castL (L.take k)) ∧ Puts W (.slice (some ⟨g, q, none⟩) (L.length - k) c2) (castL (L.drop k)) := by
  refine ⟨?_, ?_⟩
  · have := h.part 0 k (by omega) 0 rfl c1
    rwa [List.drop_zero] at this
  · rcases hq with rfl | rfl
    · have := h.part k (L.length - k) (by omega) _ rfl c2
      rwa [List.take_of_length_le (by rw [List.length_drop]; exact Nat.le_refl _)] at this
    · rw [List.drop_length, Nat.sub_self]
      exact ⟨_, c2, rfl, fun j p hj => by simp [castL] at hj⟩
end
end Go.Proofs.YtnfiapjdkjbdhaaGreat
/- Layer 8 (tx): the document's answer: Patch, Commit. -/
namespace Go.Proofs.YtnfiapjdkjbdhaaGreat
open Go.RowKit Go.Maps
set_option linter.unusedVariables false
set_option linter.unusedSimpArgs false
set_option maxRecDepth 10000
section
variable {W : World} {rb : Nat} {v u : Value} {L : PutL} {most : Nat}
end
end Go.Proofs.YtnfiapjdkjbdhaaGreat
/- Layer 8 (tx): the statements' helpers. -/
namespace Go.Proofs.YtnfiapjdkjbdhaaGreat
open Go.RowKit Go.Maps
set_option linter.unusedVariables false
set_option linter.unusedSimpArgs false
set_option maxRecDepth 10000
def fillT (s : List UInt8) (k : Nat) : List UInt8 := (List.range k).map (fun i => s.getD (i % s.length) 0) ++ List.replicate (64 - k) 0
def fullT (s : List UInt8) : List UInt8 := if s = [] then List.replicate 64 0 else fillT s 64
theorem fillT_length (s : List UInt8) (k : Nat) (h : k ≤ 64) : (fillT s k).length = 64 := by unfold fillT; simp; omega
theorem fullT_length (s : List UInt8) : (fullT s).length = 64 := by
  unfold fullT
  split
  · simp
  · exact fillT_length s 64 (Nat.le_refl _)
theorem fillT_set (s : List UInt8) (k : Nat) (h : k < 64) : (fillT s k).set k (s.getD (k % s.length) 0) = fillT s (k + 1) := by
  unfold fillT
  rw [List.range_succ, List.map_append]
  obtain ⟨m, hm⟩ : ∃ m, 64 - k = m + 1 := ⟨63 - k, by omega⟩
  rw [hm, show 64 - (k + 1) = m by omega, List.replicate_succ, List.set_append, if_neg (by simp)]
  simp
structure TSt where
  do_ : Int
  n : Int
  from_ : Int
  s : List UInt8
  raw : Bool
def TSt.text (x : TSt) : List UInt8 := if x.raw then x.s else fullT x.s
abbrev TSt.v (x : TSt) : Value := .agg #[.int .i64 x.do_, .int .i64 x.n, .int .i64 x.from_, str x.s, .bool x.raw]
end Go.Proofs.YtnfiapjdkjbdhaaGreat
/- Layer 8 (tx): calls, as things that lie apart turn by them. -/
namespace Go.Proofs.YtnfiapjdkjbdhaaGreat
open Go.RowKit Go.Maps
set_option linter.unusedVariables false
set_option linter.unusedSimpArgs false
set_option maxRecDepth 10000
def txtR (v : Value) (ss : List (List UInt8)) : Res := memR (fun k => v.ownBlock = some k) (fun W => Txt W v ss) fun W W' h hb => Row.kept h hb
section
variable {w W : World} {rs : List Res}
theorem sys_new (h : Sys w W rs) (n : Nat) (h8 : 8 ≤ n) (hn : n ≤ 4096) : Calls Tryz.prog 36 #[.int .i64 (n : Int)] W fun e w' => ∃ b, e = .returned (.tuple #[devp b, .int .i64 0]) ∧ Sys w w' (rs ++ [devR b (dev0 n)]) := by
  refine (new_any n h8 hn W).mono ?_
  rintro e w' ⟨rfl, rfl⟩
  exact ⟨_, rfl, h.push (newW_below n W) (T := newS W) (new_in n h8 hn W) (newS_from W)⟩
theorem sys_open (h : Sys w W rs) {i b : Nat} {M : Dv} (hi : rs[i]? = some (devR b M)) (F n : Nat) (h4 : 4 ≤ n) (h256 : n ≤ 256) (hF : F + n ≤ M.n) (hdn : M.down = false) (hw : M.wr ≤ 1099511627776) (hp : (hd (M.cur F)).pend = false) :
    Calls Tryz.prog 39 #[devp b, .int .i64 (F : Int), .int .i64 (n : Int)] W fun e w' => ∃ jb, e = .returned (.tuple #[devp jb, .int .i64 0]) ∧ Sys w w' (rs ++ [jourR jb b F n 0]) := by
  obtain ⟨K, hH, -⟩ := h.dev hi
  refine (jopen_clean hH F n h4 h256 hF hdn hw hp).mono ?_
  rintro e w' ⟨jb, rfl, hjb, hj, hb, -⟩
  exact ⟨jb, rfl, h.addMem hb hj fun k hk => by rw [hk]; exact ⟨hjb, hj.lt⟩⟩
theorem sys_begin (h : Sys w W rs) (b jb n : Nat) (hn : n ≤ 4096) : Calls Tryz.prog 22 #[devp b, devp jb] W fun e w' => ∃ tb, e = .returned (.tuple #[devp tb, .int .i64 0]) ∧ Sys w w' (rs ++ [txR tb b jb n []]) := by
  refine (begin_any b jb n hn W).mono ?_
  rintro e w' ⟨rfl, hb, hT⟩
  exact ⟨_, rfl, h.push hb (T := fun k => k = W.heap.size + 1 ∨ k = W.heap.size) ⟨_, hT, fun k => Iff.rfl⟩ fun k hk => by omega⟩
end
end Go.Proofs.YtnfiapjdkjbdhaaGreat
/- Layer 8 (tx): a transaction, and the document's one, step by step. -/
namespace Go.Proofs.YtnfiapjdkjbdhaaGreat
open Go.RowKit Go.Maps
set_option linter.unusedVariables false
set_option linter.unusedSimpArgs false
set_option maxRecDepth 10000
/-! What is answered, and what is written then. -/
def rdE (N : Nat) (i : Int) : Int := if i < 0 ∨ (N : Int) ≤ i then 2 else 0
def rdS (N : Nat) (f : Nat → List UInt8) (L : PutL) (i : Int) : List UInt8 := if i < 0 ∨ (N : Int) ≤ i then [] else (look L i.toNat).getD (f i.toNat)
def wrE (N cap : Nat) (L : PutL) (i : Int) (s : List UInt8) : Int := if i < 0 ∨ (N : Int) ≤ i ∨ s.length ≠ 64 then 2 else if look L i.toNat = none ∧ cap ≤ L.length then 4 else 0
def wrL (N cap : Nat) (L : PutL) (i : Int) (s : List UInt8) : PutL := if wrE N cap L i s = 0 then ins L i.toNat s else L
def ptBad (N : Nat) (i f : Int) (s : List UInt8) : Prop := i < 0 ∨ (N : Int) ≤ i ∨ f < 0 ∨ 64 - (s.length : Int) < f
instance (N : Nat) (i f : Int) (s : List UInt8) : Decidable (ptBad N i f s) := by unfold ptBad; infer_instance
def ptS (g : Nat → List UInt8) (L : PutL) (i f : Int) (s : List UInt8) : List UInt8 := over ((look L i.toNat).getD (g i.toNat)) f.toNat s
def ptE (N cap : Nat) (g : Nat → List UInt8) (L : PutL) (i f : Int) (s : List UInt8) : Int := if ptBad N i f s then 2 else wrE N cap L i (ptS g L i f s)
def ptL (N cap : Nat) (g : Nat → List UInt8) (L : PutL) (i f : Int) (s : List UInt8) : PutL := if ptBad N i f s then L else wrL N cap L i (ptS g L i f s)
structure WrOk (N cap : Nat) (L : PutL) : Prop where
  asc : asc L
  ok : PutsOk N L
  cap : L.length ≤ cap
theorem WrOk.nil (N cap : Nat) : WrOk N cap [] := ⟨asc_nil, fun p hp => by simp at hp, Nat.zero_le _⟩
theorem WrOk.wr {N cap : Nat} {L : PutL} (h : WrOk N cap L) (i : Int) (s : List UInt8) : WrOk N cap (wrL N cap L i s) := by
  unfold wrL
  by_cases h0 : wrE N cap L i s = 0
  · rw [if_pos h0]
    unfold wrE at h0
    by_cases h1 : i < 0 ∨ (N : Int) ≤ i ∨ s.length ≠ 64
    · rw [if_pos h1] at h0; cases h0
    · rw [if_neg h1] at h0
      by_cases h2 : look L i.toNat = none ∧ cap ≤ L.length
      · rw [if_pos h2] at h0; cases h0
      · refine ⟨asc_ins h.asc _ _, ok_ins h.ok (by omega) (by omega), ?_⟩
        rw [ins_length h.asc]
        have := h.cap
        split
        · exact this
        · rename_i h3
          have hn : look L i.toNat = none := by cases h4 : look L i.toNat; rfl; rw [h4] at h3; exact absurd rfl h3
          have : ¬ cap ≤ L.length := fun e => h2 ⟨hn, e⟩
          omega
  · rw [if_neg h0]; exact h
theorem WrOk.pt {N cap : Nat} {L : PutL} (h : WrOk N cap L) (g : Nat → List UInt8) (i f : Int) (s : List UInt8) : WrOk N cap (ptL N cap g L i f s) := by
  unfold ptL
  split
  · exact h
  · exact h.wr _ _
theorem val_length {N : Nat} {L : PutL} (h : PutsOk N L) {g : Nat → List UInt8} {i : Nat} (hg : (g i).length = 64) : ((look L i).getD (g i)).length = 64 := by
  cases hl : look L i with
  | none => exact hg
  | some d => exact (h _ (look_mem hl)).2
theorem set_same {rs : List Res} {i : Nat} {r : Res} (h : rs[i]? = some r) : rs.set i r = rs := by
  obtain ⟨hi, he⟩ := List.getElem?_eq_some_iff.1 h
  subst he
  exact List.set_getElem_self hi
section
variable {w W : World} {rs : List Res} {t i j tb b jb F n rec : Nat} {M : Dv} {L : PutL}
structure TxSys (w W : World) (rs : List Res) (t i j tb b jb F n rec : Nat) (M : Dv) (L : PutL) : Prop where
  sys : Sys w W rs
  ht : rs[t]? = some (txR tb b jb M.n L)
  hi : rs[i]? = some (devR b M)
  hj : rs[j]? = some (jourR jb b F n rec)
  ti : i ≠ t
  tj : j ≠ t
  ij : j ≠ i
  up : M.down = false
  wr : M.wr ≤ 1099511627776
  h4 : 4 ≤ n
  h256 : n ≤ 256
  ok : WrOk M.n (capL n) L
theorem TxSys.on (h : TxSys w W rs t i j tb b jb F n rec M L) : ∃ m, TxOn W tb b jb m M L F n rec ∧ ∀ W' L', TxIn W' tb b jb m M.n L' → Only (fun k => k = m) W W' → Sys w W' (rs.set t (txR tb b jb M.n L')) := by
  obtain ⟨S, ⟨m, hT, hS⟩, -, ho, hset, -⟩ := h.sys.use h.ht
  obtain ⟨T, hD, -⟩ := ho i _ h.ti h.hi
  refine ⟨m, ⟨hT, ⟨T, hD⟩, h.sys.mem h.hj, h.up, h.wr, h.h4, h.h256, h.ok.cap⟩, fun W' L' hT' hO => ?_⟩
  refine hset W' (txR tb b jb M.n L') S ⟨hO.os, hO.tape, hO.output, hO.size, fun k hk hn => hO.block k hk fun e => hn ((hS k).2 (.inr e))⟩ ⟨m, hT', hS⟩ fun k hk => .inl hk
theorem TxSys.turn (h : TxSys w W rs t i j tb b jb F n rec M L) {W' : World} {L' : PutL} (hs : Sys w W' (rs.set t (txR tb b jb M.n L'))) (hok : WrOk M.n (capL n) L') : TxSys w W' (rs.set t (txR tb b jb M.n L')) t i j tb b jb F n rec M L' :=
  ⟨hs, List.getElem?_set_self (idx_lt h.ht), by rw [List.getElem?_set_ne (fun e => h.ti e.symm)]; exact h.hi, by rw [List.getElem?_set_ne (fun e => h.tj e.symm)]; exact h.hj, h.ti, h.tj, h.ij, h.up, h.wr, h.h4, h.h256, hok⟩
theorem TxSys.below (h : TxSys w W rs t i j tb b jb F n rec M L) {W' : World} (hb : Below W.heap.size W W') : TxSys w W' rs t i j tb b jb F n rec M L := { h with sys := h.sys.below hb }
theorem sys_txRead (h : TxSys w W rs t i j tb b jb F n rec M L) (k : Int) :
    Calls Tryz.prog 70 #[devp tb, .int .i64 k] W fun e w' => e = .returned (.tuple #[str (rdS M.n M.cur L k), .int .i64 (rdE M.n k)]) ∧ Below W.heap.size W w' := by
  obtain ⟨m, hT, -⟩ := h.on
  unfold rdS rdE
  by_cases hk : k < 0 ∨ (M.n : Int) ≤ k
  · rw [if_pos hk, if_pos hk]
    exact (txRead_out hT k hk).mono fun e w' hx => ⟨hx.1, by rw [← hx.2]; exact Below.refl _ _⟩
  · rw [if_neg hk, if_neg hk]
    obtain ⟨q, rfl⟩ : ∃ q : Nat, k = (q : Int) := ⟨k.toNat, by omega⟩
    exact txRead_any hT q (by omega)
theorem tx_write (h : TxSys w W rs t i j tb b jb F n rec M L) (k : Int) (s : List UInt8) (hs : s.length ≤ 140737488351232) {m : Nat} (hT : TxOn W tb b jb m M L F n rec) :
    Calls Tryz.prog 49 #[devp tb, .int .i64 k, str s] W fun e w' => e = .returned (.int .i64 (wrE M.n (capL n) L k s)) ∧ TxIn w' tb b jb m M.n (wrL M.n (capL n) L k s) ∧ Only (fun k => k = m) W w' := by
  have hcap := h.ok.cap
  unfold wrL
  by_cases h1 : k < 0 ∨ (M.n : Int) ≤ k ∨ s.length ≠ 64
  · have he : wrE M.n (capL n) L k s = 2 := if_pos h1
    rw [he, if_neg (by decide)]
    refine (txWrite_bad hT k s hs h1).mono fun e w' hx => ⟨hx.1, hT.tx.below hx.2, Only.of_below hx.2⟩
  · obtain ⟨q, rfl⟩ : ∃ q : Nat, k = (q : Int) := ⟨k.toNat, by omega⟩
    rw [Int.toNat_natCast]
    by_cases h2 : look L q = none ∧ capL n ≤ L.length
    · have he : wrE M.n (capL n) L (q : Int) s = 4 := by unfold wrE; rw [if_neg h1, Int.toNat_natCast, if_pos h2]
      rw [he, if_neg (by decide)]
      refine (txWrite_full hT q (by omega) s (by omega) h2.1 (by omega)).mono fun e w' hx => ⟨hx.1, hT.tx.below hx.2, Only.of_below hx.2⟩
    · have he : wrE M.n (capL n) L (q : Int) s = 0 := by unfold wrE; rw [if_neg h1, Int.toNat_natCast, if_neg h2]
      rw [he, if_pos rfl]
      refine txWrite_ok hT q (by omega) s (by omega) ?_
      cases hl : look L q with
      | some d => exact .inl rfl
      | none => exact .inr (Nat.lt_of_not_le fun e => h2 ⟨hl, e⟩)
theorem sys_txWrite (h : TxSys w W rs t i j tb b jb F n rec M L) (k : Int) (s : List UInt8) (hs : s.length ≤ 140737488351232) :
    Calls Tryz.prog 49 #[devp tb, .int .i64 k, str s] W fun e w' => e = .returned (.int .i64 (wrE M.n (capL n) L k s)) ∧ TxSys w w' (rs.set t (txR tb b jb M.n (wrL M.n (capL n) L k s))) t i j tb b jb F n rec M (wrL M.n (capL n) L k s) := by
  obtain ⟨m, hT, hset⟩ := h.on
  exact (tx_write h k s hs hT).mono fun e w' hx => ⟨hx.1, h.turn (hset w' _ hx.2.1 hx.2.2) (h.ok.wr k s)⟩
theorem sys_txPatch (h : TxSys w W rs t i j tb b jb F n rec M L) (k f : Int) (s : List UInt8) (hs : s.length ≤ 140737488351232) :
    Calls Tryz.prog 44 #[devp tb, .int .i64 k, .int .i64 f, str s] W fun e w' => e = .returned (.int .i64 (ptE M.n (capL n) M.cur L k f s)) ∧ TxSys w w' (rs.set t (txR tb b jb M.n (ptL M.n (capL n) M.cur L k f s))) t i j tb b jb F n rec M (ptL M.n (capL n) M.cur L k f s) := by
  obtain ⟨m, hT, hset⟩ := h.on
  obtain ⟨S, hS⟩ := hT.dev
  have hok := h.ok.pt M.cur k f s
  suffices hg : Calls Tryz.prog 44 #[devp tb, .int .i64 k, .int .i64 f, str s] W fun e w' => e = .returned (.int .i64 (ptE M.n (capL n) M.cur L k f s)) ∧ TxIn w' tb b jb m M.n (ptL M.n (capL n) M.cur L k f s) ∧ Only (fun k => k = m) W w' from
    hg.mono fun e w' hx => ⟨hx.1, h.turn (hset w' _ hx.2.1 hx.2.2) hok⟩
  unfold ptE ptL
  by_cases hb : ptBad M.n k f s
  · rw [if_pos hb, if_pos hb]
    exact (txPatch_bad hT k f s hs hb).mono fun e w' hx => ⟨hx.1, hT.tx.below hx.2, Only.of_below hx.2⟩
  · rw [if_neg hb, if_neg hb]
    unfold ptBad at hb
    obtain ⟨q, rfl⟩ : ∃ q : Nat, k = (q : Int) := ⟨k.toNat, by omega⟩
    obtain ⟨g, rfl⟩ : ∃ g : Nat, f = (g : Int) := ⟨f.toNat, by omega⟩
    unfold ptS
    simp only [Int.toNat_natCast]
    have h64 := val_length (L := L) h.ok.ok (g := M.cur) (i := q) (hS.fine.cur (by omega))
    have hol := over_length h64 (f := g) (s := s) (by omega)
    refine (txPatch_any hT q (by omega) g s (by omega) h64 (fun r w' => r = .int .i64 (wrE M.n (capL n) L q (over ((look L q).getD (M.cur q)) g s)) ∧ TxIn w' tb b jb m M.n (wrL M.n (capL n) L q (over ((look L q).getD (M.cur q)) g s)) ∧ Only (fun k => k = m) W w') fun V hbV => ?_).mono ?_
    · exact (tx_write (h.below hbV) q _ (by omega) (hT.below hbV)).mono fun e w' hx => ⟨_, hx.1, ⟨rfl, hx.2.1, (Only.of_below hbV).trans hx.2.2 fun j hj => .inl hj⟩, hx.2.2⟩
    · rintro e w' ⟨r, rfl, rfl, h1, h2⟩
      exact ⟨rfl, h1, h2⟩
end
/-! The document's. -/
section
variable {w W : World} {rs : List Res} {r q rb N most : Nat} {f : Nat → List UInt8} {v : Value} {L : PutL}
structure RefSys (w W : World) (rs : List Res) (r q rb : Nat) (v : Value) (N most : Nat) (f : Nat → List UInt8) (L : PutL) : Prop where
  sys : Sys w W rs
  hr : rs[r]? = some (refR rb v L most)
  hq : rs[q]? = some (txtR v (secs N f))
  rq : q ≠ r
  small : N ≤ 4096
  big : most ≤ 256
  ok : WrOk N most L
  each : ∀ i, i < N → (f i).length = 64
theorem RefSys.on (h : RefSys w W rs r q rb v N most f L) : ∃ u, RefIn W rb v u L most ∧ Txt W v (secs N f) ∧ ∀ W' L' u', RefIn W' rb v u' L' most → Only (fun k => k = rb) W W' → (u' = u ∨ ∀ k, u'.ownBlock = some k → W.heap.size ≤ k) → Sys w W' (rs.set r (refR rb v L' most)) := by
  obtain ⟨S, ⟨u, hR, hS⟩, -, ho, hset, -⟩ := h.sys.use h.hr
  refine ⟨u, hR, h.sys.mem h.hq, fun W' L' u' hR' hO hu => ?_⟩
  refine hset W' (refR rb v L' most) (fun k => k = rb ∨ u'.ownBlock = some k) ⟨hO.os, hO.tape, hO.output, hO.size, fun k hk hn => hO.block k hk fun e => hn ((hS k).2 (.inl e))⟩ ⟨u', hR', fun k => Iff.rfl⟩ fun k hk => ?_
  rcases hk with e | e
  · exact .inl ((hS k).2 (.inl e))
  · rcases hu with hu | hu
    · rw [hu] at e; exact .inl ((hS k).2 (.inr e))
    · exact .inr (hu k e)
theorem RefSys.turn (h : RefSys w W rs r q rb v N most f L) {W' : World} {L' : PutL} (hs : Sys w W' (rs.set r (refR rb v L' most))) (hok : WrOk N most L') : RefSys w W' (rs.set r (refR rb v L' most)) r q rb v N most f L' :=
  ⟨hs, List.getElem?_set_self (idx_lt h.hr), by rw [List.getElem?_set_ne (fun e => h.rq e.symm)]; exact h.hq, h.rq, h.small, h.big, hok, h.each⟩
theorem RefSys.below (h : RefSys w W rs r q rb v N most f L) {W' : World} (hb : Below W.heap.size W W') : RefSys w W' rs r q rb v N most f L := { h with sys := h.sys.below hb }
end
end Go.Proofs.YtnfiapjdkjbdhaaGreat
/- Layer 9 (bmap): an indirect block read, written and cut in a transaction; what is asked of all, as mathematics. -/
namespace Go.Proofs.YtnfiapjdkjbdhaaGreat
open Go.RowKit Go.Maps Go.Lib
set_option linter.unusedVariables false
set_option linter.unusedSimpArgs false
set_option maxRecDepth 10000
def lisL (G : Gm) (f : Nat → List UInt8) (L : PutL) (k : Nat) : List Nat := if k = 0 then List.replicate 32 0 else numsL ((look L (secB G k)).getD (f (secB G k)))
theorem secB_lt {G : Gm} {k : Nat} (h1 : 1 ≤ k) (h2 : k ≤ G.b) : secB G k < G.all := by
  unfold secB Gm.all
  rw [G.off_succ 5]
  show G.off 5 + (k - 1) < G.off 5 + G.b
  omega
theorem numsL_lt (s : List UInt8) : ∀ x ∈ numsL s, x < 65536 := by
  intro x hx
  obtain ⟨j, -, rfl⟩ := List.mem_map.1 hx
  exact num2_lt s j
theorem lisL_lt (G : Gm) (f : Nat → List UInt8) (L : PutL) (k : Nat) : ∀ x ∈ lisL G f L k, x < 65536 := by
  intro x hx
  unfold lisL at hx
  split at hx
  · rw [List.eq_of_mem_replicate hx]; decide
  · exact numsL_lt _ x hx
section
variable {w W : World} {rs : List Res} {t i j tb b jb F n rec : Nat} {M : Dv} {L : PutL} {G : Gm}
theorem TxSys.val (h : TxSys w W rs t i j tb b jb F n rec M L) (hN : M.n = G.all) {k : Nat} (h1 : 1 ≤ k) (h2 : k ≤ G.b) : ((look L (secB G k)).getD (M.cur (secB G k))).length = 64 := by
  obtain ⟨m, hT, -⟩ := h.on
  obtain ⟨S, hS⟩ := hT.dev
  exact val_length h.ok.ok (g := M.cur) (hS.fine.cur (by rw [hN]; exact secB_lt h1 h2))
theorem TxSys.lis (h : TxSys w W rs t i j tb b jb F n rec M L) (hN : M.n = G.all) {k : Nat} (h2 : k ≤ G.b) : (lisL G M.cur L k).length = 32 := by
  unfold lisL
  split
  · rfl
  · rw [numsL_length, h.val hN (by omega) h2]
theorem read_tx (h : TxSys w W rs t i j tb b jb F n rec M L) (hG : G.ok) (hN : M.n = G.all) (k : Nat) (hk : k ≤ G.b) :
    Calls Tryz.prog 156 #[devp tb, gv G, w16 k] W fun e w' => e = .returned (.tuple #[lisV (lisL G M.cur L k), .int .i64 0]) ∧ Below W.heap.size W w' := by
  unfold lisL
  by_cases h0 : k = 0
  · subst h0
    rw [if_pos rfl]
    exact bread_zero _ _ _ _ _
  · rw [if_neg h0]
    refine bread_ok _ G hG k (by omega) hk _ (h.val hN (by omega) hk) W fun V hV => ?_
    have hsec := secB_lt (G := G) (k := k) (by omega) hk
    have hr := sys_txRead (h.below hV) ((secB G k : Nat) : Int)
    have hE : rdE M.n ((secB G k : Nat) : Int) = 0 := by unfold rdE; rw [if_neg (by omega)]
    have hS : rdS M.n M.cur L ((secB G k : Nat) : Int) = (look L (secB G k)).getD (M.cur (secB G k)) := by unfold rdS; rw [if_neg (by omega), Int.toNat_natCast]
    rw [hE, hS] at hr
    exact hr
end
def fitB (G : Gm) (x : Im) (c : Nat) : Prop := c ≤ G.b ∧ x.d0 ≤ G.b ∧ x.d1 ≤ G.b ∧ x.d2 ≤ G.b ∧ x.d3 ≤ G.b ∧ x.i ≤ G.b
instance (G : Gm) (x : Im) (c : Nat) : Decidable (fitB G x c) := by unfold fitB; infer_instance
theorem oddB_ok {G : Gm} (hG : G.ok) (n : Nat) : oddB G.i G.b G.j n = decide (G.b < n) := by
  unfold oddB
  have hm := gm_mayI hG
  rw [Bool.eq_iff_iff, decide_eq_true_iff, decide_eq_true_iff]
  constructor
  · rintro ⟨-, h | h⟩
    · exact absurd hm h
    · omega
  · intro h
    exact ⟨by omega, .inr (by omega)⟩
theorem askB_one {G : Gm} (hG : G.ok) (x : Im) (m : Bool) (c : Nat) : askB G.i G.b G.j x m [c] = (decide (fitB G x c) && m) := by
  unfold askB
  rw [decide_eq_true (gm_mayI hG), Bool.true_and]
  congr 1
  rw [Bool.eq_iff_iff]
  simp only [Bool.not_eq_true', List.any_eq_false, decide_eq_true_iff, oddB_ok hG, Im.bl, fitB, List.singleton_append, List.mem_cons, List.not_mem_nil, or_false, Nat.not_lt, forall_eq_or_imp, forall_eq]
  exact decide_eq_true_iff.symm
theorem askB_none {G : Gm} (hG : G.ok) (x : Im) (m : Bool) : askB G.i G.b G.j x m [] = (decide (fitB G x 0) && m) := by
  unfold askB
  rw [decide_eq_true (gm_mayI hG), Bool.true_and]
  congr 1
  rw [Bool.eq_iff_iff]
  simp only [Bool.not_eq_true', List.any_eq_false, decide_eq_true_iff, oddB_ok hG, Im.bl, fitB, List.nil_append, List.mem_cons, List.not_mem_nil, or_false, Nat.not_lt, forall_eq_or_imp, forall_eq, Nat.zero_le, true_and]
def pageP (p : Int) : Prop := 0 ≤ p ∧ p < 36
instance (p : Int) : Decidable (pageP p) := by unfold pageP; infer_instance
end Go.Proofs.YtnfiapjdkjbdhaaGreat
