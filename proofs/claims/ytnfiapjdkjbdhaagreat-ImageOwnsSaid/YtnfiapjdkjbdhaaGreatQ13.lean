import Derived.Test.YtnfiapjdkjbdhaaGreatQ12
namespace Go.Proofs.YtnfiapjdkjbdhaaGreat
open Go.RowKit Go.Maps Go.Lib
set_option linter.unusedVariables false
set_option linter.unusedSimpArgs false
set_option maxRecDepth 10000
structure Sm (G : Gm) : Prop where
  ok : G.ok
  i : G.i ≤ 30
  b : G.b ≤ 60
  j : G.j ≤ 60
theorem Sm.c2 {G : Gm} (h : Sm G) : G.cnt 2 = 1 := by have := h.i; show (G.i + 512) / 512 = 1; omega
theorem Sm.c3 {G : Gm} (h : Sm G) : G.cnt 3 = 1 := by have := h.b; show (G.b + 512) / 512 = 1; omega
theorem Sm.o1 (G : Gm) : G.off 1 = 1 := rfl
theorem Sm.o2 (G : Gm) : G.off 2 = 1 + G.j := rfl
theorem Sm.o3 {G : Gm} (h : Sm G) : G.off 3 = 2 + G.j := by rw [G.off_succ 2, h.c2, Sm.o2]; omega
theorem Sm.o4 {G : Gm} (h : Sm G) : G.off 4 = 3 + G.j := by rw [G.off_succ 3, h.c3, h.o3]; omega
theorem Sm.o5 {G : Gm} (h : Sm G) : G.off 5 = 3 + G.j + (G.i + 1) / 2 := by rw [G.off_succ 4, h.o4]; rfl
theorem Sm.o6 {G : Gm} (h : Sm G) : G.all = 3 + G.j + (G.i + 1) / 2 + G.b := by show G.off 6 = _; rw [G.off_succ 5, h.o5]; rfl
def z64 : List UInt8 := List.replicate 64 0
def padL (s : List UInt8) : List UInt8 := s ++ List.replicate (64 - s.length) 0
theorem padL_length {s : List UInt8} (h : s.length ≤ 64) : (padL s).length = 64 := by simp [padL]; omega
theorem padL_full {s : List UInt8} (h : s.length = 64) : padL s = s := by simp [padL, h]
def vw (f : Nat → List UInt8) (L : PutL) (k : Nat) : List UInt8 := (look L k).getD (f k)
def wE (cap : Nat) (L : PutL) (k : Nat) : Int := if look L k = none ∧ cap ≤ L.length then 4 else 0
def wL (cap : Nat) (L : PutL) (k : Nat) (s : List UInt8) : PutL := if wE cap L k = 0 then ins L k s else L
theorem wr_eq {N cap : Nat} {L : PutL} {k : Nat} {s : List UInt8} (hk : k < N) (hs : s.length = 64) : wrE N cap L (k : Int) s = wE cap L k ∧ wrL N cap L (k : Int) s = wL cap L k s := by
  have e : wrE N cap L (k : Int) s = wE cap L k := by
    unfold wrE wE
    rw [if_neg (by omega), Int.toNat_natCast]
  refine ⟨e, ?_⟩
  unfold wrL wL
  rw [e, Int.toNat_natCast]
theorem wE_cases (cap : Nat) (L : PutL) (k : Nat) : wE cap L k = 0 ∨ wE cap L k = 4 ∧ cap < L.length + 1 := by
  unfold wE
  split
  · rename_i h; exact .inr ⟨rfl, by omega⟩
  · exact .inl rfl
theorem wL_len {cap : Nat} {L : PutL} (h : asc L) (k : Nat) (s : List UInt8) : (wL cap L k s).length ≤ L.length + 1 := by
  unfold wL
  split
  · rw [ins_length h]; split <;> omega
  · omega
theorem vw_wL {f : Nat → List UInt8} {cap : Nat} {L : PutL} {k : Nat} {s : List UInt8} (h : wE cap L k = 0) : vw f (wL cap L k s) = upd (vw f L) k s := by
  funext q
  unfold vw wL
  rw [if_pos h, look_ins]
  unfold upd
  split <;> rfl
def Ours (G : Gm) (L : PutL) : Prop := ∀ p ∈ L, 1 + G.j ≤ p.1
theorem ours_nil (G : Gm) : Ours G [] := fun p hp => by simp at hp
theorem ours_wL {G : Gm} {cap : Nat} {L : PutL} (h : Ours G L) {k : Nat} (hk : 1 + G.j ≤ k) (s : List UInt8) : Ours G (wL cap L k s) := by
  unfold wL
  split
  · intro p hp
    rcases ins_mem hp with rfl | hp
    · exact hk
    · exact h p hp
  · exact h
theorem vw_nil (f : Nat → List UInt8) : vw f [] = f := rfl
/-! What an inode has. -/
def lsV (G : Gm) (v : Nat → List UInt8) (k : Nat) : List Nat := if k = 0 then List.replicate 32 0 else numsL (v (secB G k))
theorem lis_vw (G : Gm) (f : Nat → List UInt8) (L : PutL) (k : Nat) : lisL G f L k = lsV G (vw f L) k := rfl
def pgV (G : Gm) (v : Nat → List UInt8) (x : Im) : List Nat := x.dir ++ lsV G v x.i
def inV (x : Im) : List Nat := if x.i = 0 then [] else [x.i]
def ownV (G : Gm) (v : Nat → List UInt8) (x : Im) : List Nat := (pgV G v x).filter (fun b => b != 0) ++ inV x
theorem mem_inV {x : Im} {c : Nat} : c ∈ inV x ↔ c ≠ 0 ∧ c = x.i := by
  unfold inV
  split
  · rename_i h; simp [h]
  · rename_i h; simp only [List.mem_singleton]; exact ⟨fun e => ⟨by omega, e⟩, fun e => e.2⟩
theorem mem_ownV {G : Gm} {v : Nat → List UInt8} {x : Im} {c : Nat} : c ∈ ownV G v x ↔ c ≠ 0 ∧ (c ∈ pgV G v x ∨ c = x.i) := by
  unfold ownV
  rw [List.mem_append, List.mem_filter, mem_inV]
  simp only [bne_iff_ne]
  constructor
  · rintro (⟨h1, h2⟩ | ⟨h1, h2⟩)
    · exact ⟨h2, .inl h1⟩
    · exact ⟨h1, .inr h2⟩
  · rintro ⟨h1, h2 | h2⟩
    · exact .inl ⟨h2, h1⟩
    · exact .inr ⟨h1, h2⟩
def datV (G : Gm) (v : Nat → List UInt8) (x : Im) (p : Nat) : List UInt8 := if (pgV G v x).getD p 0 = 0 then z64 else v (secB G ((pgV G v x).getD p 0))
def sI (G : Gm) (k : Nat) : Nat := G.off 4 + (k - 1) / 2
def pI (k : Nat) : Nat := (k - 1) % 2 * 32
def inB (G : Gm) (v : Nat → List UInt8) (k : Nat) : List UInt8 := ((v (sI G k)).drop (pI k)).take 32
def Rg (G : Gm) (k : Nat) : Prop := 1 ≤ k ∧ k ≤ G.i
def Bg (G : Gm) (c : Nat) : Prop := 1 ≤ c ∧ c ≤ G.b
structure InoOk (G : Gm) (v : Nat → List UInt8) (x : Im) : Prop where
  fits : x.fits
  may : x.may
  le : ∀ c ∈ pgV G v x, c ≤ G.b
  ile : x.i ≤ G.b
  zero : ∀ p, pagesN x.z ≤ p → (pgV G v x).getD p 0 = 0
theorem InoOk.own {G : Gm} {v : Nat → List UInt8} {x : Im} (h : InoOk G v x) {c : Nat} (hc : c ∈ ownV G v x) : Bg G c := by
  obtain ⟨h1, h2⟩ := mem_ownV.1 hc
  refine ⟨by omega, ?_⟩
  rcases h2 with h2 | h2
  · exact h.le c h2
  · rw [h2]; exact h.ile
theorem InoOk.fit {G : Gm} {v : Nat → List UInt8} {x : Im} (h : InoOk G v x) {c : Nat} (hc : c ≤ G.b) : fitB G x c := by
  have hd : ∀ y ∈ x.dir, y ≤ G.b := fun y hy => h.le y (List.mem_append_left _ hy)
  refine ⟨hc, hd _ (by simp [Im.dir]), hd _ (by simp [Im.dir]), hd _ (by simp [Im.dir]), hd _ (by simp [Im.dir]), h.ile⟩
structure Own (G : Gm) (v : Nat → List UInt8) (tab : Nat → Im) (E : List Nat) : Prop where
  len : ∀ k, k < G.all → (v k).length = 64
  ino : ∀ j, Rg G j → InoOk G v (tab j)
  nd : ∀ j, Rg G j → (ownV G v (tab j)).Nodup
  apart : ∀ i j, Rg G i → Rg G j → i ≠ j → ∀ c ∈ ownV G v (tab i), c ∉ ownV G v (tab j)
  en : E.Nodup
  er : ∀ c ∈ E, Bg G c
  ea : ∀ j, Rg G j → ∀ c ∈ E, c ∉ ownV G v (tab j)
  bit : ∀ c, Bg G c → (Bits.bitL (v (G.off 3)) c = true ↔ c ∈ E ∨ ∃ j, Rg G j ∧ c ∈ ownV G v (tab j))
  bit0 : Bits.bitL (v (G.off 3)) 0 = true
def Tab (G : Gm) (v : Nat → List UInt8) (tab : Nat → Im) (k : Nat) : Prop := ∀ j, Rg G j → j ≠ k → inB G v j = (tab j).putL
section
variable {G : Gm} {v : Nat → List UInt8} {tab : Nat → Im} {E : List Nat}
theorem secB_off {c : Nat} : G.off 5 ≤ secB G c := by unfold secB; omega
theorem secB_inj {c d : Nat} (h1 : 1 ≤ c) (h2 : 1 ≤ d) (h : secB G c = secB G d) : c = d := by unfold secB at h; omega
theorem sI_lt (hG : Sm G) {j : Nat} (hj : Rg G j) : G.off 4 ≤ sI G j ∧ sI G j < G.off 5 := by
  have h1 := hj.1; have h2 := hj.2
  unfold sI
  rw [hG.o5, hG.o4]
  omega
theorem off_lt (hG : Sm G) : G.off 2 < G.off 3 ∧ G.off 3 < G.off 4 ∧ G.off 4 ≤ G.off 5 ∧ G.off 5 ≤ G.all := by
  rw [hG.o5, hG.o4, hG.o3, hG.o6, Sm.o2]
  omega
theorem secB_all {c : Nat} (h : Bg G c) : secB G c < G.all := secB_lt h.1 h.2
theorem lsV_congr {v' : Nat → List UInt8} {k : Nat} (h : k ≠ 0 → v' (secB G k) = v (secB G k)) : lsV G v' k = lsV G v k := by
  unfold lsV
  by_cases hk : k = 0
  · rw [if_pos hk, if_pos hk]
  · rw [if_neg hk, if_neg hk, h hk]
theorem pgV_congr {v' : Nat → List UInt8} {x : Im} (h : x.i ≠ 0 → v' (secB G x.i) = v (secB G x.i)) : pgV G v' x = pgV G v x := by unfold pgV; rw [lsV_congr h]
theorem ownV_congr {v' : Nat → List UInt8} {x : Im} (h : x.i ≠ 0 → v' (secB G x.i) = v (secB G x.i)) : ownV G v' x = ownV G v x := by unfold ownV; rw [pgV_congr h]
theorem InoOk.congr {v' : Nat → List UInt8} {x : Im} (hx : InoOk G v x) (h : x.i ≠ 0 → v' (secB G x.i) = v (secB G x.i)) : InoOk G v' x :=
  ⟨hx.fits, hx.may, by rw [pgV_congr h]; exact hx.le, hx.ile, by rw [pgV_congr h]; exact hx.zero⟩
theorem lsV_length (hl : ∀ k, k < G.all → (v k).length = 64) {k : Nat} (hk : k ≤ G.b) : (lsV G v k).length = 32 := by
  unfold lsV
  split
  · simp
  · rw [numsL_length, hl _ (secB_lt (by omega) hk)]
theorem Own.pg_length (h : Own G v tab E) {j : Nat} (hj : Rg G j) : (pgV G v (tab j)).length = 36 := by
  unfold pgV
  rw [List.length_append, lsV_length h.len (h.ino j hj).ile]
  rfl
theorem ind_own {x : Im} (h : x.i ≠ 0) : x.i ∈ ownV G v x := mem_ownV.2 ⟨h, .inr rfl⟩
theorem pg_own {x : Im} {p : Nat} (h : (pgV G v x).getD p 0 ≠ 0) : (pgV G v x).getD p 0 ∈ ownV G v x := by
  refine mem_ownV.2 ⟨h, .inl ?_⟩
  rw [List.getD_eq_getElem?_getD] at h ⊢
  cases he : (pgV G v x)[p]? with
  | none => rw [he] at h; exact absurd rfl h
  | some c => rw [Option.getD_some]; exact List.mem_of_getElem? he
theorem Own.congr {v' : Nat → List UInt8} (h : Own G v tab E) (hl : ∀ k, k < G.all → (v' k).length = 64) (h3 : v' (G.off 3) = v (G.off 3)) (hi : ∀ j, Rg G j → (tab j).i ≠ 0 → v' (secB G (tab j).i) = v (secB G (tab j).i)) : Own G v' tab E where
  len := hl
  ino j hj := (h.ino j hj).congr (hi j hj)
  nd j hj := by rw [ownV_congr (hi j hj)]; exact h.nd j hj
  apart i j hi' hj hne c hc := by rw [ownV_congr (hi i hi')] at hc; rw [ownV_congr (hi j hj)]; exact h.apart i j hi' hj hne c hc
  en := h.en
  er := h.er
  ea j hj c hc := by rw [ownV_congr (hi j hj)]; exact h.ea j hj c hc
  bit c hc := by
    rw [h3, h.bit c hc]
    constructor
    · rintro (h1 | ⟨j, hj, h1⟩)
      · exact .inl h1
      · exact .inr ⟨j, hj, by rw [ownV_congr (hi j hj)]; exact h1⟩
    · rintro (h1 | ⟨j, hj, h1⟩)
      · exact .inl h1
      · exact .inr ⟨j, hj, by rw [ownV_congr (hi j hj)] at h1; exact h1⟩
  bit0 := by rw [h3]; exact h.bit0
theorem len_upd (hl : ∀ k, k < G.all → (v k).length = 64) {k : Nat} {s : List UInt8} (hs : s.length = 64) : ∀ q, q < G.all → (upd v k s q).length = 64 := by
  intro q hq
  unfold upd
  split
  · exact hs
  · exact hl q hq
theorem Own.write (h : Own G v tab E) {k : Nat} {s : List UInt8} (hs : s.length = 64) (h3 : k ≠ G.off 3) (hi : ∀ j, Rg G j → (tab j).i ≠ 0 → k ≠ secB G (tab j).i) : Own G (upd v k s) tab E :=
  h.congr (len_upd h.len hs) (upd_other _ _ fun e => h3 e.symm) fun j hj h0 => upd_other _ _ fun e => hi j hj h0 e.symm
theorem Own.move (h : Own G v tab E) {v' : Nat → List UInt8} {j0 : Nat} (h0 : Rg G j0) {x' : Im} {E' : List Nat} (hp : (ownV G v' x' ++ E').Perm (ownV G v (tab j0) ++ E)) (hx : InoOk G v' x') (hl : ∀ k, k < G.all → (v' k).length = 64)
    (h3 : v' (G.off 3) = v (G.off 3)) (hi : ∀ j, Rg G j → j ≠ j0 → (tab j).i ≠ 0 → v' (secB G (tab j).i) = v (secB G (tab j).i)) : Own G v' (upd tab j0 x') E' := by
  have hnd : (ownV G v (tab j0) ++ E).Nodup := List.nodup_append.2 ⟨h.nd j0 h0, h.en, fun a ha b hb e => h.ea j0 h0 b hb (e ▸ ha)⟩
  have hnd' := hp.nodup_iff.2 hnd
  obtain ⟨n1, n2, n3⟩ := List.nodup_append.1 hnd'
  have hm : ∀ c, c ∈ ownV G v' x' ∨ c ∈ E' ↔ c ∈ ownV G v (tab j0) ∨ c ∈ E := fun c => by
    rw [← List.mem_append, ← List.mem_append]; exact hp.mem_iff
  have ho : ∀ j, Rg G j → j ≠ j0 → ownV G v' (upd tab j0 x' j) = ownV G v (tab j) := fun j hj hne => by
    rw [upd_other _ _ hne]; exact ownV_congr (hi j hj hne)
  have hs : upd tab j0 x' j0 = x' := upd_same _ _ _
  have old : ∀ j, Rg G j → j ≠ j0 → ∀ c, c ∈ ownV G v' x' ∨ c ∈ E' → c ∉ ownV G v (tab j) := fun j hj hne c hc => by
    rcases (hm c).1 hc with h1 | h1
    · exact h.apart j0 j h0 hj (fun e => hne e.symm) c h1
    · exact h.ea j hj c h1
  refine ⟨hl, fun j hj => ?_, fun j hj => ?_, fun i j hi' hj hne c hc => ?_, n2, fun c hc => ?_, fun j hj c hc => ?_, fun c hc => ?_, by rw [h3]; exact h.bit0⟩
  · by_cases e : j = j0
    · rw [e, hs]; exact hx
    · rw [upd_other _ _ e]; exact (h.ino j hj).congr (hi j hj e)
  · by_cases e : j = j0
    · rw [e, hs]; exact n1
    · rw [ho j hj e]; exact h.nd j hj
  · by_cases e : i = j0
    · rw [e, hs] at hc
      have hj0 : j ≠ j0 := fun e2 => hne (e.trans e2.symm)
      rw [ho j hj hj0]
      exact old j hj hj0 c (.inl hc)
    · rw [ho i hi' e] at hc
      by_cases e2 : j = j0
      · rw [e2, hs]
        intro hc2
        exact old i hi' e c (.inl hc2) hc
      · rw [ho j hj e2]
        exact h.apart i j hi' hj hne c hc
  · rcases (hm c).1 (.inr hc) with h1 | h1
    · exact (h.ino j0 h0).own h1
    · exact h.er c h1
  · by_cases e : j = j0
    · rw [e, hs]
      exact fun h1 => n3 c h1 c hc rfl
    · rw [ho j hj e]
      exact old j hj e c (.inr hc)
  · rw [h3, h.bit c hc]
    constructor
    · rintro (h1 | ⟨j, hj, h1⟩)
      · rcases (hm c).2 (.inr h1) with h2 | h2
        · exact .inr ⟨j0, h0, by rw [hs]; exact h2⟩
        · exact .inl h2
      · by_cases e : j = j0
        · rw [e] at h1
          rcases (hm c).2 (.inl h1) with h2 | h2
          · exact .inr ⟨j0, h0, by rw [hs]; exact h2⟩
          · exact .inl h2
        · exact .inr ⟨j, hj, by rw [ho j hj e]; exact h1⟩
    · rintro (h1 | ⟨j, hj, h1⟩)
      · rcases (hm c).1 (.inr h1) with h2 | h2
        · exact .inr ⟨j0, h0, h2⟩
        · exact .inl h2
      · by_cases e : j = j0
        · rw [e, hs] at h1
          rcases (hm c).1 (.inl h1) with h2 | h2
          · exact .inr ⟨j0, h0, h2⟩
          · exact .inl h2
        · exact .inr ⟨j, hj, by rw [ho j hj e] at h1; exact h1⟩
theorem upd_self {α : Type} (f : Nat → α) (i : Nat) : upd f i (f i) = f := by
  funext j
  unfold upd
  split
  · rename_i h; rw [h]
  · rfl
/-! Bits. -/
theorem Own.bits (h : Own G v tab E) (hG : Sm G) : (v (G.off 3)).length = 64 := h.len _ (by have := off_lt hG; omega)
theorem Own.alloc (h : Own G v tab E) (hG : Sm G) {b : Nat} (hb : Bg G b) (hf : Bits.bitL (v (G.off 3)) b = false) : Own G (upd v (G.off 3) (Bits.setL (v (G.off 3)) b true)) tab (b :: E) := by
  have h60 := hG.b
  have hlen := h.bits hG
  have hno : ¬ (b ∈ E ∨ ∃ j, Rg G j ∧ b ∈ ownV G v (tab j)) := fun e => by have := (h.bit b hb).2 e; rw [hf] at this; cases this
  have hsl : (Bits.setL (v (G.off 3)) b true).length = 64 := by unfold Bits.setL; rw [List.length_set]; exact hlen
  have hi : ∀ j, Rg G j → (tab j).i ≠ 0 → upd v (G.off 3) (Bits.setL (v (G.off 3)) b true) (secB G (tab j).i) = v (secB G (tab j).i) := fun j hj _ =>
    upd_other _ _ (by have := off_lt hG; have := @secB_off G (tab j).i; omega)
  have hb8 : b < 8 * (v (G.off 3)).length := by have := hb.2; omega
  refine ⟨len_upd h.len hsl, fun j hj => (h.ino j hj).congr (hi j hj), fun j hj => by rw [ownV_congr (hi j hj)]; exact h.nd j hj, fun i j h1 hj hne c hc => by rw [ownV_congr (hi i h1)] at hc; rw [ownV_congr (hi j hj)]; exact h.apart i j h1 hj hne c hc, ?_, ?_, ?_, ?_, ?_⟩
  · exact List.nodup_cons.2 ⟨fun e => hno (.inl e), h.en⟩
  · intro c hc
    rcases List.mem_cons.1 hc with rfl | hc
    · exact hb
    · exact h.er c hc
  · intro j hj c hc
    rw [ownV_congr (hi j hj)]
    rcases List.mem_cons.1 hc with rfl | hc
    · exact fun e => hno (.inr ⟨j, hj, e⟩)
    · exact h.ea j hj c hc
  · intro c hc
    rw [upd_same, Bits.setL_bit _ _ _ _ hb8]
    by_cases e : c = b
    · rw [if_pos e, e]
      simp
    · rw [if_neg e, h.bit c hc]
      constructor
      · rintro (h1 | ⟨j, hj, h1⟩)
        · exact .inl (List.mem_cons_of_mem _ h1)
        · exact .inr ⟨j, hj, by rw [ownV_congr (hi j hj)]; exact h1⟩
      · rintro (h1 | ⟨j, hj, h1⟩)
        · rcases List.mem_cons.1 h1 with h1 | h1
          · exact absurd h1 e
          · exact .inl h1
        · exact .inr ⟨j, hj, by rw [ownV_congr (hi j hj)] at h1; exact h1⟩
  · rw [upd_same, Bits.setL_bit _ _ _ _ hb8, if_neg (by have := hb.1; omega)]
    exact h.bit0
theorem Own.give {b : Nat} (h : Own G v tab (b :: E)) (hG : Sm G) : Own G (upd v (G.off 3) (Bits.setL (v (G.off 3)) b false)) tab E := by
  have hb := h.er b (List.mem_cons_self)
  have h60 := hG.b
  have hlen := h.bits hG
  have hsl : (Bits.setL (v (G.off 3)) b false).length = 64 := by unfold Bits.setL; rw [List.length_set]; exact hlen
  have hi : ∀ j, Rg G j → (tab j).i ≠ 0 → upd v (G.off 3) (Bits.setL (v (G.off 3)) b false) (secB G (tab j).i) = v (secB G (tab j).i) := fun j hj _ =>
    upd_other _ _ (by have := off_lt hG; have := @secB_off G (tab j).i; omega)
  have hb8 : b < 8 * (v (G.off 3)).length := by have := hb.2; omega
  obtain ⟨hn1, hn2⟩ := List.nodup_cons.1 h.en
  refine ⟨len_upd h.len hsl, fun j hj => (h.ino j hj).congr (hi j hj), fun j hj => by rw [ownV_congr (hi j hj)]; exact h.nd j hj, fun i j h1 hj hne c hc => by rw [ownV_congr (hi i h1)] at hc; rw [ownV_congr (hi j hj)]; exact h.apart i j h1 hj hne c hc, hn2, fun c hc => h.er c (List.mem_cons_of_mem _ hc), fun j hj c hc => by rw [ownV_congr (hi j hj)]; exact h.ea j hj c (List.mem_cons_of_mem _ hc), ?_, ?_⟩
  · intro c hc
    rw [upd_same, Bits.setL_bit _ _ _ _ hb8]
    by_cases e : c = b
    · rw [if_pos e, e]
      refine ⟨fun h1 => Bool.noConfusion h1, ?_⟩
      rintro (h1 | ⟨j, hj, h1⟩)
      · exact absurd h1 hn1
      · rw [ownV_congr (hi j hj)] at h1
        exact absurd h1 (h.ea j hj b (List.mem_cons_self))
    · rw [if_neg e, h.bit c hc]
      constructor
      · rintro (h1 | ⟨j, hj, h1⟩)
        · rcases List.mem_cons.1 h1 with h1 | h1
          · exact absurd h1 e
          · exact .inl h1
        · exact .inr ⟨j, hj, by rw [ownV_congr (hi j hj)]; exact h1⟩
      · rintro (h1 | ⟨j, hj, h1⟩)
        · exact .inl (List.mem_cons_of_mem _ h1)
        · exact .inr ⟨j, hj, by rw [ownV_congr (hi j hj)] at h1; exact h1⟩
  · rw [upd_same, Bits.setL_bit _ _ _ _ hb8, if_neg (by have := hb.1; omega)]
    exact h.bit0
end
end Go.Proofs.YtnfiapjdkjbdhaaGreat
/- Layer 11 (image): what becomes of a disk, as mathematics: an inode that is stored, a block that is set, pages that are cut. -/
namespace Go.Proofs.YtnfiapjdkjbdhaaGreat
open Go.RowKit Go.Maps Go.Lib
set_option linter.unusedVariables false
set_option linter.unusedSimpArgs false
set_option maxRecDepth 10000
section
variable {G : Gm} {v : Nat → List UInt8} {tab : Nat → Im} {E : List Nat}
/-! Inodes on the disk. -/
theorem over_get (B s : List UInt8) (f : Nat) (h : f + s.length ≤ B.length) : ((over B f s).drop f).take s.length = s := by
  unfold over
  rw [List.append_assoc, List.drop_append, List.length_take, Nat.min_eq_left (by omega), Nat.sub_self, List.drop_zero, List.drop_eq_nil_of_le (by rw [List.length_take]; omega), List.nil_append, List.take_left']
  rfl
theorem over_else (B s : List UInt8) (f g n : Nat) (h : f + s.length ≤ B.length) (hd : g + n ≤ f ∨ f + s.length ≤ g) : ((over B f s).drop g).take n = (B.drop g).take n := by
  apply List.ext_getElem?
  intro i
  unfold over
  rw [List.getElem?_take, List.getElem?_take]
  split
  · rename_i hi
    rw [List.getElem?_drop, List.getElem?_drop]
    rcases hd with hd | hd
    · rw [List.append_assoc, List.getElem?_append_left (by rw [List.length_take]; omega), List.getElem?_take, if_pos (by omega)]
    · rw [List.getElem?_append_right (by rw [List.length_append, List.length_take]; omega), List.length_append, List.length_take, List.getElem?_drop]
      congr 1
      omega
  · rfl
theorem pI_cases (k : Nat) : pI k = 0 ∨ pI k = 32 := by unfold pI; omega
theorem inB_write (hG : Sm G) {k : Nat} {s : List UInt8} (hk : k < G.off 4 ∨ G.off 5 ≤ k) {j : Nat} (hj : Rg G j) : inB G (upd v k s) j = inB G v j := by
  unfold inB
  rw [upd_other _ _ (by have := sI_lt hG hj; omega)]
theorem Tab.write {k0 : Nat} (h : Tab G v tab k0) (hG : Sm G) {k : Nat} {s : List UInt8} (hk : k < G.off 4 ∨ G.off 5 ≤ k) : Tab G (upd v k s) tab k0 := fun j hj hne => by rw [inB_write hG hk hj]; exact h j hj hne
theorem Tab.upd {k0 j0 : Nat} (h : Tab G v tab k0) (x : Im) (hk : k0 = 0 ∨ k0 = j0) : Tab G v (upd tab j0 x) j0 := fun j hj hne => by
  rw [upd_other _ _ hne]
  refine h j hj ?_
  rcases hk with e | e
  · have := hj.1; omega
  · omega
theorem Tab.zero (h : Tab G v tab 0) {j : Nat} (hj : Rg G j) : inB G v j = (tab j).putL := h j hj (by have := hj.1; omega)
theorem Tab.put {j0 : Nat} (h : Tab G v tab j0) (hG : Sm G) (hl : (v (sI G j0)).length = 64) (h0 : Rg G j0) : Tab G (Go.Proofs.YtnfiapjdkjbdhaaGreat.upd v (sI G j0) (over (v (sI G j0)) (pI j0) (tab j0).putL)) tab 0 := by
  intro j hj _
  have hp := putL_length (tab j0)
  have hc := pI_cases j0
  by_cases e : j = j0
  · subst e
    unfold inB
    rw [upd_same]
    have := over_get (v (sI G j)) (tab j).putL (pI j) (by omega)
    rw [hp] at this
    exact this
  · rw [← h j hj e]
    unfold inB
    by_cases e2 : sI G j = sI G j0
    · rw [e2, upd_same]
      refine over_else _ _ _ _ _ (by omega) ?_
      have h1 := hj.1; have h2 := h0.1
      unfold sI at e2
      unfold pI
      omega
    · rw [upd_other _ _ e2]
theorem Own.putIno (h : Own G v tab E) (hG : Sm G) {j0 : Nat} (h0 : Rg G j0) {s : List UInt8} (hs : s.length = 64) : Own G (upd v (sI G j0) s) tab E := by
  have h1 := sI_lt hG h0
  have h2 := off_lt hG
  refine h.write hs (by omega) fun j hj _ => ?_
  have := @secB_off G (tab j).i
  omega
theorem pg_write {x : Im} {k : Nat} {s : List UInt8} (h : x.i ≠ 0 → k ≠ secB G x.i) : pgV G (upd v k s) x = pgV G v x := pgV_congr fun h0 => upd_other _ _ fun e => h h0 e.symm
theorem dat_write {x : Im} {k : Nat} {s : List UInt8} (h : x.i ≠ 0 → k ≠ secB G x.i) {p : Nat} (hp : (pgV G v x).getD p 0 ≠ 0 → k ≠ secB G ((pgV G v x).getD p 0)) : datV G (upd v k s) x p = datV G v x p := by
  unfold datV
  rw [pg_write h]
  split
  · rfl
  · rename_i h1
    exact upd_other _ _ fun e => hp h1 e.symm
theorem dat_low {x : Im} {k : Nat} {s : List UInt8} (hk : k < G.off 5) (p : Nat) : datV G (upd v k s) x p = datV G v x p :=
  dat_write (fun _ => by have := @secB_off G x.i; omega) fun _ => by have := @secB_off G ((pgV G v x).getD p 0); omega
theorem pg_low {x : Im} {k : Nat} {s : List UInt8} (hk : k < G.off 5) : pgV G (upd v k s) x = pgV G v x := pg_write fun _ => by have := @secB_off G x.i; omega
theorem Own.spare (h : Own G v tab E) (hG : Sm G) {b : Nat} (hb : b ∈ E) {s : List UInt8} (hs : s.length = 64) : Own G (upd v (secB G b) s) tab E := by
  have h2 := off_lt hG
  have hr := h.er b hb
  have := @secB_off G b
  refine h.write hs (by omega) fun j hj h0 e => ?_
  have hji : 1 ≤ (tab j).i := by omega
  have := secB_inj hr.1 hji e
  exact h.ea j hj b hb (this ▸ ind_own h0)
theorem Own.dat_spare (h : Own G v tab E) {b : Nat} (hb : b ∈ E) {s : List UInt8} {j : Nat} (hj : Rg G j) (p : Nat) : datV G (upd v (secB G b) s) (tab j) p = datV G v (tab j) p := by
  have hr := h.er b hb
  have hno : ∀ c, c ∈ ownV G v (tab j) → secB G b ≠ secB G c := fun c hc e => by
    have h1 := (h.ino j hj).own hc
    have := secB_inj hr.1 h1.1 e
    exact h.ea j hj b hb (this ▸ hc)
  exact dat_write (fun h0 => hno _ (ind_own h0)) fun h0 => hno _ (pg_own h0)
theorem Own.pg_spare (h : Own G v tab E) {b : Nat} (hb : b ∈ E) {s : List UInt8} {j : Nat} (hj : Rg G j) : pgV G (upd v (secB G b) s) (tab j) = pgV G v (tab j) := by
  have hr := h.er b hb
  refine pg_write fun h0 e => ?_
  have h1 := (h.ino j hj).own (ind_own h0)
  have := secB_inj hr.1 h1.1 e
  exact h.ea j hj b hb (this ▸ ind_own h0)
theorem Own.page (h : Own G v tab E) (hG : Sm G) {j0 : Nat} (h0 : Rg G j0) {p : Nat} (hp : (pgV G v (tab j0)).getD p 0 ≠ 0) {s : List UInt8} (hs : s.length = 64) : Own G (upd v (secB G ((pgV G v (tab j0)).getD p 0)) s) tab E := by
  have h2 := off_lt hG
  have := @secB_off G ((pgV G v (tab j0)).getD p 0)
  have hm := pg_own hp
  refine h.write hs (by omega) fun j hj hi e => ?_
  have e2 := secB_inj (by omega) (by omega) e
  by_cases ej : j = j0
  · subst ej
    have hn := h.nd j h0
    unfold ownV at hn
    obtain ⟨-, -, hn⟩ := List.nodup_append.1 hn
    refine hn _ (List.mem_filter.2 ⟨?_, by simpa using hp⟩) _ (mem_inV.2 ⟨hp, e2⟩) rfl
    rcases (mem_ownV.1 hm).2 with h3 | h3
    · exact h3
    · rw [List.getD_eq_getElem?_getD] at hp ⊢
      cases he : (pgV G v (tab j))[p]? with
      | none => rw [he] at hp; exact absurd rfl hp
      | some c => rw [Option.getD_some]; exact List.mem_of_getElem? he
  · exact h.apart j0 j h0 hj (fun e => ej e.symm) _ hm (by rw [e2]; exact ind_own hi)
theorem pg_inj {x : Im} (h : (ownV G v x).Nodup) {p q : Nat} (hp : (pgV G v x).getD p 0 ≠ 0) (he : (pgV G v x).getD p 0 = (pgV G v x).getD q 0) : p = q := by
  have hn := (List.nodup_append.1 h).1
  generalize pgV G v x = l at *
  rw [List.nodup_iff_pairwise_ne, List.pairwise_filter, List.pairwise_iff_getElem] at hn
  rw [List.getD_eq_getElem?_getD] at hp he
  rw [List.getD_eq_getElem?_getD] at he
  cases e1 : l[p]? with
  | none => rw [e1] at hp; exact absurd rfl hp
  | some a =>
    rw [e1, Option.getD_some] at hp he
    cases e2 : l[q]? with
    | none => rw [e2, Option.getD_none] at he; exact absurd he hp
    | some b =>
      rw [e2, Option.getD_some] at he
      obtain ⟨hpl, hpe⟩ := List.getElem?_eq_some_iff.1 e1
      obtain ⟨hql, hqe⟩ := List.getElem?_eq_some_iff.1 e2
      rcases Nat.lt_trichotomy p q with h1 | h1 | h1
      · exact absurd (hpe.trans (he.trans hqe.symm)) (hn p q hpl hql h1 (by rw [hpe]; simpa using hp) (by rw [hqe, <- he]; simpa using hp))
      · exact h1
      · exact absurd (hqe.trans (he.symm.trans hpe.symm)) (hn q p hql hpl h1 (by rw [hqe, <- he]; simpa using hp) (by rw [hpe]; simpa using hp))
theorem Own.page_dat (h : Own G v tab E) {j0 : Nat} (h0 : Rg G j0) {p : Nat} (hp : (pgV G v (tab j0)).getD p 0 ≠ 0) {s : List UInt8} (q : Nat) :
    datV G (upd v (secB G ((pgV G v (tab j0)).getD p 0)) s) (tab j0) q = if q = p then s else datV G v (tab j0) q := by
  have hm := pg_own hp
  have hni : (tab j0).i ≠ 0 → secB G ((pgV G v (tab j0)).getD p 0) ≠ secB G (tab j0).i := fun hi e => by
    have e2 := secB_inj (by omega) (by omega) e
    have hn := h.nd j0 h0
    unfold ownV at hn
    obtain ⟨-, -, hn⟩ := List.nodup_append.1 hn
    refine hn _ (List.mem_filter.2 ⟨?_, by simpa using hp⟩) _ (mem_inV.2 ⟨hp, e2⟩) rfl
    rw [List.getD_eq_getElem?_getD] at hp ⊢
    cases he : (pgV G v (tab j0))[p]? with
    | none => rw [he] at hp; exact absurd rfl hp
    | some c => rw [Option.getD_some]; exact List.mem_of_getElem? he
  by_cases e : q = p
  · subst e
    rw [if_pos rfl]
    unfold datV
    rw [pg_write hni, if_neg hp, upd_same]
  · rw [if_neg e]
    refine dat_write hni fun h1 e1 => e ?_
    exact (pg_inj (h.nd j0 h0) hp (secB_inj (by omega) (by omega) e1)).symm
end
end Go.Proofs.YtnfiapjdkjbdhaaGreat
/- Layer 11 (image): what becomes of an inode and of what is allocated, as mathematics: an indirect block begun, a page's block set, pages cut, a size. -/
namespace Go.Proofs.YtnfiapjdkjbdhaaGreat
open Go.RowKit Go.Maps Go.Lib
set_option linter.unusedVariables false
set_option linter.unusedSimpArgs false
set_option maxRecDepth 10000
section
variable {G : Gm} {v : Nat → List UInt8} {tab : Nat → Im} {E : List Nat}
theorem numsL_zero : numsL z64 = List.replicate 32 0 := by decide
theorem Own.begin {b : Nat} (h : Own G v tab (b :: E)) (hG : Sm G) {j0 : Nat} (h0 : Rg G j0) (hi : (tab j0).i = 0) (hz : 256 < (tab j0).z) (hk : (tab j0).k ≠ 0) :
    Own G (upd v (secB G b) z64) (upd tab j0 { tab j0 with i := b }) E ∧ pgV G (upd v (secB G b) z64) { tab j0 with i := b } = pgV G v (tab j0) ∧ ∀ q, datV G (upd v (secB G b) z64) { tab j0 with i := b } q = datV G v (tab j0) q := by
  have hb := h.er b List.mem_cons_self
  have hs := h.spare hG List.mem_cons_self (s := z64) (by rfl)
  have hbs := hb.1
  have hx := h.ino j0 h0
  have hpg : pgV G (upd v (secB G b) z64) { tab j0 with i := b } = pgV G v (tab j0) := by
    unfold pgV lsV
    rw [if_neg (by show ¬ b = 0; omega), hi, if_pos rfl]
    show _ ++ numsL (upd v (secB G b) z64 (secB G b)) = _
    rw [upd_same, numsL_zero]
    rfl
  have hown : ownV G (upd v (secB G b) z64) { tab j0 with i := b } = ownV G v (tab j0) ++ [b] := by
    unfold ownV
    rw [hpg]
    have e1 : inV { tab j0 with i := b } = [b] := if_neg (by show ¬ b = 0; omega)
    have e2 : inV (tab j0) = [] := if_pos hi
    rw [e1, e2, List.append_nil]
  have hno := h.ea j0 h0 b List.mem_cons_self
  refine ⟨h.move h0 ?_ ⟨?_, ?_, ?_, ?_, ?_⟩ hs.len (upd_other _ _ ?_) fun j hj hne hji => upd_other _ _ fun e => ?_, hpg, fun q => ?_⟩
  · rw [hown, List.append_assoc]
    exact List.Perm.append_left _ (List.Perm.refl _)
  · obtain ⟨q1, q2, q3, q4, q5, q6, q7, q8⟩ := hx.fits
    have := hb.2; have := hG.b
    exact ⟨q1, q2, q3, q4, q5, q6, q7, by show b < 65536; omega⟩
  · have hm := hx.may
    unfold Im.may at hm ⊢
    rw [if_neg hk] at hm
    rw [if_neg (show ¬ ({ tab j0 with i := b } : Im).k = 0 from hk)]
    obtain ⟨m1, m2, m3, m4, m5, m6⟩ := hm
    refine ⟨m1, m2, m3, m4, ?_, ?_⟩
    · show inside (tab j0).z [(tab j0).d0, (tab j0).d1, (tab j0).d2, (tab j0).d3, b]
      rw [inside_five]
      unfold Im.bl at m5
      rw [inside_five] at m5
      exact ⟨m5.1, m5.2.1, m5.2.2.1, m5.2.2.2.1, .inr hz⟩
    · show once [(tab j0).d0, (tab j0).d1, (tab j0).d2, (tab j0).d3, b]
      unfold once at m6 ⊢
      unfold Im.bl at m6
      rw [hi] at m6
      have e : [(tab j0).d0, (tab j0).d1, (tab j0).d2, (tab j0).d3, b] = [(tab j0).d0, (tab j0).d1, (tab j0).d2, (tab j0).d3] ++ [b] := rfl
      have e2 : [(tab j0).d0, (tab j0).d1, (tab j0).d2, (tab j0).d3, 0] = [(tab j0).d0, (tab j0).d1, (tab j0).d2, (tab j0).d3] ++ [0] := rfl
      rw [e2, List.filter_append] at m6
      rw [e, List.filter_append]
      have e3 : ([0] : List Nat).filter (· != 0) = [] := rfl
      have e4 : ([b] : List Nat).filter (· != 0) = [b] := by simp; omega
      rw [e3, List.append_nil] at m6
      rw [e4]
      refine List.nodup_append.2 ⟨m6, by simp, fun a ha c hc e => ?_⟩
      rw [List.mem_singleton.1 hc] at e
      rw [e] at ha
      refine hno (mem_ownV.2 ⟨by omega, .inl (List.mem_append_left _ ?_)⟩)
      exact (List.mem_filter.1 ha).1
  · rw [hpg]; exact hx.le
  · exact hb.2
  · rw [hpg]; exact hx.zero
  · have := off_lt hG; have := @secB_off G b; omega
  · have := (hs.ino j hj)
    have h1 := (h.ino j hj).own (ind_own hji)
    have e2 := secB_inj h1.1 hbs e
    exact h.ea j hj b List.mem_cons_self (e2 ▸ ind_own hji)
  · have hb0 : ∀ p, (pgV G v (tab j0)).getD p 0 ≠ 0 → secB G ((pgV G v (tab j0)).getD p 0) ≠ secB G b := fun p hp e => by
      have h1 := hx.own (pg_own hp)
      have e2 := secB_inj h1.1 hbs e
      exact hno (e2 ▸ pg_own hp)
    unfold datV
    rw [hpg]
    split
    · rfl
    · rename_i h1
      exact upd_other _ _ (hb0 q h1)
def setX (x : Im) (p b : Nat) : Im := if p < 4 then x.setDir p b else x
def setV (G : Gm) (v : Nat → List UInt8) (x : Im) (p b : Nat) : Nat → List UInt8 := if p < 4 then v else upd v (secB G x.i) (tellL ((lsV G v x.i).set (p - 4) b))
theorem filter_set {l : List Nat} {p b : Nat} (hp : l[p]? = some 0) (hb : b ≠ 0) : ((l.set p b).filter fun c => c != 0).Perm (b :: l.filter fun c => c != 0) := by
  induction l generalizing p with
  | nil => simp at hp
  | cons a r ih =>
    cases p with
    | zero =>
      simp at hp
      subst hp
      simp [hb]
    | succ p =>
      simp only [List.getElem?_cons_succ] at hp
      rw [List.set_cons_succ, List.filter_cons, List.filter_cons]
      split
      · exact ((ih hp).cons a).trans (List.Perm.swap b a _)
      · exact ih hp
theorem setX_i (x : Im) (p b : Nat) : (setX x p b).i = x.i := by
  unfold setX
  split
  · match p with
    | 0 | 1 | 2 => rfl
    | q + 3 => rfl
  · rfl
theorem setX_same (x : Im) (p b : Nat) : (setX x p b).k = x.k ∧ (setX x p b).n = x.n ∧ (setX x p b).z = x.z := by
  unfold setX
  split
  · match p with
    | 0 | 1 | 2 => exact ⟨rfl, rfl, rfl⟩
    | q + 3 => exact ⟨rfl, rfl, rfl⟩
  · exact ⟨rfl, rfl, rfl⟩
theorem setDir_dir' (x : Im) {p : Nat} (hp : p < 4) (c : Nat) : (x.setDir p c).dir = x.dir.set p c := by
  match p, hp with
  | 0, _ | 1, _ | 2, _ | 3, _ => rfl
theorem Own.set {b : Nat} (h : Own G v tab (b :: E)) (hG : Sm G) {j0 : Nat} (h0 : Rg G j0) {p : Nat} (hp : p < 36) (hz : p < pagesN (tab j0).z) (hn : (pgV G v (tab j0)).getD p 0 = 0) (hi : p < 4 ∨ (tab j0).i ≠ 0) (hk : (tab j0).k ≠ 0) :
    Own G (setV G v (tab j0) p b) (upd tab j0 (setX (tab j0) p b)) E ∧ pgV G (setV G v (tab j0) p b) (setX (tab j0) p b) = (pgV G v (tab j0)).set p b ∧
      (v (secB G b) = z64 → ∀ q, datV G (setV G v (tab j0) p b) (setX (tab j0) p b) q = datV G v (tab j0) q) := by
  have hb := h.er b List.mem_cons_self
  have hbs := hb.1
  have hbb := hb.2
  have h60 := hG.b
  have hx := h.ino j0 h0
  have hll : (lsV G v (tab j0).i).length = 32 := lsV_length h.len hx.ile
  have h36 := h.pg_length h0
  have hno := h.ea j0 h0 b List.mem_cons_self
  have hlt : ∀ y ∈ (lsV G v (tab j0).i).set (p - 4) b, y < 65536 := fun y hy => by
    rcases List.mem_or_eq_of_mem_set hy with h1 | rfl
    · have := hx.le y (List.mem_append_right _ h1); omega
    · omega
  have hpg : pgV G (setV G v (tab j0) p b) (setX (tab j0) p b) = (pgV G v (tab j0)).set p b := by
    unfold pgV
    rw [setX_i]
    by_cases h4 : p < 4
    · have e1 : setV G v (tab j0) p b = v := if_pos h4
      have e2 : setX (tab j0) p b = (tab j0).setDir p b := if_pos h4
      rw [e1, e2, setDir_dir' _ h4, List.set_append_left _ _ (by show p < 4; omega)]
    · have hi0 := hi.resolve_left h4
      have e1 : setV G v (tab j0) p b = upd v (secB G (tab j0).i) (tellL ((lsV G v (tab j0).i).set (p - 4) b)) := if_neg h4
      have e2 : setX (tab j0) p b = tab j0 := if_neg h4
      rw [e1, e2, List.set_append_right _ _ (by show 4 ≤ p; omega)]
      congr 1
      have e3 : lsV G (upd v (secB G (tab j0).i) (tellL ((lsV G v (tab j0).i).set (p - 4) b))) (tab j0).i = numsL (tellL ((lsV G v (tab j0).i).set (p - 4) b)) := by
        have : lsV G (upd v (secB G (tab j0).i) (tellL ((lsV G v (tab j0).i).set (p - 4) b))) (tab j0).i = numsL (upd v (secB G (tab j0).i) (tellL ((lsV G v (tab j0).i).set (p - 4) b)) (secB G (tab j0).i)) := if_neg hi0
        rw [this, upd_same]
      rw [e3, nums_tell hlt, List.length_set, hll]
      simp [Im.dir]
  have hvl : ∀ k, k < G.all → (setV G v (tab j0) p b k).length = 64 := by
    unfold setV
    split
    · exact h.len
    · exact len_upd h.len (tellL_length _ (by rw [List.length_set, hll]; omega))
  have hne : ∀ k, k ≠ secB G (tab j0).i ∨ (tab j0).i = 0 → setV G v (tab j0) p b k = v k := fun k hk => by
    unfold setV
    split
    · rfl
    · rename_i h4
      rcases hk with hk | hk
      · exact upd_other _ _ hk
      · exact absurd hk (hi.resolve_left h4)
  have hown : (ownV G (setV G v (tab j0) p b) (setX (tab j0) p b)).Perm (b :: ownV G v (tab j0)) := by
    unfold ownV inV
    rw [hpg, setX_i]
    refine (List.Perm.append_right _ (filter_set ?_ (by omega))).trans (List.Perm.refl _)
    rw [List.getD_eq_getElem?_getD, List.getElem?_eq_getElem (by omega)] at hn
    rw [List.getElem?_eq_getElem (by omega)]
    exact congrArg some hn
  have hmem : ∀ c ∈ (pgV G v (tab j0)).set p b, c ≤ G.b := fun c hc => by
    rcases List.mem_or_eq_of_mem_set hc with h1 | rfl
    · exact hx.le c h1
    · exact hbb
  have hsx := setX_same (tab j0) p b
  refine ⟨h.move h0 ?_ ⟨?_, ?_, ?_, ?_, ?_⟩ hvl (hne _ (.inl ?_)) fun j hj hnj hji => hne _ ?_, hpg, fun hvz q => ?_⟩
  · refine (hown.append_right E).trans ?_
    rw [List.cons_append]
    exact (List.perm_middle).symm
  · obtain ⟨q1, q2, q3, q4, q5, q6, q7, q8⟩ := hx.fits
    unfold setX
    split
    · match p with
      | 0 => exact ⟨q1, q2, q3, by show b < 65536; omega, q5, q6, q7, q8⟩
      | 1 => exact ⟨q1, q2, q3, q4, by show b < 65536; omega, q6, q7, q8⟩
      | 2 => exact ⟨q1, q2, q3, q4, q5, by show b < 65536; omega, q7, q8⟩
      | q + 3 => exact ⟨q1, q2, q3, q4, q5, q6, by show b < 65536; omega, q8⟩
    · exact ⟨q1, q2, q3, q4, q5, q6, q7, q8⟩
  · by_cases h4 : p < 4
    · have e2 : setX (tab j0) p b = (tab j0).setDir p b := if_pos h4
      have hm := hx.may
      unfold Im.may at hm ⊢
      rw [if_neg hk] at hm
      rw [if_neg (by rw [hsx.1]; exact hk), hsx.1, hsx.2.1, hsx.2.2]
      obtain ⟨m1, m2, m3, m4, m5, m6⟩ := hm
      have hbl : (setX (tab j0) p b).bl = (tab j0).bl.set p b := by
        rw [e2]
        match p, h4 with
        | 0, _ | 1, _ | 2, _ | 3, _ => rfl
      have hz64 : 64 * p < (tab j0).z := by unfold pagesN at hz; omega
      refine ⟨m1, m2, m3, m4, ?_, ?_⟩
      · rw [hbl]
        intro j c hj
        by_cases e : j = p
        · subst e; exact .inr hz64
        · rw [List.getElem?_set_ne (fun h => e h.symm)] at hj
          exact m5 j c hj
      · rw [hbl]
        unfold once at m6 ⊢
        have hp0 : (tab j0).bl[p]? = some 0 := by
          have hd : (tab j0).bl[p]? = (pgV G v (tab j0))[p]? := by
            unfold pgV
            rw [List.getElem?_append_left (by show p < 4; omega)]
            match p, h4 with
            | 0, _ | 1, _ | 2, _ | 3, _ => rfl
          rw [hd, List.getElem?_eq_getElem (by omega)]
          rw [List.getD_eq_getElem?_getD, List.getElem?_eq_getElem (by omega)] at hn
          exact congrArg some hn
        refine (filter_set hp0 (by omega)).nodup_iff.2 (List.nodup_cons.2 ⟨fun hc => hno ?_, m6⟩)
        have hc1 := (List.mem_filter.1 hc).1
        refine mem_ownV.2 ⟨by omega, ?_⟩
        have e5 : (tab j0).bl = (tab j0).dir ++ [(tab j0).i] := rfl
        rw [e5] at hc1
        rcases List.mem_append.1 hc1 with h1 | h1
        · exact .inl (List.mem_append_left _ h1)
        · exact .inr (List.mem_singleton.1 h1)
    · have e2 : setX (tab j0) p b = tab j0 := if_neg h4
      rw [e2]; exact hx.may
  · rw [hpg]; exact hmem
  · rw [setX_i]; exact hx.ile
  · intro q hq
    rw [hsx.2.2] at hq
    rw [hpg, List.getD_eq_getElem?_getD, List.getElem?_set_ne (by unfold pagesN at hz hq; omega), <- List.getD_eq_getElem?_getD]
    exact hx.zero q hq
  · have := off_lt hG; have := @secB_off G (tab j0).i; omega
  · by_cases h00 : (tab j0).i = 0
    · exact .inr h00
    · refine .inl fun e => ?_
      have e2 := secB_inj (by omega) (by omega) e
      exact h.apart j j0 hj h0 hnj _ (ind_own hji) (e2 ▸ ind_own h00)
  · have hnb : ∀ c, c ∈ ownV G v (tab j0) → c ∈ pgV G v (tab j0) → secB G c ≠ secB G (tab j0).i ∨ (tab j0).i = 0 := fun c hc hcp => by
      by_cases h00 : (tab j0).i = 0
      · exact .inr h00
      · refine .inl fun e => ?_
        have hc0 := (mem_ownV.1 hc).1
        have e2 := secB_inj (by omega) (by omega) e
        have hn := h.nd j0 h0
        unfold ownV at hn
        obtain ⟨-, -, hn⟩ := List.nodup_append.1 hn
        exact hn _ (List.mem_filter.2 ⟨hcp, by simpa using hc0⟩) _ (mem_inV.2 ⟨hc0, e2⟩) rfl
    unfold datV
    rw [hpg]
    by_cases e : q = p
    · subst e
      have e1 : ((pgV G v (tab j0)).set q b).getD q 0 = b := by rw [List.getD_eq_getElem?_getD, List.getElem?_set_self (by omega)]; rfl
      rw [e1, if_neg (by omega), hn, if_pos rfl]
      rw [hne _ ?_, hvz]
      by_cases h00 : (tab j0).i = 0
      · exact .inr h00
      · refine .inl fun e => ?_
        have e2 := secB_inj (by omega) (by omega) e
        exact hno (e2 ▸ ind_own h00)
    · have e1 : ((pgV G v (tab j0)).set p b).getD q 0 = (pgV G v (tab j0)).getD q 0 := by
        rw [List.getD_eq_getElem?_getD, List.getElem?_set_ne (fun h => e h.symm), <- List.getD_eq_getElem?_getD]
      rw [e1]
      split
      · rfl
      · rename_i h1
        refine hne _ (hnb _ (pg_own h1) ?_)
        rw [List.getD_eq_getElem?_getD] at h1 ⊢
        cases he : (pgV G v (tab j0))[q]? with
        | none => rw [he] at h1; exact absurd rfl h1
        | some c => rw [Option.getD_some]; exact List.mem_of_getElem? he
end
end Go.Proofs.YtnfiapjdkjbdhaaGreat
/- Layer 11 (image): pages that are cut off, and a size, as mathematics. -/
namespace Go.Proofs.YtnfiapjdkjbdhaaGreat
open Go.RowKit Go.Maps Go.Lib
set_option linter.unusedVariables false
set_option linter.unusedSimpArgs false
set_option maxRecDepth 10000
section
variable {G : Gm} {v : Nat → List UInt8} {tab : Nat → Im}
def cutI (x : Im) (n : Nat) : Im := if n ≤ 4 then x.cut n else x
def cutV (G : Gm) (v : Nat → List UInt8) (x : Im) (n : Nat) : Nat → List UInt8 := if n ≤ 4 ∨ keepL (lsV G v x.i) (n - 4) = lsV G v x.i then v else upd v (secB G x.i) (tellL (keepL (lsV G v x.i) (n - 4)))
def lostV (G : Gm) (v : Nat → List UInt8) (x : Im) (n : Nat) : List Nat := ((pgV G v x).drop n).filter (fun b => b != 0) ++ if n ≤ 4 then inV x else []
theorem free_spare (x : Im) (l : List Nat) (p : Nat) : freeL (p : Int) (prL x l) = spareL x l p := by
  rw [← prL_spare]
  unfold freeL
  congr 1
  apply List.filter_congr
  intro r _
  rw [Bool.eq_iff_iff, decide_eq_true_iff, decide_eq_true_iff]
  omega
theorem lost_free (G : Gm) (f : Nat → List UInt8) (L : PutL) (x : Im) (n : Nat) : freeL (n : Int) (prL x (lisL G f L x.i)) = lostV G (vw f L) x n := by
  rw [free_spare]
  unfold spareL lostV inV pgV
  rw [← lis_vw]
  congr 1
  by_cases h : n ≤ 4
  · rw [if_pos h]
    by_cases hi : x.i = 0
    · rw [if_pos hi, if_pos (.inl hi)]
    · rw [if_neg hi, if_neg (by omega)]
  · rw [if_neg h, if_pos (.inr (by omega))]
theorem cut_dir' (x : Im) {n : Nat} (hn : n ≤ 4) : (x.cut n).dir = x.dir.take n ++ List.replicate (4 - n) 0 := by
  match n, hn with
  | 0, _ | 1, _ | 2, _ | 3, _ | 4, _ => rfl
theorem cut_bl (x : Im) {n : Nat} (hn : n ≤ 4) : (x.cut n).bl = x.bl.take n ++ List.replicate (5 - n) 0 := by
  match n, hn with
  | 0, _ | 1, _ | 2, _ | 3, _ | 4, _ => rfl
theorem filter_zeros (l : List Nat) (m : Nat) : (l ++ List.replicate m 0).filter (fun b => b != 0) = l.filter (fun b => b != 0) := by
  rw [List.filter_append]
  have : (List.replicate m 0).filter (fun b : Nat => b != 0) = [] := List.filter_eq_nil_iff.2 fun a ha => by rw [List.eq_of_mem_replicate ha]; decide
  rw [this, List.append_nil]
theorem cutI_same (x : Im) (n : Nat) : (cutI x n).k = x.k ∧ (cutI x n).n = x.n ∧ (cutI x n).z = x.z := by unfold cutI; split <;> exact ⟨rfl, rfl, rfl⟩
theorem cutI_i (x : Im) (n : Nat) : (cutI x n).i = if n ≤ 4 then 0 else x.i := by unfold cutI; split <;> rfl
theorem keepL_zero (q : Nat) (hq : q ≤ 32) : keepL (List.replicate 32 0) q = List.replicate 32 0 := by
  unfold keepL
  rw [List.take_replicate, List.replicate_append_replicate]
  congr 1; omega
theorem Own.cut (h : Own G v tab []) (hG : Sm G) {j0 : Nat} (h0 : Rg G j0) {n : Nat} (hn : n ≤ 36) (hk : (tab j0).k ≠ 0) :
    Own G (cutV G v (tab j0) n) (upd tab j0 (cutI (tab j0) n)) (lostV G v (tab j0) n) ∧ pgV G (cutV G v (tab j0) n) (cutI (tab j0) n) = (pgV G v (tab j0)).take n ++ List.replicate (36 - n) 0 ∧
      ∀ q, datV G (cutV G v (tab j0) n) (cutI (tab j0) n) q = if q < n then datV G v (tab j0) q else z64 := by
  have h60 := hG.b
  have hx := h.ino j0 h0
  have hll : (lsV G v (tab j0).i).length = 32 := lsV_length h.len hx.ile
  have h36 := h.pg_length h0
  have hdl : (tab j0).dir.length = 4 := rfl
  have hkl : ∀ q, q ≤ 32 → (keepL (lsV G v (tab j0).i) q).length = 32 := fun q hq => keepL_length hll hq
  have hne : ∀ k, k ≠ secB G (tab j0).i ∨ (tab j0).i = 0 → cutV G v (tab j0) n k = v k := fun k hk => by
    unfold cutV
    split
    · rfl
    · rename_i h4
      rcases hk with hk | hk
      · exact upd_other _ _ hk
      · refine absurd ?_ h4
        refine .inr ?_
        have : lsV G v (tab j0).i = List.replicate 32 0 := if_pos hk
        rw [this, keepL_zero _ (by omega)]
  have hpg : pgV G (cutV G v (tab j0) n) (cutI (tab j0) n) = (pgV G v (tab j0)).take n ++ List.replicate (36 - n) 0 := by
    by_cases h4 : n ≤ 4
    · have e2 : cutI (tab j0) n = (tab j0).cut n := if_pos h4
      have e3 : lsV G (cutV G v (tab j0) n) ((tab j0).cut n).i = List.replicate 32 0 := if_pos rfl
      unfold pgV
      rw [e2, cut_dir' _ h4, e3, List.take_append_of_le_length (by omega), List.append_assoc, List.replicate_append_replicate]
      congr 2; omega
    · have e2 : cutI (tab j0) n = tab j0 := if_neg h4
      unfold pgV
      rw [e2, List.take_append, List.take_of_length_le (by omega), List.append_assoc, hdl]
      congr 1
      have e4 : lsV G (cutV G v (tab j0) n) (tab j0).i = keepL (lsV G v (tab j0).i) (n - 4) := by
        by_cases h00 : (tab j0).i = 0
        · have e5 : lsV G (cutV G v (tab j0) n) (tab j0).i = List.replicate 32 0 := if_pos h00
          have e6 : lsV G v (tab j0).i = List.replicate 32 0 := if_pos h00
          rw [e5, e6, keepL_zero _ (by omega)]
        · by_cases hke : keepL (lsV G v (tab j0).i) (n - 4) = lsV G v (tab j0).i
          · have e5 : cutV G v (tab j0) n = v := if_pos (.inr hke)
            rw [e5, hke]
          · have e5 : cutV G v (tab j0) n = upd v (secB G (tab j0).i) (tellL (keepL (lsV G v (tab j0).i) (n - 4))) := if_neg (by rintro (h1 | h1); exact h4 h1; exact hke h1)
            have e6 : lsV G (cutV G v (tab j0) n) (tab j0).i = numsL (cutV G v (tab j0) n (secB G (tab j0).i)) := if_neg h00
            have hlt : ∀ y ∈ keepL (lsV G v (tab j0).i) (n - 4), y < 65536 := fun y hy => by
              unfold keepL at hy
              rcases List.mem_append.1 hy with h1 | h1
              · have := hx.le y (List.mem_append_right _ (List.mem_of_mem_take h1)); omega
              · rw [List.eq_of_mem_replicate h1]; omega
            rw [e6, e5, upd_same, nums_tell hlt, hkl _ (by omega)]
            simp
      rw [e4]
      unfold keepL
      congr 2; omega
  have hvl : ∀ k, k < G.all → (cutV G v (tab j0) n k).length = 64 := by
    unfold cutV
    split
    · exact h.len
    · exact len_upd h.len (tellL_length _ (by rw [hkl _ (by omega)]; omega))
  have hown : (ownV G (cutV G v (tab j0) n) (cutI (tab j0) n) ++ lostV G v (tab j0) n).Perm (ownV G v (tab j0) ++ []) := by
    unfold ownV lostV
    rw [hpg, filter_zeros, List.append_nil]
    have e1 : inV (cutI (tab j0) n) = if n ≤ 4 then [] else inV (tab j0) := by
      unfold inV
      rw [cutI_i]
      split <;> rfl
    rw [e1]
    have e2 : (pgV G v (tab j0)).filter (fun b => b != 0) = ((pgV G v (tab j0)).take n).filter (fun b => b != 0) ++ ((pgV G v (tab j0)).drop n).filter (fun b => b != 0) := by
      rw [← List.filter_append, List.take_append_drop]
    rw [e2]
    split
    · rw [List.append_nil, List.append_assoc]
    · rw [List.append_nil, List.append_assoc, List.append_assoc]
      exact List.Perm.append_left _ (List.perm_append_comm)
  have hget : ∀ q, ((pgV G v (tab j0)).take n ++ List.replicate (36 - n) 0).getD q 0 = if q < n then (pgV G v (tab j0)).getD q 0 else 0 := fun q => by
    rw [List.getD_eq_getElem?_getD]
    split
    · rename_i hq
      rw [List.getElem?_append_left (by rw [List.length_take]; omega), List.getElem?_take, if_pos hq, ← List.getD_eq_getElem?_getD]
    · rename_i hq
      rw [List.getElem?_append_right (by rw [List.length_take]; omega), List.getElem?_replicate]
      split <;> rfl
  have hsx := cutI_same (tab j0) n
  have hmem : ∀ c ∈ (pgV G v (tab j0)).take n ++ List.replicate (36 - n) 0, c ≤ G.b := fun c hc => by
    rcases List.mem_append.1 hc with h1 | h1
    · exact hx.le c (List.mem_of_mem_take h1)
    · rw [List.eq_of_mem_replicate h1]; omega
  refine ⟨h.move h0 hown ⟨?_, ?_, ?_, ?_, ?_⟩ hvl (hne _ (.inl ?_)) fun j hj hnj hji => hne _ ?_, hpg, fun q => ?_⟩
  · obtain ⟨q1, q2, q3, q4, q5, q6, q7, q8⟩ := hx.fits
    unfold cutI
    split
    · refine ⟨q1, q2, q3, ?_, ?_, ?_, ?_, ?_⟩
      · show (if n ≤ 0 then 0 else (tab j0).d0) < 65536; split <;> omega
      · show (if n ≤ 1 then 0 else (tab j0).d1) < 65536; split <;> omega
      · show (if n ≤ 2 then 0 else (tab j0).d2) < 65536; split <;> omega
      · show (if n ≤ 3 then 0 else (tab j0).d3) < 65536; split <;> omega
      · show (0 : Nat) < 65536; omega
    · exact ⟨q1, q2, q3, q4, q5, q6, q7, q8⟩
  · by_cases h4 : n ≤ 4
    · have e2 : cutI (tab j0) n = (tab j0).cut n := if_pos h4
      have hm := hx.may
      unfold Im.may at hm ⊢
      rw [if_neg hk] at hm
      rw [if_neg (by rw [hsx.1]; exact hk), hsx.1, hsx.2.1, hsx.2.2, e2, cut_bl _ h4]
      obtain ⟨m1, m2, m3, m4, m5, m6⟩ := hm
      refine ⟨m1, m2, m3, m4, ?_, ?_⟩
      · intro j c hj
        by_cases hjn : j < n
        · rw [List.getElem?_append_left (by rw [List.length_take]; show j < min n 5; omega), List.getElem?_take, if_pos hjn] at hj
          exact m5 j c hj
        · have := List.mem_of_getElem? hj
          rw [List.getElem?_append_right (by rw [List.length_take]; omega), List.getElem?_replicate] at hj
          split at hj
          · exact .inl (Option.some.inj hj).symm
          · cases hj
      · unfold once at m6 ⊢
        have := filter_zeros ((tab j0).bl.take n) (5 - n)
        rw [this]
        exact m6.sublist ((List.take_sublist n _).filter _)
    · have e2 : cutI (tab j0) n = tab j0 := if_neg h4
      rw [e2]; exact hx.may
  · rw [hpg]; exact hmem
  · rw [cutI_i]; split
    · omega
    · exact hx.ile
  · intro q hq
    rw [hsx.2.2] at hq
    rw [hpg, hget]
    split
    · exact hx.zero q hq
    · rfl
  · have := off_lt hG; have := @secB_off G (tab j0).i; omega
  · by_cases h00 : (tab j0).i = 0
    · exact .inr h00
    · refine .inl fun e => ?_
      have e2 := secB_inj (by omega) (by omega) e
      exact h.apart j j0 hj h0 hnj _ (ind_own hji) (e2 ▸ ind_own h00)
  · unfold datV
    rw [hpg, hget]
    by_cases hq : q < n
    · rw [if_pos hq, if_pos hq]
      split
      · rfl
      · rename_i h1
        refine hne _ ?_
        by_cases h00 : (tab j0).i = 0
        · exact .inr h00
        · refine .inl fun e => ?_
          have e2 := secB_inj (by omega) (by omega) e
          have hn := h.nd j0 h0
          unfold ownV at hn
          obtain ⟨-, -, hn⟩ := List.nodup_append.1 hn
          refine hn _ (List.mem_filter.2 ⟨?_, by simpa using h1⟩) _ (mem_inV.2 ⟨h1, e2⟩) rfl
          rw [List.getD_eq_getElem?_getD] at h1 ⊢
          cases he : (pgV G v (tab j0))[q]? with
          | none => rw [he] at h1; exact absurd rfl h1
          | some c => rw [Option.getD_some]; exact List.mem_of_getElem? he
    · rw [if_neg hq, if_neg hq, if_pos rfl]
theorem Own.size {E : List Nat} (h : Own G v tab E) {j0 : Nat} (h0 : Rg G j0) (z : Nat) (hk : (tab j0).k ≠ 0) (hz : z ≤ 2304) (h64 : (tab j0).k = 2 → z % 64 = 0) (hp : ∀ p, pagesN z ≤ p → (pgV G v (tab j0)).getD p 0 = 0) (hi : (tab j0).i = 0 ∨ 256 < z) :
    Own G v (upd tab j0 { tab j0 with z := z }) E := by
  have hx := h.ino j0 h0
  refine h.move h0 (List.Perm.refl _) ⟨?_, ?_, hx.le, hx.ile, hp⟩ h.len rfl fun j hj hnj hji => rfl
  · obtain ⟨q1, q2, q3, q4, q5, q6, q7, q8⟩ := hx.fits
    exact ⟨q1, q2, by show z < 4294967296; omega, q4, q5, q6, q7, q8⟩
  · have hm := hx.may
    unfold Im.may at hm ⊢
    rw [if_neg hk] at hm
    rw [if_neg (show ¬ ({ tab j0 with z := z } : Im).k = 0 from hk)]
    obtain ⟨m1, m2, m3, m4, m5, m6⟩ := hm
    refine ⟨m1, m2, hz, h64, ?_, m6⟩
    intro j c hj
    have hj5 := (List.getElem?_eq_some_iff.1 hj).1
    have hj5 : j < 5 := hj5
    by_cases e : j = 4
    · subst e
      have : c = (tab j0).i := (Option.some.inj hj).symm
      rcases hi with h1 | h1
      · exact .inl (this.trans h1)
      · exact .inr h1
    · have hd : (pgV G v (tab j0)).getD j 0 = c := by
        have : (pgV G v (tab j0))[j]? = (tab j0).bl[j]? := by
          unfold pgV
          rw [List.getElem?_append_left (by show j < 4; omega)]
          match j, hj5, e with
          | 0, _, _ | 1, _, _ | 2, _, _ | 3, _, _ => rfl
          | 4, _, e => exact absurd rfl e
        rw [List.getD_eq_getElem?_getD, this]
        have hj' : (tab j0).bl[j]? = some c := hj
        rw [hj']; rfl
      by_cases hc : pagesN z ≤ j
      · exact .inl (hd.symm.trans (hp j hc))
      · refine .inr ?_
        show 64 * j < z
        unfold pagesN at hc
        omega
end
end Go.Proofs.YtnfiapjdkjbdhaaGreat
/- Layer 11 (image): an image in memory; bytes that are padded, where inodes and blocks lie. -/
namespace Go.Proofs.YtnfiapjdkjbdhaaGreat
open Go.RowKit Go.Maps Go.Lib
set_option linter.unusedVariables false
set_option linter.unusedSimpArgs false
set_option maxRecDepth 10000
/-! An image in memory. -/
def ImgAt (W : World) (mb tb : Nat) (G : Gm) : Prop := W.heap[mb]? = some (.cells #[devp tb, .int .i64 (G.i : Int), .int .i64 (G.b : Int), .int .i64 (G.j : Int)] 96 (0, 0))
def imgR (mb tb : Nat) (G : Gm) : Res := memR (fun k => k = mb) (fun W => ImgAt W mb tb G) fun W W' h hb => (hb mb rfl).trans h
def iR (b jb tb mb rec : Nat) (G : Gm) (M : Dv) (L : PutL) (qs : List Res) : List Res := devR b M :: jourR jb b 1 G.j rec :: txR tb b jb M.n L :: imgR mb tb G :: qs
structure ISys (w W : World) (b jb tb mb rec : Nat) (G : Gm) (M : Dv) (L : PutL) (qs : List Res) : Prop where
  tx : TxSys w W (iR b jb tb mb rec G M L qs) 2 0 1 tb b jb 1 G.j rec M L
  sm : Sm G
  N : M.n = G.all
  ours : Ours G L
section
variable {w W : World} {b jb tb mb rec : Nat} {G : Gm} {M : Dv} {L : PutL} {qs : List Res}
theorem ISys.below (h : ISys w W b jb tb mb rec G M L qs) {W' : World} (hb : Below W.heap.size W W') : ISys w W' b jb tb mb rec G M L qs := ⟨h.tx.below hb, h.sm, h.N, h.ours⟩
theorem ISys.drew (h : ISys w W b jb tb mb rec G M L qs) : ISys w W.drew b jb tb mb rec G M L qs := h.below (Below.refl _ _).drew
theorem ISys.after (h : ISys w W b jb tb mb rec G M L qs) {W' : World} (hb : Below W.drew.heap.size W.drew W') : ISys w W' b jb tb mb rec G M L qs := h.below (below_of_drew hb)
theorem ISys.all (h : ISys w W b jb tb mb rec G M L qs) : Below w.heap.size w W := h.tx.sys.all
theorem ISys.at_ (h : ISys w W b jb tb mb rec G M L qs) : ImgAt W mb tb G := by
  have hi : (iR b jb tb mb rec G M L qs)[3]? = some (imgR mb tb G) := rfl
  exact h.tx.sys.mem hi
theorem ISys.asc (h : ISys w W b jb tb mb rec G M L qs) : asc L := h.tx.ok.asc
theorem ImgAt.cells {mb tb : Nat} (h : ImgAt W mb tb G) : W.cell? ⟨mb, 0, none⟩ = some (devp tb) ∧ W.cell? ⟨mb, 1, none⟩ = some (.int .i64 (G.i : Int)) ∧ W.cell? ⟨mb, 2, none⟩ = some (.int .i64 (G.b : Int)) ∧ W.cell? ⟨mb, 3, none⟩ = some (.int .i64 (G.j : Int)) :=
  ⟨cell_of_row W mb 0 _ _ _ h, cell_of_row W mb 1 _ _ _ h, cell_of_row W mb 2 _ _ _ h, cell_of_row W mb 3 _ _ _ h⟩
theorem ISys.cells (h : ISys w W b jb tb mb rec G M L qs) : W.cell? ⟨mb, 0, none⟩ = some (devp tb) ∧ W.cell? ⟨mb, 1, none⟩ = some (.int .i64 (G.i : Int)) ∧ W.cell? ⟨mb, 2, none⟩ = some (.int .i64 (G.b : Int)) ∧ W.cell? ⟨mb, 3, none⟩ = some (.int .i64 (G.j : Int)) := h.at_.cells
theorem ISys.len (h : ISys w W b jb tb mb rec G M L qs) {k : Nat} (hk : k < G.all) : (vw M.cur L k).length = 64 := by
  obtain ⟨m, hT, -⟩ := h.tx.on
  obtain ⟨S, hS⟩ := hT.dev
  exact val_length h.tx.ok.ok (g := M.cur) (hS.fine.cur (by rw [h.N]; exact hk))
theorem ISys.turn (h : ISys w W b jb tb mb rec G M L qs) {W' : World} {L' : PutL} (ht : TxSys w W' ((iR b jb tb mb rec G M L qs).set 2 (txR tb b jb M.n L')) 2 0 1 tb b jb 1 G.j rec M L') (ho : Ours G L') : ISys w W' b jb tb mb rec G M L' qs := ⟨ht, h.sm, h.N, ho⟩
theorem ISys.read (h : ISys w W b jb tb mb rec G M L qs) (k : Nat) (hk : k < G.all) :
    Calls Tryz.prog 70 #[devp tb, .int .i64 (k : Int)] W fun e w' => e = .returned (.tuple #[str (vw M.cur L k), .int .i64 0]) ∧ Below W.heap.size W w' := by
  have := sys_txRead h.tx (k : Int)
  unfold rdS rdE at this
  rw [h.N, if_neg (by omega), if_neg (by omega), Int.toNat_natCast] at this
  exact this
theorem ISys.write (h : ISys w W b jb tb mb rec G M L qs) (k : Nat) (hk : k < G.all) (hk0 : 1 + G.j ≤ k) (s : List UInt8) (hs : s.length = 64) :
    Calls Tryz.prog 49 #[devp tb, .int .i64 (k : Int), str s] W fun e w' => e = .returned (.int .i64 (wE (capL G.j) L k)) ∧ ISys w w' b jb tb mb rec G M (wL (capL G.j) L k s) qs := by
  have := sys_txWrite h.tx (k : Int) s (by omega)
  obtain ⟨h1, h2⟩ := wr_eq (N := M.n) (cap := capL G.j) (L := L) (k := k) (s := s) (by rw [h.N]; exact hk) hs
  rw [h1, h2] at this
  exact this.mono fun e w' hx => ⟨hx.1, h.turn hx.2 (ours_wL h.ours hk0 _)⟩
theorem ISys.patch (h : ISys w W b jb tb mb rec G M L qs) (k : Nat) (hk : k < G.all) (hk0 : 1 + G.j ≤ k) (f : Nat) (s : List UInt8) (hs : f + s.length ≤ 64) :
    Calls Tryz.prog 44 #[devp tb, .int .i64 (k : Int), .int .i64 (f : Int), str s] W fun e w' => e = .returned (.int .i64 (wE (capL G.j) L k)) ∧ ISys w w' b jb tb mb rec G M (wL (capL G.j) L k (over (vw M.cur L k) f s)) qs := by
  have := sys_txPatch h.tx (k : Int) (f : Int) s (by omega)
  have hol : (over (vw M.cur L k) f s).length = 64 := over_length (h.len hk) (by omega)
  obtain ⟨h1, h2⟩ := wr_eq (N := M.n) (cap := capL G.j) (L := L) (k := k) (s := over (vw M.cur L k) f s) (by rw [h.N]; exact hk) hol
  have hb : ¬ ptBad M.n (k : Int) (f : Int) s := by unfold ptBad; rw [h.N]; omega
  have hS : ptS M.cur L (k : Int) (f : Int) s = over (vw M.cur L k) f s := by unfold ptS; rw [Int.toNat_natCast, Int.toNat_natCast]; rfl
  have hE : ptE M.n (capL G.j) M.cur L (k : Int) (f : Int) s = wE (capL G.j) L k := by unfold ptE; rw [if_neg hb, hS, h1]
  have hL : ptL M.n (capL G.j) M.cur L (k : Int) (f : Int) s = wL (capL G.j) L k (over (vw M.cur L k) f s) := by unfold ptL; rw [if_neg hb, hS, h2]
  rw [hE, hL] at this
  exact this.mono fun e w' hx => ⟨hx.1, h.turn hx.2 (ours_wL h.ours hk0 _)⟩
end
/-! What the package's own helpers answer. -/
theorem noughts11 (k : Nat) (w : World) (hk : k ≤ 65536) :
    Calls Tryz.prog 105 #[.string ⟨#[0]⟩, .int .i64 k] w fun e w' => e = .returned (str (List.replicate k 0)) ∧ Below w.heap.size w w' := Bits.noughts k w hk
set_option maxHeartbeats 400000 in
theorem padded_any (s : List UInt8) (w : World) (hs : s.length ≤ 64) :
    Calls Tryz.prog 50 #[str s] w fun e w' => e = .returned (str (padL s)) ∧ Below w.heap.size w w' := by
  have h8 := Lib.hid fun W => noughts11 (64 - s.length) W (by omega)
  have h9 : 64 - (s.length : Int) = ((64 - s.length : Nat) : Int) := by omega
  go_enter Tryz.func50, Tryz.ntmps50
  go_wp2_with fail
  refine (h8.out _).mono ?_
  rintro e w1 ⟨rfl, hb⟩
  go_wp2_with fail
  go_ret
  exact ⟨rfl, hb⟩
theorem padded_nil (w : World) : Calls Tryz.prog 50 #[str []] w fun e w' => e = .returned (str z64) ∧ Below w.heap.size w w' := padded_any [] w (by simp)
section
variable {w W : World} {mb tb : Nat} {G : Gm}
set_option maxHeartbeats 400000 in
theorem whereInode_ok (h : ImgAt W mb tb G) (hG : Sm G) (k : Nat) (hk : Rg G k) :
    Calls Tryz.prog 42 #[devp mb, .int .u32 (k : Int)] W fun e w' => e = .returned (.tuple #[.int .i64 (sI G k : Nat), .int .i64 (pI k : Nat), .int .i64 0]) ∧ Below W.heap.size W w' := by
  obtain ⟨c0, c1, c2, c3⟩ := h.cells
  have hg := inode_ok G (k - 1) (k : Int) (by have := hk.1; omega) W hG.ok (by have := hk.1; have := hk.2; omega)
  have HG := Lib.hid hg
  clear hg h
  go_enter Tryz.func42, Tryz.ntmps42
  go_wp2_with fail
  refine HG.out.mono ?_
  rintro e w1 ⟨rfl, hb⟩
  go_wp2_with fail
  go_ret3
  exact ⟨by unfold sI pI; rfl, hb⟩
end
end Go.Proofs.YtnfiapjdkjbdhaaGreat
/- Layer 11 (image): the bits of a part. -/
namespace Go.Proofs.YtnfiapjdkjbdhaaGreat
open Go.RowKit Go.Maps Go.Lib
set_option linter.unusedVariables false
set_option linter.unusedSimpArgs false
set_option maxRecDepth 10000
section
variable {w W : World} {b jb tb mb rec : Nat} {G : Gm} {M : Dv} {L : PutL} {qs : List Res}
set_option maxHeartbeats 400000 in
theorem whereInode_bad {mb tb : Nat} (h : ImgAt W mb tb G) (hG : Sm G) (x : Int) (hx : x < 1 ∨ (G.i : Int) < x) (h0 : 0 ≤ x) (h9 : x < 4294967296) :
    Calls Tryz.prog 42 #[devp mb, .int .u32 x] W fun e w' => e = .returned (.tuple #[.int .i64 0, .int .i64 0, .int .i64 2]) ∧ Below W.heap.size W w' := by
  obtain ⟨c0, c1, c2, c3⟩ := h.cells
  have hg := inode_bad G.i G.b G.j x W (.inr hx) h0 h9
  have HG := Lib.hid hg
  clear hg h hx h0 h9
  go_enter Tryz.func42, Tryz.ntmps42
  go_wp2_with fail
  refine HG.out.mono ?_
  rintro e w1 ⟨rfl, hb⟩
  go_wp2_with fail
  go_ret3
  exact ⟨rfl, hb⟩
set_option maxHeartbeats 400000 in
theorem whereBlock_ok {mb tb : Nat} (h : ImgAt W mb tb G) (hG : Sm G) (k : Nat) (hk : Bg G k) :
    Calls Tryz.prog 118 #[devp mb, w16 k] W fun e w' => e = .returned (.tuple #[.int .i64 (secB G k : Nat), .int .i64 0]) ∧ Below W.heap.size W w' := by
  obtain ⟨c0, c1, c2, c3⟩ := h.cells
  have hg := block_ok G (k - 1) (k : Int) (by have := hk.1; omega) W hG.ok (by have := hk.1; have := hk.2; omega)
  have HG := Lib.hid hg
  clear hg h
  go_enter Tryz.func118, Tryz.ntmps118
  go_wp2_with fail
  refine HG.out.mono ?_
  rintro e w1 ⟨rfl, hb⟩
  go_wp2_with fail
  go_ret2
  exact ⟨by unfold secB; rfl, hb⟩
set_option maxHeartbeats 400000 in
theorem placed_ok (h : ISys w W b jb tb mb rec G M L qs) (k : Nat) (hk : Bg G k) :
    Calls Tryz.prog 103 #[devp mb, w16 k] W fun e w' => e = .returned (.tuple #[.int .i64 (secB G k : Nat), .int .i64 0]) ∧ Below W.heap.size W w' := by
  have hG := h.sm
  have HW := Lib.hid (whereBlock_ok h.at_ hG k hk)
  have H := Lib.hid h
  have hlt := secB_all hk
  have hN := h.N
  clear h
  go_enter Tryz.func103, Tryz.ntmps103
  go_wp2_with fail
  refine HW.out.mono ?_
  rintro e w1 ⟨rfl, hb⟩
  have h1 := H.out.below hb
  obtain ⟨c0, c1, c2, c3⟩ := h1.cells
  obtain ⟨m, hT, -⟩ := h1.tx.on
  have t0 := hT.tx.c0
  have HL := Lib.hid hT.len
  have HB := Lib.hid hb
  clear hT h1 hb
  have hge : decide ((M.n : Int) ≤ (secB G k : Int)) = false := by simp; omega
  have hge2 : decide ((secB G k : Int) ≥ (M.n : Int)) = false := by simp; omega
  go_wp2_with fail
  refine HL.out.mono ?_
  rintro e w2 ⟨rfl, rfl⟩
  go_wp2_with fail
  go_ret2
  exact ⟨rfl, HB.out⟩
/-! The bits of a part: a closure. -/
abbrev bitF (sb pb : Nat) : Value := .func (.func 150) #[] #[.pointer (some ⟨sb, 0, none⟩), .pointer (some ⟨pb, 0, none⟩)]
def BitAt (W : World) (sb pb mb o n : Nat) : Prop := W.heap[sb]? = some (.cells #[.int .i64 (o : Int), .int .i64 (n : Int)] 84 (0, 0)) ∧ W.heap[pb]? = some (.cells #[devp mb] 31 (0, 0))
theorem BitAt.below {W W' : World} {sb pb mb o n : Nat} (h : BitAt W sb pb mb o n) (hb : Below W.heap.size W W') : BitAt W' sb pb mb o n :=
  ⟨(hb.block _ (Array.getElem?_eq_some_iff.1 h.1).1).trans h.1, (hb.block _ (Array.getElem?_eq_some_iff.1 h.2).1).trans h.2⟩
set_option maxHeartbeats 1000000 in
theorem bitsOf_any (h : ISys w W b jb tb mb rec G M L qs) (p : Nat) (hp : p < 6) :
    Calls Tryz.prog 86 #[devp mb, .int .i64 (p : Int)] W fun e w' => ∃ sb pb, e = .returned (bitF sb pb) ∧ BitAt w' sb pb mb (G.off p) (G.cnt p) ∧ Below W.heap.size W w' := by
  have hmf : ∀ (fn : Fn) (first cap : Array Value) (w : World), (Instr.makeFunc fn first cap).run Tryz.prog w = .ok (.func fn first cap) w := fun _ _ _ _ => rfl
  have hG := h.sm
  have hb0 : Below W.heap.size W (W.alloc (.cells #[devp mb] 31)) := (Below.refl _ _).alloc (Nat.le_refl _) _
  obtain ⟨c0, c1, c2, c3⟩ := (h.below hb0).cells
  have hp0 := heap_alloc_new W (.cells #[devp mb] 31)
  have hq0 := cell_of_row _ _ 0 _ _ _ hp0
  have HP := Lib.hid hp0
  have HG := Lib.hid fun V => part_ok G p (p : Int) rfl V hG.ok hp
  have HB := Lib.hid hb0
  clear h hp0 hb0
  go_enter Tryz.func86, Tryz.ntmps86
  go_wp2_with fail
  refine (HG.out _).mono ?_
  rintro e w1 ⟨rfl, hb⟩
  have hpb := (hb.block _ (Array.getElem?_eq_some_iff.1 HP.out).1).trans HP.out
  have HB1 := Lib.hid (HB.out.trans (hb.mono HB.out.size))
  have HPB := Lib.hid hpb
  clear hb hpb HP HB c0 c1 c2 c3 hq0
  go_wp2_with fail
  go_ret
  have hb2 : Below W.heap.size w1 (w1.alloc (.cells #[.int .i64 (G.off p : Int), .int .i64 (G.cnt p : Int)] 84)) := (Below.refl _ _).alloc HB1.out.size _
  refine ⟨w1.heap.size, W.heap.size, rfl, ⟨heap_alloc_new _ _, ?_⟩, HB1.out.trans hb2⟩
  exact (((Below.refl w1.heap.size w1).alloc (Nat.le_refl _) _).block _ (Array.getElem?_eq_some_iff.1 HPB.out).1).trans HPB.out
set_option maxHeartbeats 1000000 in
theorem bitsAt_any (h : ISys w W b jb tb mb rec G M L qs) {sb pb : Nat} (p : Nat) (hp : p = 2 ∨ p = 3) (hB : BitAt W sb pb mb (G.off p) (G.cnt p)) (i : Nat) (hi : i < 512) :
    Calls Tryz.prog 150 #[.int .i64 (i : Int), .pointer (some ⟨sb, 0, none⟩), .pointer (some ⟨pb, 0, none⟩)] W fun e w' => e = .returned (.tuple #[str (vw M.cur L (G.off p)), .int .i64 (G.off p : Nat), .int .i64 0]) ∧ Below W.heap.size W w' := by
  have hG := h.sm
  have hoff := off_lt hG
  have hle : G.off p < G.all := by rcases hp with rfl | rfl <;> omega
  have hol := G.off_le hG.ok p (by omega)
  have hpl : p ≤ 3 := by omega
  obtain ⟨c0, c1, c2, c3⟩ := h.cells
  have s0 := cell_of_row W sb 0 _ _ _ hB.1
  have p0 := cell_of_row W pb 0 _ _ _ hB.2
  have HR := Lib.hid (h.read (G.off p) hle)
  have hq : (i : Int).tdiv 512 = 0 := by rw [Int.tdiv_eq_ediv_of_nonneg (by omega)]; omega
  have hq2 : (i : Int) / 512 = 0 := by omega
  clear h hB hp hle hoff
  go_enter Tryz.func150, Tryz.ntmps150
  go_wp2_with fail
  refine HR.out.mono ?_
  rintro e w1 ⟨rfl, hb⟩
  go_wp2_with fail
  go_ret3
  exact ⟨rfl, hb⟩
set_option maxHeartbeats 1000000 in
theorem taken11_any (h : ISys w W b jb tb mb rec G M L qs) (p : Nat) (hp : p = 2 ∨ p = 3) (i : Nat) (hi : i < 512) :
    Calls Tryz.prog 85 #[devp mb, .int .i64 (p : Int), .int .i64 (i : Int)] W fun e w' => e = .returned (.tuple #[.bool (Bits.bitL (vw M.cur L (G.off p)) i), .int .i64 0]) ∧ Below W.heap.size W w' := by
  have hoff := off_lt h.sm
  have hlen := h.len (k := G.off p) (by rcases hp with rfl | rfl <;> omega)
  have H := Lib.hid h
  have HO := Lib.hid (bitsOf_any h p (by omega))
  have HP := Lib.hid hp
  have HG := Lib.hid fun V => Bits.get_ok (vw M.cur L (G.off p)) i V (by omega) (by omega)
  have hr : (i : Int).tmod 512 = (i : Int) := by rw [Int.tmod_eq_emod_of_nonneg (by omega)]; omega
  have hr2 : (i : Int) % 512 = (i : Int) := by omega
  clear h hoff hp
  go_enter Tryz.func85, Tryz.ntmps85
  go_wp2_with fail
  refine HO.out.mono ?_
  rintro e w1 ⟨sb, pb, rfl, hB, hb⟩
  have HC := Lib.hid (bitsAt_any (H.out.below hb) p HP.out hB i hi)
  have HB := Lib.hid hb
  clear hB hb
  go_wp2_with fail
  refine HC.out.mono ?_
  rintro e w2 ⟨rfl, hb⟩
  have HB2 := Lib.hid (HB.out.trans (hb.mono HB.out.size))
  clear hb
  go_wp2_with fail
  refine (HG.out _).mono ?_
  rintro e w3 ⟨rfl, rfl⟩
  go_wp2_with fail
  go_ret2
  exact ⟨rfl, HB2.out⟩
set_option maxHeartbeats 1000000 in
theorem turn_any (h : ISys w W b jb tb mb rec G M L qs) (p : Nat) (hp : p = 2 ∨ p = 3) (i : Nat) (hi : i < 512) (on : Bool) :
    Calls Tryz.prog 41 #[devp mb, .int .i64 (p : Int), .int .i64 (i : Int), .bool on] W fun e w' => e = .returned (.int .i64 (wE (capL G.j) L (G.off p))) ∧ ISys w w' b jb tb mb rec G M (wL (capL G.j) L (G.off p) (Bits.setL (vw M.cur L (G.off p)) i on)) qs := by
  have hoff := off_lt h.sm
  have hlt : G.off p < G.all := by rcases hp with rfl | rfl <;> omega
  have hlo : 1 + G.j ≤ G.off p := by have := Sm.o2 G; rcases hp with rfl | rfl <;> omega
  have hlen := h.len hlt
  have H := Lib.hid h
  have HO := Lib.hid (bitsOf_any h p (by omega))
  have HP := Lib.hid hp
  have HG := Lib.hid fun V => Bits.set_ok (vw M.cur L (G.off p)) i on V (by omega) (by omega)
  have hsl : (Bits.setL (vw M.cur L (G.off p)) i on).length = 64 := by unfold Bits.setL; rw [List.length_set]; exact hlen
  have hr : (i : Int).tmod 512 = (i : Int) := by rw [Int.tmod_eq_emod_of_nonneg (by omega)]; omega
  have hr2 : (i : Int) % 512 = (i : Int) := by omega
  clear h hoff hp
  go_enter Tryz.func41, Tryz.ntmps41
  go_wp2_with fail
  refine HO.out.mono ?_
  rintro e w1 ⟨sb, pb, rfl, hB, hb⟩
  have HC := Lib.hid (bitsAt_any (H.out.below hb) p HP.out hB i hi)
  have H1 := Lib.hid (H.out.below hb)
  clear hB hb
  go_wp2_with fail
  refine HC.out.mono ?_
  rintro e w2 ⟨rfl, hb⟩
  have H2 := Lib.hid (H1.out.below hb)
  clear hb
  go_wp2_with fail
  refine (HG.out _).mono ?_
  rintro e w3 ⟨rfl, hb⟩
  have H3 := Lib.hid (H2.out.below hb)
  clear hb
  obtain ⟨c0, c1, c2, c3⟩ := H3.out.cells
  go_wp2_with fail
  refine (H3.out.write (G.off p) hlt hlo _ hsl).mono ?_
  rintro e w4 ⟨rfl, h4⟩
  go_wp2_with fail
  go_ret
  exact ⟨rfl, h4⟩
end
end Go.Proofs.YtnfiapjdkjbdhaaGreat
/- Layer 11 (image): an inode is read, and stored. -/
namespace Go.Proofs.YtnfiapjdkjbdhaaGreat
open Go.RowKit Go.Maps Go.Lib
set_option linter.unusedVariables false
set_option linter.unusedSimpArgs false
set_option maxRecDepth 10000
attribute [local go_sem ↓] ino_store_fold
theorem ino_fresh (V : World) (x : Im) : ∃ V', (inoStore (.pointer (some ⟨V.heap.size, 0, none⟩)) x.v).run Tryz.prog (V.alloc (.cells #[.int .u8 0, .int .u16 0, .int .u32 0, .int .u16 0, .int .u16 0, .int .u16 0, .int .u16 0, .int .u16 0] 41)) = .ok () V' ∧ InoAt V' V.heap.size x ∧ Below V.heap.size V V' := by
  have h0 : InoAt (V.alloc (.cells #[.int .u8 0, .int .u16 0, .int .u32 0, .int .u16 0, .int .u16 0, .int .u16 0, .int .u16 0, .int .u16 0] 41)) V.heap.size Im.nought := heap_alloc_new V _
  obtain ⟨V', h1, h2, -, h4⟩ := ino_store h0 x
  exact ⟨V', h1, h2, ((Below.refl _ _).alloc (Nat.le_refl _) _).trans (h4 _ (Nat.le_refl _))⟩
theorem ino_new11 (W : World) (x : Im) : InoAt (W.alloc (.cells #[.int .u8 x.k, w16 x.n, .int .u32 x.z, w16 x.d0, w16 x.d1, w16 x.d2, w16 x.d3, w16 x.i] 41)) W.heap.size x := heap_alloc_new W _
theorem InoAt.lt11 {W : World} {p : Nat} {x : Im} (h : InoAt W p x) : p < W.heap.size := (Array.getElem?_eq_some_iff.1 h).1
theorem InoAt.keep {W W' : World} {p : Nat} {x : Im} (h : InoAt W p x) (hb : Below W.heap.size W W') : InoAt W' p x := (hb.block p h.lt11).trans h
section
variable {w W : World} {b jb tb mb rec : Nat} {G : Gm} {M : Dv} {L : PutL} {qs : List Res}
set_option maxHeartbeats 2000000 in
theorem inode11_ok (h : ISys w W b jb tb mb rec G M L qs) (k : Nat) (hk : Rg G k) (x : Im) (hx : x.fits) (hm : x.may) (hI : inB G (vw M.cur L) k = x.putL) :
    Calls Tryz.prog 28 #[devp mb, .int .u32 (k : Int)] W fun e w' => e = .returned (.tuple #[x.v, .int .i64 0]) ∧ Below W.heap.size W w' := by
  have hsl := sI_lt h.sm hk
  have hol := off_lt h.sm
  have hlen := h.len (k := sI G k) (by omega)
  have hp32 : pI k + 32 ≤ 64 := by have := pI_cases k; omega
  have hz : InoAt (W.alloc (.cells #[.int .u8 0, .int .u16 0, .int .u32 0, .int .u16 0, .int .u16 0, .int .u16 0, .int .u16 0, .int .u16 0] 41)) W.heap.size Im.nought := heap_alloc_new W _
  have hb0 : Below W.heap.size W (W.alloc (.cells #[.int .u8 0, .int .u16 0, .int .u32 0, .int .u16 0, .int .u16 0, .int .u16 0, .int .u16 0, .int .u16 0] 41)) := (Below.refl _ _).alloc (Nat.le_refl _) _
  have h0 := h.below hb0
  have HW := Lib.hid (whereInode_ok h0.at_ h.sm k hk)
  have H := Lib.hid h0
  have HZ := Lib.hid hz
  have HB := Lib.hid hb0
  have hg : ∀ V, Calls Tryz.prog 71 #[str (((vw M.cur L (sI G k)).take (pI k + 32)).drop (pI k))] V fun e w' => e = .returned (.tuple #[x.v, .int .i64 0]) ∧ Below V.heap.size V w' := fun V => by
    have := iget_32 (inB G (vw M.cur L) k) V (by rw [hI, putL_length])
    rw [hI, getL_put hx hm] at this
    rw [← hI] at this
    have e : ((vw M.cur L (sI G k)).take (pI k + 32)).drop (pI k) = inB G (vw M.cur L) k := by unfold inB; rw [List.drop_take]; congr 1; omega
    rw [e]
    exact this
  have HG := Lib.hid hg
  have hpN : ((pI k : Nat) : Int) + 32 ≤ 64 := by omega
  have hp0 : (0 : Int) ≤ ((pI k : Nat) : Int) := by omega
  have HS : sI G k < G.all := by omega
  clear h h0 hz hb0 hg hI hsl hol
  go_enter Tryz.func28, Tryz.ntmps28
  go_wp2_with fail
  refine HW.out.mono ?_
  rintro e w1 ⟨rfl, hb⟩
  have H1 := Lib.hid (H.out.below hb)
  have HZ1 := Lib.hid (HZ.out.keep hb)
  have HB1 := Lib.hid (HB.out.trans (hb.mono HB.out.size))
  clear hb H HZ HB HW
  obtain ⟨c0, c1, c2, c3⟩ := H1.out.cells
  have HR := Lib.hid (H1.out.read (sI G k) HS)
  go_wp2_with fail
  refine HR.out.mono ?_
  rintro e w2 ⟨rfl, hb⟩
  have HZ2 := Lib.hid (HZ1.out.keep hb)
  have HB2 := Lib.hid (HB1.out.trans (hb.mono HB1.out.size))
  clear hb H1 HZ1 HB1 HR c0 c1 c2 c3
  go_wp2_with fail
  refine (HG.out _).mono ?_
  rintro e w3 ⟨rfl, hb⟩
  obtain ⟨w4, hs, hz, -, hb4⟩ := ino_store (HZ2.out.keep hb) x
  have HB3 := Lib.hid ((HB2.out.trans (hb.mono HB2.out.size)).trans (hb4 _ (Nat.le_refl _)))
  have HZ3 := Lib.hid hz
  clear hb hz hb4 HZ2 HB2
  go_wp2_with fail
  refine bodyPost_ret (v := .tuple #[x.v, .int .i64 0]) ?_ rfl ⟨rfl, HB3.out⟩
  exact results_row_tmp (p := 4) (q := 5) rfl _ _ W.heap.size _ rfl (ino_var HZ3.out)
set_option maxHeartbeats 2000000 in
theorem inode11_bad (h : ISys w W b jb tb mb rec G M L qs) (k : Int) (hk : k < 1 ∨ (G.i : Int) < k) (h0 : 0 ≤ k) (h9 : k < 4294967296) :
    Calls Tryz.prog 28 #[devp mb, .int .u32 k] W fun e w' => e = .returned (.tuple #[Im.nought.v, .int .i64 2]) ∧ Below W.heap.size W w' := by
  have hz : InoAt (W.alloc (.cells #[.int .u8 0, .int .u16 0, .int .u32 0, .int .u16 0, .int .u16 0, .int .u16 0, .int .u16 0, .int .u16 0] 41)) W.heap.size Im.nought := heap_alloc_new W _
  have hb0 : Below W.heap.size W (W.alloc (.cells #[.int .u8 0, .int .u16 0, .int .u32 0, .int .u16 0, .int .u16 0, .int .u16 0, .int .u16 0, .int .u16 0] 41)) := (Below.refl _ _).alloc (Nat.le_refl _) _
  have HW := Lib.hid (whereInode_bad (h.below hb0).at_ h.sm k hk h0 h9)
  have HZ := Lib.hid hz
  have HB := Lib.hid hb0
  clear h hz hb0 hk h0 h9
  go_enter Tryz.func28, Tryz.ntmps28
  go_wp2_with fail
  refine HW.out.mono ?_
  rintro e w1 ⟨rfl, hb⟩
  obtain ⟨w4, hs, hz, -, hb4⟩ := ino_store (HZ.out.keep hb) Im.nought
  have hs2 : (inoStore (.pointer (some ⟨W.heap.size, 0, none⟩)) (.agg #[.int .u8 0, .int .u16 0, .int .u32 0, .int .u16 0, .int .u16 0, .int .u16 0, .int .u16 0, .int .u16 0])).run Tryz.prog w1 = .ok () w4 := hs
  have HB3 := Lib.hid ((HB.out.trans (hb.mono HB.out.size)).trans (hb4 _ (Nat.le_refl _)))
  have HZ3 := Lib.hid hz
  clear hb hz hb4 HZ HB
  go_wp2_with fail
  refine bodyPost_ret (v := .tuple #[Im.nought.v, .int .i64 2]) ?_ rfl ⟨rfl, HB3.out⟩
  exact results_row_tmp (p := 4) (q := 5) rfl _ _ W.heap.size _ rfl (ino_var HZ3.out)
def liveE (x : Im) (e : Int) : Int := if e = 0 ∧ x.k = 0 then 3 else e
set_option maxHeartbeats 2000000 in
theorem live_of (k : Int) (x : Im) (e0 : Int)
    (hI : ∀ V, Below W.heap.size W V → Calls Tryz.prog 28 #[devp mb, .int .u32 k] V fun e w' => e = .returned (.tuple #[x.v, .int .i64 e0]) ∧ Below V.heap.size V w') :
    Calls Tryz.prog 45 #[devp mb, .int .u32 k] W fun e w' => e = .returned (.tuple #[x.v, .int .i64 (liveE x e0)]) ∧ Below W.heap.size W w' := by
  have hz : InoAt (W.alloc (.cells #[.int .u8 0, .int .u16 0, .int .u32 0, .int .u16 0, .int .u16 0, .int .u16 0, .int .u16 0, .int .u16 0] 41)) W.heap.size Im.nought := heap_alloc_new W _
  have hb0 : Below W.heap.size W (W.alloc (.cells #[.int .u8 0, .int .u16 0, .int .u32 0, .int .u16 0, .int .u16 0, .int .u16 0, .int .u16 0, .int .u16 0] 41)) := (Below.refl _ _).alloc (Nat.le_refl _) _
  have HI := Lib.hid (hI _ hb0)
  have HZ := Lib.hid hz
  have HB := Lib.hid hb0
  obtain ⟨a, ha⟩ : ∃ a, a = (e0 == 0) := ⟨_, rfl⟩
  obtain ⟨c, hc⟩ : ∃ c, c = ((x.k : Int) == 0) := ⟨_, rfl⟩
  obtain ⟨r, hr⟩ : ∃ r, r = liveE x e0 := ⟨_, rfl⟩
  have h1 : a = false → r = e0 := fun e => by rw [hr]; unfold liveE; rw [if_neg]; rintro ⟨q, -⟩; rw [ha, q] at e; exact Bool.noConfusion e
  have h2 : c = false → r = e0 := fun e => by rw [hr]; unfold liveE; rw [if_neg]; rintro ⟨-, q⟩; rw [hc, q] at e; exact Bool.noConfusion e
  have h3 : a = true → c = true → r = 3 := fun e f => by rw [hr]; unfold liveE; rw [if_pos]; rw [ha, beq_iff_eq] at e; rw [hc, beq_iff_eq] at f; exact ⟨e, by omega⟩
  rw [← hr]
  have H1 := Lib.hid h1
  have H2 := Lib.hid h2
  have H3 := Lib.hid h3
  have HA := ha.symm
  have HC := hc.symm
  clear hI hz hb0 ha hc hr h1 h2 h3
  go_enter Tryz.func45, Tryz.ntmps45
  go_wp2_with fail
  refine HI.out.mono ?_
  rintro e w1 ⟨rfl, hb⟩
  obtain ⟨w2, hs, hx, hb2⟩ := ino_fresh w1 x
  have hx2 := HZ.out.keep hb
  have hz2 := hx2.keep hb2
  obtain ⟨w3, hs3, hz3, -, hb3⟩ := ino_store hz2 x
  have hb1 := HB.out.trans (hb.mono HB.out.size)
  have hb12 := hb1.trans (hb2.mono hb1.size)
  have HB3 := Lib.hid (hb12.trans (hb3 _ (Nat.le_refl _)))
  have HZ3 := Lib.hid hz3
  obtain ⟨x0, x1, x2, x3, x4, x5, x6, x7⟩ := Boxes.cells hx
  clear hb hz3 hb3 hb2 HZ HB hb1 hb12 hx2 hz2 hx
  cases a
  · obtain rfl := H1.out rfl
    clear H1 H2 H3
    go_wp2_with fail
    refine bodyPost_ret (v := .tuple #[x.v, .int .i64 r]) ?_ rfl ⟨rfl, HB3.out⟩
    exact results_row_tmp (p := 4) (q := 5) rfl _ _ W.heap.size _ rfl (ino_var HZ3.out)
  · cases c
    · obtain rfl := H2.out rfl
      clear H1 H2 H3
      go_wp2_with fail
      refine bodyPost_ret (v := .tuple #[x.v, .int .i64 r]) ?_ rfl ⟨rfl, HB3.out⟩
      exact results_row_tmp (p := 4) (q := 5) rfl _ _ W.heap.size _ rfl (ino_var HZ3.out)
    · obtain rfl := H3.out rfl rfl
      clear H1 H2 H3
      go_wp2_with fail
      refine bodyPost_ret (v := .tuple #[x.v, .int .i64 3]) ?_ rfl ⟨rfl, HB3.out⟩
      exact results_row_tmp (p := 4) (q := 5) rfl _ _ W.heap.size _ rfl (ino_var HZ3.out)
set_option maxHeartbeats 2000000 in
theorem setInode_ok (h : ISys w W b jb tb mb rec G M L qs) (k : Nat) (hk : Rg G k) (x : Im) (hx : x.fits) (hm : x.may) :
    Calls Tryz.prog 12 #[devp mb, .int .u32 (k : Int), x.v] W fun e w' => e = .returned (.int .i64 (wE (capL G.j) L (sI G k))) ∧ ISys w w' b jb tb mb rec G M (wL (capL G.j) L (sI G k) (over (vw M.cur L (sI G k)) (pI k) x.putL)) qs := by
  have hsl := sI_lt h.sm hk
  have hol := off_lt h.sm
  have hp32 : pI k + 32 ≤ 64 := by have := pI_cases k; omega
  have hz : InoAt (W.alloc (.cells #[.int .u8 x.k, w16 x.n, .int .u32 x.z, w16 x.d0, w16 x.d1, w16 x.d2, w16 x.d3, w16 x.i] 41)) W.heap.size x := ino_new11 W x
  have hb0 : Below W.heap.size W (W.alloc (.cells #[.int .u8 x.k, w16 x.n, .int .u32 x.z, w16 x.d0, w16 x.d1, w16 x.d2, w16 x.d3, w16 x.i] 41)) := (Below.refl _ _).alloc (Nat.le_refl _) _
  have h0 := h.below hb0
  have HW := Lib.hid (whereInode_ok h0.at_ h.sm k hk)
  have H := Lib.hid h0
  have HZ := Lib.hid hz
  have HP := Lib.hid fun V => put_ok x hx hm V
  have hpl := putL_length x
  have HS : sI G k < G.all := by omega
  have HS0 : 1 + G.j ≤ sI G k := by have := Sm.o2 G; omega
  clear h h0 hz hb0 hsl hol
  go_enter Tryz.func12, Tryz.ntmps12
  go_wp2_with fail
  refine HW.out.mono ?_
  rintro e w1 ⟨rfl, hb⟩
  have H1 := Lib.hid (H.out.below hb)
  obtain ⟨x0, x1, x2, x3, x4, x5, x6, x7⟩ := Boxes.cells (HZ.out.keep hb)
  clear hb H HZ HW
  go_wp2_with fail
  refine (HP.out _).mono ?_
  rintro e w2 ⟨rfl, hb⟩
  have H2 := Lib.hid (H1.out.below hb)
  clear hb H1 x0 x1 x2 x3 x4 x5 x6 x7
  obtain ⟨c0, c1, c2, c3⟩ := H2.out.cells
  go_wp2_with fail
  refine (H2.out.patch (sI G k) HS HS0 (pI k) x.putL (by omega)).mono ?_
  rintro e w3 ⟨rfl, h3⟩
  go_wp2_with fail
  go_ret
  exact ⟨rfl, h3⟩
end
end Go.Proofs.YtnfiapjdkjbdhaaGreat
/- Layer 11 (image): what is allocated: taken, given; how many are left. -/
namespace Go.Proofs.YtnfiapjdkjbdhaaGreat
open Go.RowKit Go.Maps Go.Lib
set_option linter.unusedVariables false
set_option linter.unusedSimpArgs false
set_option maxRecDepth 10000
section
variable {w W : World} {b jb tb mb rec : Nat} {G : Gm} {M : Dv} {L : PutL} {qs : List Res}
set_option maxHeartbeats 1000000 in
theorem taken_ok (h : ISys w W b jb tb mb rec G M L qs) (k : Nat) (hk : Rg G k) :
    Calls Tryz.prog 40 #[devp mb, .int .u32 (k : Int)] W fun e w' => e = .returned (.tuple #[.bool (Bits.bitL (vw M.cur L (G.off 2)) k), .int .i64 0]) ∧ Below W.heap.size W w' := by
  have HW := Lib.hid (whereInode_ok h.at_ h.sm k hk)
  have hk30 : k < 512 := by have := h.sm.i; have := hk.2; omega
  have HT := Lib.hid fun V (hV : Below W.heap.size W V) => taken11_any (h.below hV) 2 (.inl rfl) k hk30
  have hkw : IntKind.i64.wrap (k : Int) = (k : Int) := IntWalk.i64_in _ (by omega)
  clear h
  go_enter Tryz.func40, Tryz.ntmps40
  go_wp2_with fail
  refine HW.out.mono ?_
  rintro e w1 ⟨rfl, hb⟩
  have HB := Lib.hid hb
  clear hb
  go_wp2_with fail
  refine (HT.out _ HB.out).mono ?_
  rintro e w2 ⟨rfl, hb⟩
  have HB2 := Lib.hid (HB.out.trans (hb.mono HB.out.size))
  clear hb
  go_wp2_with fail
  go_ret2
  exact ⟨rfl, HB2.out⟩
set_option maxHeartbeats 1000000 in
theorem takenBlock_ok (h : ISys w W b jb tb mb rec G M L qs) (k : Nat) (hk : Bg G k) :
    Calls Tryz.prog 56 #[devp mb, w16 k] W fun e w' => e = .returned (.tuple #[.bool (Bits.bitL (vw M.cur L (G.off 3)) k), .int .i64 0]) ∧ Below W.heap.size W w' := by
  have HW := Lib.hid (whereBlock_ok h.at_ h.sm k hk)
  have hk30 : k < 512 := by have := h.sm.b; have := hk.2; omega
  have HT := Lib.hid fun V (hV : Below W.heap.size W V) => taken11_any (h.below hV) 3 (.inr rfl) k hk30
  have hkw : IntKind.i64.wrap (k : Int) = (k : Int) := IntWalk.i64_in _ (by omega)
  clear h
  go_enter Tryz.func56, Tryz.ntmps56
  go_wp2_with fail
  refine HW.out.mono ?_
  rintro e w1 ⟨rfl, hb⟩
  have HB := Lib.hid hb
  clear hb
  go_wp2_with fail
  refine (HT.out _ HB.out).mono ?_
  rintro e w2 ⟨rfl, hb⟩
  have HB2 := Lib.hid (HB.out.trans (hb.mono HB.out.size))
  clear hb
  go_wp2_with fail
  go_ret2
  exact ⟨rfl, HB2.out⟩
set_option maxHeartbeats 1000000 in
theorem take11_any (h : ISys w W b jb tb mb rec G M L qs) (k : Nat) (hk : Rg G k) (r : Bool) (hr : Bits.bitL (vw M.cur L (G.off 2)) k = r) :
    Calls Tryz.prog 11 #[devp mb, .int .u32 (k : Int)] W fun e w' => e = .returned (.int .i64 (if r then 9 else wE (capL G.j) L (G.off 2))) ∧ ISys w w' b jb tb mb rec G M (if r then L else wL (capL G.j) L (G.off 2) (Bits.setL (vw M.cur L (G.off 2)) k true)) qs := by
  have hT := taken_ok h k hk
  rw [hr] at hT
  have HT := Lib.hid hT
  have H := Lib.hid h
  have hk30 : k < 512 := by have := h.sm.i; have := hk.2; omega
  have hkw : IntKind.i64.wrap (k : Int) = (k : Int) := IntWalk.i64_in _ (by omega)
  clear h hT hr
  cases r
  · go_enter Tryz.func11, Tryz.ntmps11
    go_wp2_with fail
    refine HT.out.mono ?_
    rintro e w1 ⟨rfl, hb⟩
    have H1 := Lib.hid (H.out.below hb)
    clear hb
    go_wp2_with fail
    refine (turn_any H1.out 2 (.inl rfl) k hk30 true).mono ?_
    rintro e w2 ⟨rfl, h2⟩
    go_wp2_with fail
    go_ret
    exact ⟨rfl, h2⟩
  · go_enter Tryz.func11, Tryz.ntmps11
    go_wp2_with fail
    refine HT.out.mono ?_
    rintro e w1 ⟨rfl, hb⟩
    have H1 := Lib.hid (H.out.below hb)
    clear hb
    go_wp2_with fail
    go_ret
    exact ⟨rfl, H1.out⟩
set_option maxHeartbeats 1000000 in
theorem returnable_any (h : ISys w W b jb tb mb rec G M L qs) (k : Nat) (hk : Bg G k) (hr : Bits.bitL (vw M.cur L (G.off 3)) k = true) :
    Calls Tryz.prog 107 #[devp mb, w16 k] W fun e w' => e = .returned (.int .i64 0) ∧ Below W.heap.size W w' := by
  have hT := takenBlock_ok h k hk
  rw [hr] at hT
  have HT := Lib.hid hT
  clear h hT hr
  go_enter Tryz.func107, Tryz.ntmps107
  go_wp2_with fail
  refine HT.out.mono ?_
  rintro e w1 ⟨rfl, hb⟩
  go_wp2_with fail
  go_ret
  exact ⟨rfl, hb⟩
set_option maxHeartbeats 1000000 in
theorem giveBlock_any (h : ISys w W b jb tb mb rec G M L qs) (k : Nat) (hk : Bg G k) (hr : Bits.bitL (vw M.cur L (G.off 3)) k = true) :
    Calls Tryz.prog 110 #[devp mb, w16 k] W fun e w' => e = .returned (.int .i64 (wE (capL G.j) L (G.off 3))) ∧ ISys w w' b jb tb mb rec G M (wL (capL G.j) L (G.off 3) (Bits.setL (vw M.cur L (G.off 3)) k false)) qs := by
  have HT := Lib.hid (returnable_any h k hk hr)
  have H := Lib.hid h
  have hk30 : k < 512 := by have := h.sm.b; have := hk.2; omega
  have hkw : IntKind.i64.wrap (k : Int) = (k : Int) := IntWalk.i64_in _ (by omega)
  clear h hr
  go_enter Tryz.func110, Tryz.ntmps110
  go_wp2_with fail
  refine HT.out.mono ?_
  rintro e w1 ⟨rfl, hb⟩
  have H1 := Lib.hid (H.out.below hb)
  clear hb
  go_wp2_with fail
  refine (turn_any H1.out 3 (.inr rfl) k hk30 false).mono ?_
  rintro e w2 ⟨rfl, h2⟩
  go_wp2_with fail
  go_ret
  exact ⟨rfl, h2⟩
set_option maxHeartbeats 1000000 in
theorem all_any (h : ISys w W b jb tb mb rec G M L qs) (p : Nat) (hp : p = 2 ∨ p = 3) (n : Nat) (hn : n < 512) :
    Calls Tryz.prog 130 #[devp mb, .int .i64 (p : Int), .int .i64 (n : Int)] W fun e w' => e = .returned (.tuple #[str (vw M.cur L (G.off p)), .int .i64 0]) ∧ Below W.heap.size W w' := by
  have hoff := off_lt h.sm
  have hlen := h.len (k := G.off p) (by rcases hp with rfl | rfl <;> omega)
  have HO := Lib.hid (bitsOf_any h p (by omega))
  have HA := Lib.hid fun V (hV : Below W.heap.size W V) sb pb hB => bitsAt_any (h.below hV) (sb := sb) (pb := pb) p hp hB 0 (by omega)
  have hq : (n : Int).tdiv 512 = 0 := by rw [Int.tdiv_eq_ediv_of_nonneg (by omega)]; omega
  have hq2 : (n : Int) / 512 = 0 := by omega
  obtain ⟨l, hl⟩ : ∃ l, l = vw M.cur L (G.off p) := ⟨_, rfl⟩
  rw [← hl] at HA hlen ⊢
  clear h hoff hp hl
  go_enter Tryz.func130, Tryz.ntmps130
  go_wp2_with fail
  refine HO.out.mono ?_
  rintro e w1 ⟨sb, pb, rfl, hB, hb⟩
  have HB := Lib.hid hb
  have HBA := Lib.hid hB
  clear hb hB
  go_wp2_with fail
  go_loopw [9, 20] (fun s i wr => ∃ k : Nat, k ≤ 1 ∧ i = .int .i64 k ∧ s = str (if k = 0 then [] else l) ∧ Below W.heap.size W wr ∧ BitAt wr sb pb mb (G.off p) (G.cnt p)) (fun _ i _ => 1 - (Go.RowKit.intOf i).toNat)
  case atStart => exact ⟨0, by omega, rfl, rfl, HB.out, HBA.out⟩
  case round =>
    obtain ⟨k, hk, rfl, rfl, hb, hB⟩ := hrel
    have HBr := Lib.hid hb
    have HBAr := Lib.hid hB
    clear hb hB
    by_cases hk0 : k = 0
    · subst hk0
      have HC := Lib.hid (HA.out wr HBr.out sb pb HBAr.out)
      go_wp2_with fail
      refine HC.out.mono ?_
      rintro e w2 ⟨rfl, hb⟩
      have HB2 := Lib.hid (HBr.out.trans (hb.mono HBr.out.size))
      have HBA2 := Lib.hid (HBAr.out.below hb)
      clear hb
      go_wp2_with fail
      go_roundw
      case rel => exact ⟨1, by omega, by go_num, by simp, HB2.out, HBA2.out⟩
      case measure => decide
    · have hk1 : k = 1 := by omega
      subst hk1
      go_wp2_with fail
      go_ret2
      exact ⟨by simp, HBr.out⟩
end
end Go.Proofs.YtnfiapjdkjbdhaaGreat
/- Layer 11 (image): how many are left; the lowest blocks that are not allocated; a block is allocated. -/
namespace Go.Proofs.YtnfiapjdkjbdhaaGreat
open Go.RowKit Go.Maps Go.Lib
set_option linter.unusedVariables false
set_option linter.unusedSimpArgs false
set_option maxRecDepth 10000
def pickL (m : Nat) : Nat → List UInt8 → Option (List Nat)
  | 0, _ => some []
  | n + 1, s => match Bits.leastL s false m with
    | none => none
    | some c => (pickL m n (Bits.setL s c true)).map (c :: ·)
theorem pickL_some {m n : Nat} {s : List UInt8} {c : Nat} (h : Bits.leastL s false m = some c) : pickL m (n + 1) s = (pickL m n (Bits.setL s c true)).map (c :: ·) := by
  show (match Bits.leastL s false m with | none => none | some c => (pickL m n (Bits.setL s c true)).map (c :: ·)) = _
  rw [h]
theorem pickL_none {m n : Nat} {s : List UInt8} (h : Bits.leastL s false m = none) : pickL m (n + 1) s = none := by
  show (match Bits.leastL s false m with | none => none | some c => (pickL m n (Bits.setL s c true)).map (c :: ·)) = _
  rw [h]
theorem pickL_length {m : Nat} : ∀ {n : Nat} {s : List UInt8} {l : List Nat}, pickL m n s = some l → l.length = n
  | 0, s, l, h => by cases h; rfl
  | n + 1, s, l, h => by
    cases hl : Bits.leastL s false m with
    | none => rw [pickL_none hl] at h; cases h
    | some c =>
      rw [pickL_some hl, Option.map_eq_some_iff] at h
      obtain ⟨r, hr, rfl⟩ := h
      rw [List.length_cons, pickL_length hr]
section
variable {w W : World} {b jb tb mb rec : Nat} {G : Gm} {M : Dv} {L : PutL} {qs : List Res}
def leftV (l : List UInt8) (n : Nat) : Int := (n : Int) - (Bits.countL l (n + 1) : Nat) + (Bits.countL l 1 : Nat)
set_option maxHeartbeats 1000000 in
theorem left_any (h : ISys w W b jb tb mb rec G M L qs) (p : Nat) (hp : p = 2 ∨ p = 3) (n : Nat) (hn : n < 511) :
    Calls Tryz.prog 69 #[devp mb, .int .i64 (p : Int), .int .i64 (n : Int)] W fun e w' => e = .returned (.tuple #[.int .i64 (leftV (vw M.cur L (G.off p)) n), .int .i64 0]) ∧ Below W.heap.size W w' := by
  have hoff := off_lt h.sm
  have hlen := h.len (k := G.off p) (by rcases hp with rfl | rfl <;> omega)
  have HA := Lib.hid (all_any h p hp n (by omega))
  obtain ⟨l, hl⟩ : ∃ l, l = vw M.cur L (G.off p) := ⟨_, rfl⟩
  rw [← hl] at HA hlen ⊢
  have hc1 := fun V => Bits.count_any l ((n : Int) + 1) V (by omega)
  have hc2 := fun V => Bits.count_any l 1 V (by omega)
  have e1 : min ((n : Int) + 1).toNat (8 * l.length) = n + 1 := by omega
  have e2 : min (1 : Int).toNat (8 * l.length) = 1 := by rw [hlen]; rfl
  rw [e1] at hc1
  rw [e2] at hc2
  have C1 := Lib.hid hc1
  have C2 := Lib.hid hc2
  have k1 := Bits.countL_le l (n + 1)
  have k2 := Bits.countL_le l 1
  unfold leftV
  generalize Bits.countL l (n + 1) = a at *
  generalize Bits.countL l 1 = c at *
  clear h hl hlen hp hoff e1 e2 hc1 hc2
  go_enter Tryz.func69, Tryz.ntmps69
  go_wp2_with fail
  refine HA.out.mono ?_
  rintro e w1 ⟨rfl, hb⟩
  have HB := Lib.hid hb
  clear hb
  go_wp2_with fail
  refine (C1.out _).mono ?_
  rintro e w2 ⟨rfl, hb⟩
  have HB2 := Lib.hid (HB.out.trans (hb.mono HB.out.size))
  clear hb
  go_wp2_with fail
  refine (C2.out _).mono ?_
  rintro e w3 ⟨rfl, hb⟩
  have HB3 := Lib.hid (HB2.out.trans (hb.mono HB2.out.size))
  clear hb
  go_wp2_with fail
  go_ret2
  exact ⟨rfl, HB3.out⟩
set_option maxHeartbeats 1000000 in
theorem free11_any (h : ISys w W b jb tb mb rec G M L qs) :
    Calls Tryz.prog 27 #[devp mb] W fun e w' => e = .returned (.tuple #[.int .i64 (leftV (vw M.cur L (G.off 2)) G.i), .int .i64 (leftV (vw M.cur L (G.off 3)) G.b), .int .i64 0]) ∧ Below W.heap.size W w' := by
  have h30 := h.sm.i
  have h60 := h.sm.b
  have H1 := Lib.hid (left_any h 2 (.inl rfl) G.i (by omega))
  have H := Lib.hid h
  obtain ⟨c0, c1, c2, c3⟩ := h.cells
  clear h
  go_enter Tryz.func27, Tryz.ntmps27
  go_wp2_with fail
  refine H1.out.mono ?_
  rintro e w1 ⟨rfl, hb⟩
  have HB := Lib.hid hb
  have h1 := H.out.below hb
  have H2 := Lib.hid (left_any h1 3 (.inr rfl) G.b (by omega))
  clear c0 c1 c2 c3
  obtain ⟨c0, c1, c2, c3⟩ := h1.cells
  clear h1 hb
  go_wp2_with fail
  refine H2.out.mono ?_
  rintro e w2 ⟨rfl, hb⟩
  have HB2 := Lib.hid (HB.out.trans (hb.mono HB.out.size))
  clear hb
  go_wp2_with fail
  go_ret3
  exact ⟨rfl, HB2.out⟩
set_option maxHeartbeats 1000000 in
theorem spare11_any (h : ISys w W b jb tb mb rec G M L qs) (n : Nat) (hn : n ≤ 2) (h0 : Bits.bitL (vw M.cur L (G.off 3)) 0 = true) :
    Calls Tryz.prog 98 #[devp mb, .int .i64 (n : Int)] W fun e w' => (∃ v l, pickL (G.b + 1) n (vw M.cur L (G.off 3)) = some l ∧ e = .returned (.tuple #[v, .int .i64 0]) ∧ U16s w' v l ∧ Below W.heap.size W w') ∨
      pickL (G.b + 1) n (vw M.cur L (G.off 3)) = none ∧ e = .returned (.tuple #[.slice none 0 0, .int .i64 4]) ∧ Below W.heap.size W w' := by
  have hoff := off_lt h.sm
  have hlen := h.len (k := G.off 3) (by omega)
  have h60 := h.sm.b
  have HA := Lib.hid (all_any h 3 (.inr rfl) G.b (by omega))
  have H := Lib.hid h
  obtain ⟨c0, c1, c2, c3⟩ := h.cells
  obtain ⟨l, hl⟩ : ∃ l, l = vw M.cur L (G.off 3) := ⟨_, rfl⟩
  rw [← hl] at HA hlen h0 ⊢
  have hs0 : Bits.setL l 0 true = l := Bits.setL_same l 0 true (by omega) h0
  have hS0 := fun V => Bits.set_ok l 0 true V (by omega) (by omega)
  rw [hs0] at hS0
  have HS0 := Lib.hid hS0
  have HS := Lib.hid fun (s : List UInt8) (hs : s.length = 64) (c : Nat) (hc : c < 512) V => Bits.set_ok s c true V (by omega) (by omega)
  have hLe := fun (s : List UInt8) (hs : s.length = 64) V => Bits.least_any s ((G.b : Int) + 1) false V (by omega)
  have e1 : ∀ s : List UInt8, s.length = 64 → min ((G.b : Int) + 1).toNat (8 * s.length) = G.b + 1 := fun s hs => by omega
  have HL := Lib.hid fun (s : List UInt8) (hs : s.length = 64) V => by have := hLe s hs V; rw [e1 s hs] at this; exact this
  clear h hl hoff hs0 hS0 hLe e1
  go_enter Tryz.func98, Tryz.ntmps98
  go_wp2_with fail
  refine HA.out.mono ?_
  rintro e w1 ⟨rfl, hb⟩
  have HB := Lib.hid hb
  clear hb
  go_wp2_with fail
  refine (HS0.out _).mono ?_
  rintro e w2 ⟨rfl, hb⟩
  have HB2 := Lib.hid (HB.out.trans (hb.mono HB.out.size))
  clear hb c0 c1 c2 c3
  go_wp2_with fail
  go_loopw [6, 8, 32] (fun s v i wr => ∃ (k : Nat) (t : List UInt8) (q : List Nat), k ≤ n ∧ i = .int .i64 k ∧ s = str t ∧ t.length = 64 ∧ Bits.bitL t 0 = true ∧ q.length = k ∧ pickL (G.b + 1) n l = (pickL (G.b + 1) (n - k) t).map (q ++ ·) ∧ wr.ownsRow W.heap.size 38 1 v k (numV q) ∧ Below W.heap.size W wr) (fun _ _ i _ => n - (Go.RowKit.intOf i).toNat)
  case atStart => exact ⟨0, l, [], Nat.zero_le _, rfl, rfl, hlen, h0, rfl, by simp, World.ownsRow_nil _ _ _ _, HB2.out⟩
  case round =>
    obtain ⟨k, t, q, hk, rfl, rfl, ht, ht0, hq, hpk, hown, hb⟩ := hrel
    have H1 := Lib.hid (H.out.below hb)
    obtain ⟨c0, c1, c2, c3⟩ := H1.out.cells
    have HBr := Lib.hid hb
    have HO := Lib.hid hown
    have HT0 := Lib.hid ht0
    have HPK := Lib.hid hpk
    have HL1 := Lib.hid (HL.out t ht)
    clear hb hown ht0 hpk
    by_cases hlt : k < n
    · have hnk : n - k = (n - (k + 1)) + 1 := by omega
      cases hle : Bits.leastL t false (G.b + 1) with
      | none =>
        rw [hle] at HL1
        have HL1 := Lib.hid (show ∀ V, Calls Tryz.prog 153 #[str t, .int .i64 ((G.b : Int) + 1), .bool false] V fun e w' => e = .returned (.tuple #[.int .i64 0, .bool false]) ∧ Below V.heap.size V w' from HL1.out)
        have HE := Lib.hid (by have := HPK.out; rw [hnk, pickL_none hle] at this; exact this : pickL (G.b + 1) n l = none)
        clear hle hnk HPK
        go_wp2_with fail
        refine (HL1.out _).mono ?_
        rintro e w3 ⟨rfl, hb⟩
        have HB3 := Lib.hid (HBr.out.trans (hb.mono HBr.out.size))
        clear hb
        go_wp2_with fail
        go_ret2
        exact .inr ⟨HE.out, rfl, HB3.out⟩
      | some c =>
        rw [hle] at HL1
        have HL1 := Lib.hid (show ∀ V, Calls Tryz.prog 153 #[str t, .int .i64 ((G.b : Int) + 1), .bool false] V fun e w' => e = .returned (.tuple #[.int .i64 (c : Int), .bool true]) ∧ Below V.heap.size V w' from HL1.out)
        obtain ⟨hcl, hcb, -⟩ := Bits.leastL_some _ _ _ _ hle
        have hc1 : c ≠ 0 := fun e => by rw [e, HT0.out] at hcb; cases hcb
        have HE := Lib.hid (by have := HPK.out; rw [hnk, pickL_some hle] at this; exact this : pickL (G.b + 1) n l = ((pickL (G.b + 1) (n - (k + 1)) (Bits.setL t c true)).map (c :: ·)).map (q ++ ·))
        have hBg : Bg G c := ⟨by omega, by omega⟩
        have hcw : IntKind.u16.wrap (c : Int) = (c : Int) := IntWalk.u16_in _ (by omega)
        have HSc := Lib.hid (HS.out t ht c (by omega))
        have hsl : (Bits.setL t c true).length = 64 := by unfold Bits.setL; rw [List.length_set]; exact ht
        have hs0 : Bits.bitL (Bits.setL t c true) 0 = true := by rw [Bits.setL_bit _ _ _ _ (by omega)]; split; rfl; exact HT0.out
        have HS0' := Lib.hid hs0
        clear hle hnk HPK hcb hs0
        go_wp2_with fail
        refine (HL1.out _).mono ?_
        rintro e w3 ⟨rfl, hb⟩
        have H3 := Lib.hid (H1.out.below hb)
        have HB3 := Lib.hid (HBr.out.trans (hb.mono HBr.out.size))
        have HO3 := Lib.hid (own_below HO.out hb)
        clear hb c0 c1 c2 c3
        go_wp2_with fail
        refine (placed_ok H3.out c hBg).mono ?_
        rintro e w4 ⟨rfl, hb⟩
        have HB4 := Lib.hid (HB3.out.trans (hb.mono HB3.out.size))
        have HO4 := Lib.hid (own_below HO3.out hb)
        clear hb
        go_wp2_with fail
        refine (HSc.out _).mono ?_
        rintro e w5 ⟨rfl, hb⟩
        have hbw1 := HB4.out.trans (hb.mono HB4.out.size)
        have hown1 := own_below HO4.out hb
        clear hb
        go_wp2_with (at_builtin; refine wpList_append_one rfl _ _ _ rfl 38 _ 2 Tryz.underlying75 num16Info rfl _ _ _ rfl hown1 (w16 c) _ _ rfl rfl rfl (by simp only [maxLen]; omega) (by omega) hbw1 ?_; intro v' w6 hown2 hbw2)
        go_roundw
        case rel => exact ⟨k + 1, Bits.setL t c true, q ++ [c], by omega, by go_num, rfl, hsl, HS0'.out, by simp [hq], by rw [HE.out, Option.map_map]; congr 1; funext r; simp, by rw [numV_append]; exact hown2, hbw2⟩
        case measure => simp [Go.RowKit.intOf]; omega
    · have : k = n := by omega
      subst this
      go_wp2_with fail
      go_ret2
      refine .inl ⟨_, q, ?_, rfl, u16s_own HO.out, HBr.out⟩
      rw [HPK.out, Nat.sub_self]
      simp [pickL]
def BlkPost (G : Gm) (cap : Nat) (f : Nat → List UInt8) (L L' : PutL) (c : Nat) (e : Int) : Prop :=
  (e = 4 ∧ c = 0 ∧ (Bits.leastL (vw f L (G.off 3)) false (G.b + 1) = none ∨ cap < L.length + 2)) ∨
    e = 0 ∧ Bits.leastL (vw f L (G.off 3)) false (G.b + 1) = some c ∧ vw f L' = upd (upd (vw f L) (G.off 3) (Bits.setL (vw f L (G.off 3)) c true)) (secB G c) z64 ∧ L'.length ≤ L.length + 2
set_option maxHeartbeats 2000000 in
theorem block_any (h : ISys w W b jb tb mb rec G M L qs) (h0 : Bits.bitL (vw M.cur L (G.off 3)) 0 = true) :
    Calls Tryz.prog 99 #[devp mb] W fun e w' => ∃ c r L', e = .returned (.tuple #[w16 c, .int .i64 r]) ∧ BlkPost G (capL G.j) M.cur L L' c r ∧ ISys w w' b jb tb mb rec G M L' qs := by
  have hoff := off_lt h.sm
  have hlen := h.len (k := G.off 3) (by omega)
  have h60 := h.sm.b
  have HS := Lib.hid (spare11_any h 1 (by omega) h0)
  have HP := Lib.hid fun V => padded_nil V
  have H := Lib.hid h
  clear h
  cases hle : Bits.leastL (vw M.cur L (G.off 3)) false (G.b + 1) with
  | none =>
    have hp : pickL (G.b + 1) 1 (vw M.cur L (G.off 3)) = none := pickL_none hle
    have HS2 := Lib.hid (HS.out.mono (R' := fun e w' => e = .returned (.tuple #[.slice none 0 0, .int .i64 4]) ∧ Below W.heap.size W w') (by
      rintro e w' (⟨v, l, hl, -⟩ | ⟨-, h2, h3⟩)
      · rw [hp] at hl; cases hl
      · exact ⟨h2, h3⟩))
    have HE := Lib.hid hle
    clear hle hp HS hoff hlen
    go_enter Tryz.func99, Tryz.ntmps99
    go_wp2_with fail
    refine HS2.out.mono ?_
    rintro e w1 ⟨rfl, hb⟩
    have H1 := Lib.hid (H.out.below hb)
    clear hb
    go_wp2_with fail
    go_ret2
    exact ⟨0, 4, L, rfl, .inl ⟨rfl, rfl, .inl HE.out⟩, H1.out⟩
  | some c =>
    obtain ⟨hcl, hcb, -⟩ := Bits.leastL_some _ _ _ _ hle
    have hc1 : c ≠ 0 := fun e => by rw [e, h0] at hcb; cases hcb
    have hBg : Bg G c := ⟨by omega, by omega⟩
    have hsec := secB_all hBg
    have hsec0 : 1 + G.j ≤ secB G c := by have := Sm.o2 G; have := @secB_off G c; omega
    have hp : pickL (G.b + 1) 1 (vw M.cur L (G.off 3)) = some [c] := by rw [pickL_some hle]; rfl
    have HS2 := Lib.hid (HS.out.mono (R' := fun e w' => ∃ A p, e = .returned (.tuple #[.slice (some A) 1 p, .int .i64 0]) ∧ w'.cell? A = some (w16 c) ∧ Below W.heap.size W w') (by
      rintro e w' (⟨v, l, hl, he, ⟨A, q, hv, hu⟩, hb⟩ | ⟨h1, -, -⟩)
      · rw [hp] at hl
        cases hl
        obtain ⟨a, ha, hx⟩ := hu 0 c rfl
        refine ⟨a, q, by rw [he, hv, ha]; rfl, ?_, hb⟩
        have : a.add 0 = a := by cases a; rename_i x y z; cases z <;> rfl
        rwa [this] at hx
      · rw [hp] at h1; cases h1))
    have hcw : IntKind.i64.wrap (c : Int) = (c : Int) := IntWalk.i64_in _ (by omega)
    have hwb : ∀ V (h1 : ISys w V b jb tb mb rec G M L qs), ImgAt V mb tb G := fun V h1 => h1.at_
    have HC := Lib.hid (fun V (h1 : ImgAt V mb tb G) => whereBlock_ok h1 H.out.sm c hBg)
    have HE := Lib.hid hle
    have H3 := Lib.hid hlen
    have hc512 : c < 512 := by omega
    clear hle hp HS hcb hoff hlen hcl h0
    go_enter Tryz.func99, Tryz.ntmps99
    go_wp2_with fail
    refine HS2.out.mono ?_
    rintro e w1 ⟨A, p, rfl, hx, hb⟩
    have H1 := Lib.hid (H.out.below hb)
    clear hb
    have ht := turn_any H1.out 3 (.inr rfl) c hc512 true
    have hasc := H1.out.asc
    obtain ⟨L1, hL1⟩ : ∃ L1, L1 = wL (capL G.j) L (G.off 3) (Bits.setL (vw M.cur L (G.off 3)) c true) := ⟨_, rfl⟩
    have hlen1 : L1.length ≤ L.length + 1 := by rw [hL1]; exact wL_len hasc _ _
    rcases wE_cases (capL G.j) L (G.off 3) with e0 | ⟨e4, hfull⟩
    · have hv1 : vw M.cur L1 = upd (vw M.cur L) (G.off 3) (Bits.setL (vw M.cur L (G.off 3)) c true) := by rw [hL1]; exact vw_wL e0
      rw [e0, ← hL1] at ht
      have HT := Lib.hid ht
      have HV1 := Lib.hid hv1
      have HLEN := Lib.hid hlen1
      clear ht hasc hL1 hlen1 hv1 e0
      go_wp2_with fail
      refine HT.out.mono ?_
      rintro e w2 ⟨rfl, h2⟩
      have H2 := Lib.hid h2
      clear h2 hx
      go_wp2_with fail
      refine (HC.out _ H2.out.at_).mono ?_
      rintro e w3 ⟨rfl, hb⟩
      have h3 := H2.out.below hb
      obtain ⟨c0, c1, c2, c3⟩ := h3.cells
      have H4 := Lib.hid h3
      clear hb h3
      have hW := fun V (hV : ISys w V b jb tb mb rec G M L1 qs) => hV.write (secB G c) hsec hsec0 z64 rfl
      have HLL := Lib.hid (wL_len (cap := capL G.j) H4.out.asc (secB G c) z64)
      rcases wE_cases (capL G.j) L1 (secB G c) with e0 | ⟨e4, hfull⟩
      · rw [e0] at hW
        have HW := Lib.hid hW
        have HV2 := Lib.hid (vw_wL (f := M.cur) (s := z64) e0)
        clear hW e0
        go_wp2_with fail
        go_region_held3 (fun W' => W'.cell? ⟨mb, 0, none⟩ = some (devp tb))
          (first | exact c0 | go_keep)
          (first | (go_at_call 50; ((with_reducible refine (HP.out _).mono ?_); rintro e w4 ⟨rfl, hb⟩; have H5 := Lib.hid (H4.out.after hb); obtain ⟨c0, -, -, -⟩ := H5.out.cells; clear hb))
                 | (go_at_call 49; ((with_reducible refine (HW.out _ (by first | with_reducible exact H5.out | with_reducible exact H5.out.drew)).mono ?_); rintro e w5 ⟨rfl, hb⟩; have H6 := Lib.hid hb; obtain ⟨c0, -, -, -⟩ := H6.out.cells; clear hb)))
        go_wp2_with fail
        go_ret2
        exact ⟨c, 0, _, rfl, .inr ⟨rfl, HE.out, by rw [HV2.out, HV1.out], by have := HLL.out; have := HLEN.out; omega⟩, H6.out⟩
      · rw [e4] at hW
        have HW := Lib.hid hW
        have HF := Lib.hid hfull
        clear hW e4 hfull
        go_wp2_with fail
        go_region_held3 (fun W' => W'.cell? ⟨mb, 0, none⟩ = some (devp tb))
          (first | exact c0 | go_keep)
          (first | (go_at_call 50; ((with_reducible refine (HP.out _).mono ?_); rintro e w4 ⟨rfl, hb⟩; have H5 := Lib.hid (H4.out.after hb); obtain ⟨c0, -, -, -⟩ := H5.out.cells; clear hb))
                 | (go_at_call 49; ((with_reducible refine (HW.out _ (by first | with_reducible exact H5.out | with_reducible exact H5.out.drew)).mono ?_); rintro e w5 ⟨rfl, hb⟩; have H6 := Lib.hid hb; obtain ⟨c0, -, -, -⟩ := H6.out.cells; clear hb)))
        go_wp2_with fail
        go_ret2
        exact ⟨0, 4, _, rfl, .inl ⟨rfl, rfl, .inr (by have := HF.out; have := HLEN.out; omega)⟩, H6.out⟩
    · rw [e4] at ht
      have HT := Lib.hid ht
      have HF := Lib.hid hfull
      clear ht hasc hL1 hlen1 e4 hfull
      go_wp2_with fail
      refine HT.out.mono ?_
      rintro e w2 ⟨rfl, h2⟩
      go_wp2_with fail
      go_ret2
      exact ⟨0, 4, _, rfl, .inl ⟨rfl, rfl, .inr (by have := HF.out; omega)⟩, h2⟩
end
end Go.Proofs.YtnfiapjdkjbdhaaGreat
