/- Layer 11 (image): a file's bytes beside its pages. -/
import Derived.Test.YtnfiapjdkjbdhaaGreatImg25
import Derived.Lib.LazyBuf
namespace Go.Proofs.YtnfiapjdkjbdhaaGreat
open Go.RowKit Go.Maps Go.Lib
set_option linter.unusedVariables false
set_option linter.unusedSimpArgs false
set_option maxRecDepth 10000
/-! Bytes in places. -/
def chunk (B : List UInt8) (q : Nat) : List UInt8 := (B.drop (64 * q)).take 64
def wipe (B : List UInt8) (n k : Nat) : List UInt8 := B.take n ++ List.replicate (k - n) 0 ++ B.drop k
theorem wipe_length {B : List UInt8} {n k : Nat} (hn : n ≤ k) (hk : k ≤ B.length) : (wipe B n k).length = B.length := by
  unfold wipe
  simp only [List.length_append, List.length_take, List.length_replicate, List.length_drop]
  omega
theorem wipe_get {B : List UInt8} {n k : Nat} (hn : n ≤ k) (hk : k ≤ B.length) (i : Nat) : (wipe B n k)[i]? = if n ≤ i ∧ i < k then some 0 else B[i]? := by
  unfold wipe
  by_cases h1 : i < n
  · rw [if_neg (by omega), List.append_assoc, List.getElem?_append_left (by simp; omega), List.getElem?_take, if_pos h1]
  · by_cases h2 : i < k
    · rw [if_pos ⟨by omega, h2⟩, List.getElem?_append_left (by simp; omega), List.getElem?_append_right (by simp; omega), List.getElem?_replicate, if_pos (by simp; omega)]
    · rw [if_neg (by omega), List.getElem?_append_right (by simp; omega), List.getElem?_drop]
      congr 1
      simp
      omega
theorem wipe_self (B : List UInt8) {n : Nat} (hn : n ≤ B.length) : wipe B n n = B := by
  unfold wipe
  simp
theorem wipe_set {B : List UInt8} {n k : Nat} (hn : n ≤ k) (hk : k < B.length) : (wipe B n k).set k 0 = wipe B n (k + 1) := by
  apply List.ext_getElem?
  intro i
  rw [List.getElem?_set, wipe_get (by omega) (by omega), wipe_get (by omega) (by omega), wipe_length hn (by omega)]
  by_cases e : k = i
  · subst e; rw [if_pos rfl, if_pos hk, if_pos ⟨hn, by omega⟩]
  · rw [if_neg e]
    by_cases h : n ≤ i ∧ i < k
    · rw [if_pos h, if_pos ⟨h.1, by omega⟩]
    · rw [if_neg h, if_neg (by omega)]
theorem chunk_get (B : List UInt8) (q i : Nat) : (chunk B q)[i]? = if i < 64 then B[64 * q + i]? else none := by
  unfold chunk
  rw [List.getElem?_take]
  split
  · rw [List.getElem?_drop]
  · rfl
theorem z64_get (i : Nat) : z64[i]? = if i < 64 then some 0 else none := by
  unfold z64
  rw [List.getElem?_replicate]
theorem padL_get {c : List UInt8} (hc : c.length = 64) {m : Nat} (hm : m ≤ 64) (i : Nat) : (padL (c.take m))[i]? = if i < 64 then (if i < m then c[i]? else some 0) else none := by
  unfold padL
  by_cases h1 : i < m
  · rw [List.getElem?_append_left (by simp; omega), List.getElem?_take, if_pos h1, if_pos (by omega), if_pos h1]
  · rw [List.getElem?_append_right (by simp; omega), List.getElem?_replicate]
    have hl : (c.take m).length = m := by simp; omega
    rw [hl]
    by_cases h2 : i < 64
    · rw [if_pos (by omega), if_pos h2, if_neg h1]
    · rw [if_neg (by omega), if_neg h2]
/-- From size z on there are noughts. -/
def TailZ (B : List UInt8) (z : Nat) : Prop := ∀ i, z ≤ i → i < 2304 → B[i]? = some 0
theorem wipe_tail {B : List UInt8} (hB : B.length = 2304) {z : Nat} (hz : z ≤ 2304) : TailZ (wipe B z 2304) z := fun i h1 h2 => by
  rw [wipe_get hz (by omega), if_pos ⟨h1, h2⟩]
theorem wipe_same {B : List UInt8} (hB : B.length = 2304) {z : Nat} (hz : z ≤ 2304) (ht : TailZ B z) : wipe B z 2304 = B := by
  apply List.ext_getElem?
  intro i
  rw [wipe_get hz (by omega)]
  by_cases h : z ≤ i ∧ i < 2304
  · rw [if_pos h, ht i h.1 h.2]
  · rw [if_neg h]
theorem chunk_length {B : List UInt8} (hB : B.length = 2304) {q : Nat} (hq : q < 36) : (chunk B q).length = 64 := by
  unfold chunk
  rw [List.length_take, List.length_drop]; omega
/-- What a file's bytes become when it is resized. -/
theorem wipe_cut {B : List UInt8} (hB : B.length = 2304) {z n : Nat} (hz : z ≤ 2304) (hn : n ≤ 2304) (ht : TailZ B z) : TailZ (wipe B n (max n z)) n ∧ ∀ q, q < 36 → chunk (wipe B n (max n z)) q = cutDat (chunk B) n q := by
  have hg : ∀ i, i < 2304 → (wipe B n (max n z))[i]? = if n ≤ i then some 0 else B[i]? := fun i hi => by
    rw [wipe_get (by omega) (by omega)]
    by_cases h1 : n ≤ i
    · rw [if_pos h1]
      by_cases h2 : i < max n z
      · rw [if_pos ⟨h1, h2⟩]
      · rw [if_neg (by omega), ht i (by omega) hi]
    · rw [if_neg (by omega), if_neg h1]
  refine ⟨fun i h1 h2 => by rw [hg i h2, if_pos h1], fun q hq => ?_⟩
  apply List.ext_getElem?
  intro i
  rw [chunk_get]
  unfold cutDat
  by_cases hi : i < 64
  · rw [if_pos hi, hg _ (by omega)]
    by_cases h1 : q < pagesN n
    · rw [if_pos h1]
      unfold pagesN at h1
      by_cases h2 : q = n / 64
      · rw [if_pos h2, padL_get (chunk_length hB hq) (by omega), if_pos hi]
        by_cases h3 : i < n % 64
        · rw [if_pos h3, if_neg (by omega), chunk_get, if_pos hi]
        · rw [if_neg h3, if_pos (by omega)]
      · rw [if_neg h2, if_neg (by omega), chunk_get, if_pos hi]
    · rw [if_neg h1, z64_get, if_pos hi]
      unfold pagesN at h1
      rw [if_pos (by omega)]
  · rw [if_neg hi]
    split
    · split
      · rw [padL_get (chunk_length hB hq) (by omega), if_neg hi]
      · rw [chunk_get, if_neg hi]
    · rw [z64_get, if_neg hi]
/-- What they become when a page is set. -/
theorem over_get' {B s : List UInt8} (f i : Nat) (h : f + s.length ≤ B.length) : (over B f s)[i]? = if f ≤ i ∧ i < f + s.length then s[i - f]? else B[i]? := by
  unfold over
  by_cases h1 : i < f
  · rw [if_neg (by omega), List.append_assoc, List.getElem?_append_left (by simp; omega), List.getElem?_take, if_pos h1]
  · by_cases h2 : i < f + s.length
    · rw [if_pos ⟨by omega, h2⟩, List.getElem?_append_left (by simp; omega), List.getElem?_append_right (by simp; omega)]
      congr 1
      simp
      omega
    · rw [if_neg (by omega), List.getElem?_append_right (by simp; omega), List.getElem?_drop]
      congr 1
      simp
      omega
theorem over_len {B s : List UInt8} {f : Nat} (h : f + s.length ≤ B.length) : (over B f s).length = B.length := by
  unfold over
  simp only [List.length_append, List.length_take, List.length_drop]
  omega
theorem wipe_page {B s : List UInt8} (hB : B.length = 2304) (hs : s.length = 64) {z p : Nat} (hz : z ≤ 2304) (hp : p < 36) (hpz : 64 * p < z) (ht : TailZ B z) :
    ∀ q, q < 36 → chunk (wipe (over B (64 * p) s) z 2304) q = if q = p then padL (s.take (min (z - 64 * p) 64)) else chunk B q := fun q hq => by
  have ho := over_len (B := B) (s := s) (f := 64 * p) (by omega)
  apply List.ext_getElem?
  intro i
  rw [chunk_get]
  by_cases hi : i < 64
  · rw [if_pos hi, wipe_get hz (by omega)]
    by_cases h1 : z ≤ 64 * q + i ∧ 64 * q + i < 2304
    · rw [if_pos h1]
      by_cases e : q = p
      · rw [if_pos e, padL_get hs (by omega), if_pos hi, if_neg (by omega)]
      · rw [if_neg e, chunk_get, if_pos hi, ht _ h1.1 h1.2]
    · rw [if_neg h1, over_get' _ _ (by omega)]
      by_cases e : q = p
      · subst e
        rw [if_pos rfl, if_pos ⟨by omega, by omega⟩, padL_get hs (by omega), if_pos hi, if_pos (by omega)]
        congr 1
        omega
      · rw [if_neg e, if_neg (by omega), chunk_get, if_pos hi]
  · rw [if_neg hi]
    split
    · rw [padL_get hs (by omega), if_neg hi]
    · rw [chunk_get, if_neg hi]
/-! The row of bytes as a thing. -/
def RowB (W : World) (p : Nat) (B : List UInt8) : Prop := W.heap[p]? = some (.cells (byteCells B) 5 (0, 0))
def rowBR (p : Nat) (B : List UInt8) : Res := memR (fun k => k = p) (fun W => RowB W p B) fun W W' h hb => (hb p rfl).trans h
theorem RowB.bytes {W : World} {p : Nat} {B : List UInt8} (h : RowB W p B) : Bytes W p B := bytes_made h
theorem RowB.set {W : World} {p : Nat} {B : List UInt8} (h : RowB W p B) (i : Nat) (x : UInt8) : RowB (W.setCell ⟨p, i, none⟩ (.int .u8 (x.toNat : Int))) p (B.set i x) := by
  unfold RowB at h ⊢
  rw [heap_setCell_same W p i _ _ _ h]
  congr 2
  simp [byteCells, List.map_set]
abbrev byteL (s : List UInt8) : List Value := s.map fun x => Value.int .u8 (x.toNat : Int)
theorem RowB.over {W : World} {p : Nat} {B : List UInt8} (h : RowB W p B) (f : Nat) (s : List UInt8) (hs : f + s.length ≤ B.length) : RowB (W.setCells p f (byteL s)) p (Go.Proofs.YtnfiapjdkjbdhaaGreat.over B f s) := by
  unfold RowB at h ⊢
  have h0 : W.heap[p]? = some (.cells (byteL B).toArray 5 (0, 0)) := h
  rw [setCells_heap p _ (byteL s) f (byteL B) W h0 (by simp; exact hs)]
  unfold Go.Proofs.YtnfiapjdkjbdhaaGreat.over
  simp [byteCells, List.map_append, List.map_take, List.map_drop]
section
variable {w W : World} {b jb tb mb rec p : Nat} {G : Gm} {M : Dv} {L : PutL} {qs : List Res} {B : List UInt8}
theorem ISys.rowB (h : ISys w W b jb tb mb rec G M L qs) {i : Nat} (hi : qs[i]? = some (rowBR p B)) : RowB W p B := by
  exact h.tx.sys.mem (i := i + 4) (show (iR b jb tb mb rec G M L qs)[i + 4]? = some (rowBR p B) from hi)
theorem ISys.turnB (h : ISys w W b jb tb mb rec G M L [rowBR p B]) {B' : List UInt8} {W' : World} (ho : Only (fun k => k = p) W W') (hB : RowB W' p B') : ISys w W' b jb tb mb rec G M L [rowBR p B'] :=
  h.with (h.tx.sys.turn11 (i := 4) (p := p) rfl ho (hQ := fun W W' h hb => (hb p rfl).trans h) hB)
theorem ISys.setB (h : ISys w W b jb tb mb rec G M L [rowBR p B]) (i : Nat) (x : UInt8) : ISys w (W.setCell ⟨p, i, none⟩ (.int .u8 (x.toNat : Int))) b jb tb mb rec G M L [rowBR p (B.set i x)] :=
  h.turnB (Only.setCell (fun k => k = p) W ⟨p, i, none⟩ _ rfl) ((h.rowB (i := 0) rfl).set i x)
theorem sys_room11 {t i j : Nat} {rs : List Res} {F n : Nat} (h : TxSys w W rs t i j tb b jb F n rec M L) :
    Calls Tryz.prog 20 #[devp tb] W fun e w' => e = .returned (.int .i64 ((capL n : Int) - (L.length : Int))) ∧ Below W.heap.size W w' := by
  obtain ⟨m, hT, -⟩ := h.on
  refine (txRoom_quiet hT).mono ?_
  rintro e w' ⟨rfl, k, rfl⟩
  exact ⟨rfl, below_drewN (Below.refl _ _) k⟩
end
end Go.Proofs.YtnfiapjdkjbdhaaGreat
