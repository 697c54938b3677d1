/- Layer 10 (dirs): what becomes of a directory; plain mathematics. -/
import Derived.Test.YtmidoghjacmdcaaDirsM2
namespace Go.Proofs.Ytmidoghjacmdcaa
set_option linter.unusedVariables false
set_option linter.unusedSimpArgs false
set_option maxRecDepth 10000
theorem uniq_iff {l : List En} : uniq l ↔ ∀ (i j : Nat) (x y : En), i < j → l[i]? = some x → l[j]? = some y → x.n = y.n → y.n = [] := by
  unfold uniq
  rw [List.pairwise_iff_getElem]
  constructor
  · intro h i j x y hij hx hy e
    obtain ⟨h1, rfl⟩ := List.getElem?_eq_some_iff.1 hx
    obtain ⟨h2, rfl⟩ := List.getElem?_eq_some_iff.1 hy
    exact h i j h1 h2 hij e
  · intro h i j h1 h2 hij e
    exact h i j _ _ hij (List.getElem?_eq_getElem h1) (List.getElem?_eq_getElem h2) e
theorem uniq_ne {l : List En} (h : uniq l) {i j : Nat} {x y : En} (hij : i ≠ j) (hx : l[i]? = some x) (hy : l[j]? = some y) (e : x.n = y.n) : y.n = [] := by
  rcases Nat.lt_or_ge i j with h1 | h1
  · exact uniq_iff.1 h i j x y h1 hx hy e
  · have := uniq_iff.1 h j i y x (by omega) hy hx e.symm
    rw [← e]; exact this
theorem uniq_set {l : List En} (h : uniq l) {k : Nat} {x : En} (hx : ∀ (j : Nat) (y : En), j ≠ k → l[j]? = some y → y.n = x.n → x.n = []) : uniq (l.set k x) := by
  rw [uniq_iff]
  intro i j a b hij ha hb e
  rw [List.getElem?_set] at ha hb
  split at ha
  · rename_i hki
    split at ha
    · cases ha
      split at hb
      · omega
      · rw [← e]
        exact hx j b (by omega) hb e.symm
    · cases ha
  · rename_i hki
    split at hb
    · rename_i hkj
      split at hb
      · cases hb
        exact hx i a (by omega) ha e
      · cases hb
    · exact uniq_iff.1 h i j a b hij ha hb e
theorem look_is {l : List En} (h : uniq l) {n : List UInt8} {k : Nat} {x : En} (hn : n ≠ []) (hk : l[k]? = some x) (hx : x.n = n) : look l n = some k :=
  look_hit hn hk hx fun j y hj hy e => hn (by rw [← hx]; exact uniq_ne h (by omega) hy hk (e.trans hx.symm))
/-- Another slot: other names stay where they are. -/
theorem look_set {l : List En} {k : Nat} {x0 x : En} {m : List UInt8} (hk : l[k]? = some x0) (h0 : x0.n ≠ m) (hx : x.n ≠ m) : look (l.set k x) m = look l m := by
  have hkl := (List.getElem?_eq_some_iff.1 hk).1
  cases h : look l m with
  | some j =>
    obtain ⟨hm, y, hy, hyn, hno⟩ := look_some h
    have hjk : k ≠ j := fun e => by
      subst e
      rw [hk] at hy
      exact h0 (Option.some.inj hy ▸ hyn)
    refine look_hit hm (by rw [List.getElem?_set_ne hjk]; exact hy) hyn fun q z hq hz e => ?_
    rw [List.getElem?_set] at hz
    split at hz
    · cases hz; exact hx e
    · exact hno q z hq hz e
  | none =>
    rcases look_none h with e | e
    · exact look_miss (.inl e)
    · refine look_miss (.inr fun y hy => ?_)
      rcases List.mem_or_eq_of_mem_set hy with h1 | h1
      · exact e y h1
      · rw [h1]; exact hx
theorem fIno_set {l : List En} {k : Nat} {x0 x : En} {m : List UInt8} (hk : l[k]? = some x0) (h0 : x0.n ≠ m) (hx : x.n ≠ m) : fIno (l.set k x) m = fIno l m := by
  have h1 := look_set (x := x) hk h0 hx
  cases h : look l m with
  | some j =>
    obtain ⟨hm, y, hy, hyn, _⟩ := look_some h
    have hjk : k ≠ j := fun e => by
      subst e
      rw [hk] at hy
      exact h0 (Option.some.inj hy ▸ hyn)
    rw [fIno_some h hy, fIno_some (h1.trans h) (by rw [List.getElem?_set_ne hjk]; exact hy)]
  | none => rw [fIno_none h, fIno_none (h1.trans h)]
/-- More slots behind. -/
theorem look_more {l r : List En} {m : List UInt8} (h : ∀ y ∈ r, y.n ≠ m) : look (l ++ r) m = look l m := by
  cases hl : look l m with
  | some j =>
    obtain ⟨hm, y, hy, hyn, hno⟩ := look_some hl
    have hjl := (List.getElem?_eq_some_iff.1 hy).1
    refine look_hit hm (by rw [List.getElem?_append_left hjl]; exact hy) hyn fun q z hq hz => hno q z hq ?_
    rwa [List.getElem?_append_left (by omega)] at hz
  | none =>
    rcases look_none hl with e | e
    · exact look_miss (.inl e)
    · refine look_miss (.inr fun y hy => ?_)
      rcases List.mem_append.1 hy with h1 | h1
      · exact e y h1
      · exact h y h1
theorem fIno_more {l r : List En} {m : List UInt8} (h : ∀ y ∈ r, y.n ≠ m) : fIno (l ++ r) m = fIno l m := by
  have h1 := look_more (l := l) h
  cases hl : look l m with
  | some j =>
    obtain ⟨hm, y, hy, hyn, hno⟩ := look_some hl
    have hjl := (List.getElem?_eq_some_iff.1 hy).1
    rw [fIno_some hl hy, fIno_some (h1.trans hl) (by rw [List.getElem?_append_left hjl]; exact hy)]
  | none => rw [fIno_none hl, fIno_none (h1.trans hl)]
theorem look_nil (l : List En) : look l [] = none := look_miss (.inl rfl)
theorem fIno_nil (l : List En) : fIno l [] = 0 := fIno_none (look_nil l)
/-- Texts. -/
theorem text_take {l : List En} (h : ∀ x ∈ l, x.n.length ≤ 27) (k : Nat) : (text l).take (32 * k) = text (l.take k) := by
  induction l generalizing k with
  | nil => simp [text]
  | cons x r ih =>
    cases k with
    | zero => simp [text]
    | succ k =>
      have hx := slotL_length (h x (by simp))
      rw [text_cons, List.take_succ_cons, text_cons, List.take_append, List.take_of_length_le (by omega), hx, show 32 * (k + 1) - 32 = 32 * k by omega, ih (fun y hy => h y (by simp [hy])) k]
theorem text_drop {l : List En} (h : ∀ x ∈ l, x.n.length ≤ 27) (k : Nat) : (text l).drop (32 * k) = text (l.drop k) := by
  induction l generalizing k with
  | nil => simp [text]
  | cons x r ih =>
    cases k with
    | zero => simp [text]
    | succ k =>
      have hx := slotL_length (h x (by simp))
      rw [text_cons, List.drop_succ_cons, List.drop_append, List.drop_of_length_le (by omega), hx, show 32 * (k + 1) - 32 = 32 * k by omega, ih (fun y hy => h y (by simp [hy])) k, List.nil_append]
theorem text_chg {l : List En} (h : ∀ x ∈ l, x.n.length ≤ 27) {k : Nat} (hk : k < l.length) (x : En) : chg (text l) k (slotL x) = text (l.set k x) := by
  unfold chg
  rw [show 32 * k + 32 = 32 * (k + 1) by omega, text_take h, text_drop h, List.set_eq_take_append_cons_drop, if_pos hk, text_append, text_cons, List.append_assoc]
theorem Dir.len27 {l : List En} (h : Dir l) : ∀ x ∈ l, x.n.length ≤ 27 := fun x hx => (h.ok x hx).len
/-- An entry more, or otherwise, in a slot. -/
theorem Dir.set {l : List En} (h : Dir l) {k : Nat} {x0 x : En} (hk : l[k]? = some x0) (hx : okE x) (hu : ∀ (j : Nat) (y : En), j ≠ k → l[j]? = some y → y.n = x.n → x.n = []) : Dir (l.set k x) := by
  refine ⟨by rw [List.length_set]; exact h.even, by rw [List.length_set]; exact h.le, fun y hy => ?_, uniq_set h.uniq hu⟩
  rcases List.mem_or_eq_of_mem_set hy with h1 | h1
  · exact h.ok y h1
  · rw [h1]; exact hx
theorem Dir.more {l : List En} (h : Dir l) (hl : l.length < 72) {x : En} (hx : okE x) (hu : look l x.n = none) : Dir (l ++ [x, En.free]) := by
  have he := h.even
  refine ⟨by simp; omega, by simp; omega, fun y hy => ?_, ?_⟩
  · rcases List.mem_append.1 hy with h1 | h1
    · exact h.ok y h1
    · simp at h1
      rcases h1 with rfl | rfl
      · exact hx
      · exact okE_free
  · unfold Go.Proofs.Ytmidoghjacmdcaa.uniq
    rw [List.pairwise_append]
    refine ⟨h.uniq, ?_, ?_⟩
    · simp [En.free]
    · intro a ha b hb e
      simp at hb
      rcases hb with rfl | rfl
      · rcases look_none hu with h1 | h1
        · exact h1
        · exact absurd e (h1 a ha)
      · rfl
theorem Dir.take {l : List En} (h : Dir l) (m : Nat) : Dir (l.take (2 * m)) := by
  have he := h.even
  have hl := h.le
  refine ⟨by rw [List.length_take]; omega, by rw [List.length_take]; omega, fun y hy => h.ok y (List.mem_of_mem_take hy), List.Pairwise.sublist (List.take_sublist _ _) h.uniq⟩
theorem cnt_set {l : List En} {k : Nat} {x0 x : En} (hk : l[k]? = some x0) : ((l.set k x).filter fun x => x != En.free).length + (if x0 = En.free then 0 else 1) = (l.filter fun x => x != En.free).length + (if x = En.free then 0 else 1) := by
  induction l generalizing k with
  | nil => simp at hk
  | cons y r ih =>
    cases k with
    | zero =>
      simp at hk; subst hk
      by_cases h1 : y = En.free <;> by_cases h2 : x = En.free <;> simp [List.filter_cons, h1, h2]
    | succ k =>
      have := ih (k := k) (by simpa using hk)
      rw [List.set_cons_succ, List.filter_cons, List.filter_cons]
      by_cases h1 : y = En.free
      · simpa [h1] using this
      · simp [h1]; omega
theorem lst_text {l : List En} (h : Dir l) : lst (text l) = l.filter fun x => x != En.free := by unfold lst; rw [h.ents]
theorem may_ok {x : En} (h : mayB x = true) (hi : x.i < 4294967296) : okE x := .inr ⟨h, hi⟩
/-- What becomes of a directory by a step that names m: others stay; m has i (0: it is none's). -/
structure Next (s t m : List UInt8) (i : Nat) : Prop where
  good : chk t = 0
  same : ∀ n, n ≠ m → look (ents t) n = look (ents s) n ∧ fIno (ents t) n = fIno (ents s) n
  has : fIno (ents t) m = i
  ne : m ≠ []
theorem add_next {s : List UInt8} {x : En} (h : chk s = 0) (hi : x.i < 4294967296) (h0 : addE s x = 0) : Next s (addT s x) x.n x.i ∧ (lst (addT s x)).length = (lst s).length + 1 ∧ x.i ≠ 0 := by
  obtain ⟨hd, hs⟩ := chk_dir h
  have hm : mayB x = true := by
    cases hm : mayB x with
    | true => rfl
    | false => rw [(add_arg h hm).1] at h0; cases h0
  have hx := may_ok hm hi
  have hne := (mayB_len hm)
  have hxn : x.n ≠ [] := fun e => by rw [e] at hne; simp at hne
  have hxf : x ≠ En.free := fun e => by rw [e] at hxn; exact hxn rfl
  cases hl : look (ents s) x.n with
  | some k => rw [(add_have h hm hl).1] at h0; cases h0
  | none =>
    have hno : ∀ y ∈ ents s, y.n ≠ x.n := (look_none hl).resolve_left hxn
    cases hg : gap (ents s) with
    | some k =>
      have ht := (add_gap h hm hl hg).2
      have hk := (gap_some hg).1
      have hd2 := hd.set hk hx (fun j y _ hy e => absurd e (hno y (List.mem_of_getElem? hy)))
      have htt : addT s x = text ((ents s).set k x) := by
        rw [ht]
        conv => lhs; rw [hs]
        rw [text_chg hd.len27 (gap_lt hg)]
      have he : ents (addT s x) = (ents s).set k x := by rw [htt]; exact hd2.ents
      refine ⟨⟨by rw [htt]; exact hd2.chk, fun n hn => ?_, ?_, hxn⟩, ?_, hne.1⟩
      · rw [he]
        by_cases hnn : n = []
        · rw [hnn, look_nil, look_nil, fIno_nil, fIno_nil]; exact ⟨rfl, rfl⟩
        · exact ⟨look_set hk (fun e => hnn e.symm) (fun e => hn e.symm), fIno_set hk (fun e => hnn e.symm) (fun e => hn e.symm)⟩
      · have hkx : ((ents s).set k x)[k]? = some x := by rw [List.getElem?_set_self (gap_lt hg)]
        rw [he, fIno_some (look_is hd2.uniq hxn hkx rfl) hkx]
      · have h1 := cnt_set (x := x) hk
        rw [if_pos rfl, if_neg hxf] at h1
        unfold lst
        rw [he]; exact h1
    | none =>
      by_cases h72 : (ents s).length < 72
      · have ht := (add_more h hm hl hg h72).2
        have hd2 := hd.more h72 hx hl
        have htt : addT s x = text (ents s ++ [x, En.free]) := by
          rw [ht, text_append]
          conv => lhs; rw [hs]
          simp [text, slotL_free]
        have he : ents (addT s x) = ents s ++ [x, En.free] := by rw [htt]; exact hd2.ents
        refine ⟨⟨by rw [htt]; exact hd2.chk, fun n hn => ?_, ?_, hxn⟩, ?_, hne.1⟩
        · rw [he]
          by_cases hnn : n = []
          · rw [hnn, look_nil, look_nil, fIno_nil, fIno_nil]; exact ⟨rfl, rfl⟩
          · have : ∀ y ∈ [x, En.free], y.n ≠ n := by
              intro y hy
              simp at hy
              rcases hy with rfl | rfl
              · exact fun e => hn e.symm
              · exact fun e => hnn e.symm
            exact ⟨look_more this, fIno_more this⟩
        · have hkx : (ents s ++ [x, En.free])[(ents s).length]? = some x := by simp
          rw [he, fIno_some (look_is hd2.uniq hxn hkx rfl) hkx]
        · unfold lst
          rw [he, List.filter_append, List.length_append]
          congr 1
          simp [List.filter_cons, hxf]
      · rw [(add_full h hm hl hg (by omega)).1] at h0; cases h0
theorem set_next {s : List UInt8} {x : En} (h : chk s = 0) (hi : x.i < 4294967296) (h0 : setE s x = 0) : Next s (setT s x) x.n x.i ∧ (lst (setT s x)).length = (lst s).length ∧ x.i ≠ 0 := by
  obtain ⟨hd, hs⟩ := chk_dir h
  by_cases hi0 : x.i = 0
  · rw [(set_arg h hi0).1] at h0; cases h0
  · cases hl : look (ents s) x.n with
    | none => rw [(set_none h hi0 hl).1] at h0; cases h0
    | some k =>
      have ht := (set_some h hi0 hl).2
      obtain ⟨hxn, x0, hk, hx0, -⟩ := look_some hl
      have hx0f : x0 ≠ En.free := fun e => by rw [e] at hx0; exact hxn hx0.symm
      have hxf : x ≠ En.free := fun e => by rw [e] at hi0; exact hi0 rfl
      have hx : okE x := by
        rcases hd.ok x0 (List.mem_of_getElem? hk) with e | ⟨e, _⟩
        · exact absurd e hx0f
        · refine may_ok ?_ hi
          simp only [mayB, Bool.and_eq_true, bne_iff_ne] at e ⊢
          exact ⟨hi0, by rw [← hx0]; exact e.2⟩
      have hd2 := hd.set hk hx (fun j y hj hy e => by
        rw [← hx0]
        exact uniq_ne hd.uniq hj hy hk (e.trans hx0.symm))
      have htt : setT s x = text ((ents s).set k x) := by
        rw [ht]
        conv => lhs; rw [hs]
        rw [text_chg hd.len27 (look_lt hl)]
      have he : ents (setT s x) = (ents s).set k x := by rw [htt]; exact hd2.ents
      refine ⟨⟨by rw [htt]; exact hd2.chk, fun n hn => ?_, ?_, hxn⟩, ?_, hi0⟩
      · rw [he]
        exact ⟨look_set hk (by rw [hx0]; exact fun e => hn e.symm) (fun e => hn e.symm), fIno_set hk (by rw [hx0]; exact fun e => hn e.symm) (fun e => hn e.symm)⟩
      · have hkx : ((ents s).set k x)[k]? = some x := by rw [List.getElem?_set_self (look_lt hl)]
        rw [he, fIno_some (look_is hd2.uniq hxn hkx rfl) hkx]
      · have h1 := cnt_set (x := x) hk
        rw [if_neg hx0f, if_neg hxf] at h1
        unfold lst
        rw [he]; omega
theorem del_next {s n : List UInt8} (h : chk s = 0) (h0 : delE s n = 0) : Next s (delT s n) n 0 ∧ (lst (delT s n)).length + 1 = (lst s).length ∧ delI s n = fIno (ents s) n := by
  obtain ⟨hd, hs⟩ := chk_dir h
  cases hl : look (ents s) n with
  | none => rw [(del_none h hl).1] at h0; cases h0
  | some k =>
    obtain ⟨hxn, x0, hk, hx0, -⟩ := look_some hl
    have ht := (del_some h hl hk).2
    have hx0f : x0 ≠ En.free := fun e => by rw [e] at hx0; exact hxn hx0.symm
    have hd2 := hd.set (x := En.free) hk okE_free (fun j y _ _ _ => rfl)
    have htt : delT s n = text ((ents s).set k En.free) := by
      rw [ht.1]
      conv => lhs; rw [hs]
      rw [← slotL_free, text_chg hd.len27 (look_lt hl)]
    have he : ents (delT s n) = (ents s).set k En.free := by rw [htt]; exact hd2.ents
    refine ⟨⟨by rw [htt]; exact hd2.chk, fun m hm => ?_, ?_, hxn⟩, ?_, by rw [ht.2, fIno_some hl hk]⟩
    · rw [he]
      by_cases hnn : m = []
      · rw [hnn, look_nil, look_nil, fIno_nil, fIno_nil]; exact ⟨rfl, rfl⟩
      · exact ⟨look_set hk (by rw [hx0]; exact fun e => hm e.symm) (fun e => hnn e.symm), fIno_set hk (by rw [hx0]; exact fun e => hm e.symm) (fun e => hnn e.symm)⟩
    · rw [he]
      refine fIno_none (look_miss (.inr fun y hy => ?_))
      obtain ⟨j, hj⟩ := List.getElem?_of_mem hy
      rw [List.getElem?_set] at hj
      split at hj
      · split at hj
        · cases hj; exact fun e => hxn e.symm
        · cases hj
      · rename_i hkj
        intro e
        have := uniq_ne hd.uniq (i := k) (j := j) hkj hk hj (hx0.trans e.symm)
        rw [e] at this; exact hxn this
    · have h1 := cnt_set (x := En.free) hk
      rw [if_neg hx0f, if_pos rfl] at h1
      unfold lst
      rw [he]; omega
theorem text_zero {l : List En} (h : ∀ x ∈ l, okE x) (hz : ∀ b ∈ text l, b = 0) : ∀ y ∈ l, y = En.free := by
  intro y hy
  have h1 : slotL y = freeL := by
    apply List.ext_getElem
    · rw [slotL_length (h y hy).len, freeL_length]
    · intro i h1 h2
      have h3 : (slotL y)[i] ∈ text l := by
        unfold text
        exact List.mem_flatten.2 ⟨slotL y, List.mem_map.2 ⟨y, hy, rfl⟩, List.getElem_mem _⟩
      rw [hz _ h3]
      have h6 : freeL[i] ∈ List.replicate 32 (0 : UInt8) := List.getElem_mem h2
      exact ((List.mem_replicate.1 h6).2).symm
  have h2 := (h y hy).get
  rw [h1, getE_free] at h2
  exact h2.symm
theorem trim_next {s : List UInt8} (h : chk s = 0) : chk (trimT s) = 0 ∧ (∀ n, look (ents (trimT s)) n = look (ents s) n ∧ fIno (ents (trimT s)) n = fIno (ents s) n) ∧ (lst (trimT s)).length = (lst s).length := by
  obtain ⟨hd, hs⟩ := chk_dir h
  obtain ⟨M, hM⟩ : ∃ M, M = ((bareL s).length + 63) / 64 := ⟨_, rfl⟩
  have htt : trimT s = text ((ents s).take (2 * M)) := by
    rw [trim_ok h, ← hM, show 64 * M = 32 * (2 * M) by omega]
    conv => lhs; rw [hs]
    rw [text_take hd.len27]
  have hd2 := hd.take M
  have he : ents (trimT s) = (ents s).take (2 * M) := by rw [htt]; exact hd2.ents
  have hz : ∀ y ∈ (ents s).drop (2 * M), y = En.free := by
    refine text_zero (fun x hx => hd.ok x (List.mem_of_mem_drop hx)) ?_
    rw [← text_drop hd.len27, ← hs, show 32 * (2 * M) = 64 * M by omega]
    obtain ⟨h1, h2⟩ := bareL_back s
    generalize bareL s = b at h1 h2 hM
    intro z hz
    rw [← h2, List.drop_append, List.drop_of_length_le (by omega), List.nil_append] at hz
    exact (List.mem_replicate.1 (List.mem_of_mem_drop hz)).2
  refine ⟨by rw [htt]; exact hd2.chk, fun n => ?_, ?_⟩
  · rw [he]
    conv => rhs; rw [← List.take_append_drop (2 * M) (ents s)]
    conv => lhs; rw [← List.take_append_drop (2 * M) (ents s)]
    by_cases hn : n = []
    · rw [hn, look_nil, look_nil, fIno_nil, fIno_nil]; exact ⟨rfl, rfl⟩
    · have h4 : ∀ y ∈ (ents s).drop (2 * M), y.n ≠ n := fun y hy e => by rw [hz y hy] at e; exact hn e.symm
      rw [look_more h4, fIno_more h4]
      simp
  · unfold lst
    rw [he]
    conv => rhs; rw [← List.take_append_drop (2 * M) (ents s)]
    rw [List.filter_append, List.length_append]
    have h5 : ((ents s).drop (2 * M)).filter (fun x => x != En.free) = [] := by
      rw [List.filter_eq_nil_iff]
      intro y hy
      rw [hz y hy]; simp
    rw [h5]; rfl
/-- Whether a name is there is told by its number. -/
theorem fIs_ino {s : List UInt8} (n : List UInt8) : fIs (ents s) n = decide (fIno (ents s) n ≠ 0) := by
  cases h : look (ents s) n with
  | none => rw [fIs_none h, fIno_none h]; rfl
  | some k =>
    obtain ⟨hn, x, hx, hxn, -⟩ := look_some h
    have hok := ents_ok s x (List.mem_of_getElem? hx)
    have hxi : x.i ≠ 0 := fun e => by
      rw [hok.ino_zero.1 e] at hxn
      exact hn hxn.symm
    rw [fIs_some h, fIno_some h hx]
    simp [hxi]
theorem ino_lt (s n : List UInt8) : fIno (ents s) n < 4294967296 := by
  cases h : look (ents s) n with
  | none => rw [fIno_none h]; decide
  | some k =>
    obtain ⟨hn, x, hx, hxn, -⟩ := look_some h
    rw [fIno_some h hx]
    exact (ents_ok s x (List.mem_of_getElem? hx)).lt
theorem dir_nil : chk [] = 0 ∧ lst [] = [] ∧ ents [] = [] := by decide +kernel
theorem add_err {s : List UInt8} {x : En} (h : addE s x ≠ 0) : addT s x = [] := by unfold addT; rw [if_pos h]
theorem set_err {s : List UInt8} {x : En} (h : setE s x ≠ 0) : setT s x = [] := by unfold setT; rw [if_pos h]
theorem del_err {s n : List UInt8} (h : delE s n ≠ 0) : delT s n = [] := by unfold delT; rw [if_pos h]
end Go.Proofs.Ytmidoghjacmdcaa
