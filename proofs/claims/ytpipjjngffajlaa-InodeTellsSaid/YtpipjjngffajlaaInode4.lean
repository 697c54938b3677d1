/- Layer 7 (inode): numbers put one behind the other; blocks that list others. -/
import Derived.Test.YtpipjjngffajlaaInode3
import Derived.Test.YtpipjjngffajlaaOctet7
namespace Go.Proofs.Ytpipjjngffajlaa
open Go.RowKit
set_option linter.unusedVariables false
set_option linter.unusedSimpArgs false
set_option maxRecDepth 10000
/-- The slice v is the numbers l, of the kind q. -/
def NumS (q : IntKind) (w : World) (v : Value) (l : List Nat) : Prop :=
  ∃ A c, v = .slice A l.length c ∧ ∀ (j n : Nat), l[j]? = some n → ∃ a : Addr, A = some a ∧ w.cell? (a.add j) = some (.int q (n : Int))
theorem U16s.nums {w : World} {v : Value} {l : List Nat} (h : U16s w v l) : NumS .u16 w v l := h
theorem NumS.below {q : IntKind} {w w' : World} {v : Value} {l : List Nat} (h : NumS q w v l) (hb : Below w.heap.size w w') : NumS q w' v l := by
  obtain ⟨A, c, hv, hc⟩ := h
  refine ⟨A, c, hv, fun j n hj => ?_⟩
  obtain ⟨a, hA, hcell⟩ := hc j n hj
  exact ⟨a, hA, (hb.cell (World.block_lt_of_cell? w _ hcell)).trans hcell⟩
theorem nums_row {q : IntKind} {w : World} {g n c : Nat} {l : List Nat} {t : TypeId} {cs : Array Value} {fr : Nat × Nat} (hg : w.heap[g]? = some (.cells cs t fr)) (hl : l.length = n) (hc : ∀ j m : Nat, l[j]? = some m → cs[j]? = some (.int q (m : Int))) : NumS q w (.slice (some ⟨g, 0, none⟩) n c) l := by
  subst hl
  refine ⟨some ⟨g, 0, none⟩, c, rfl, fun j m hj => ⟨_, rfl, ?_⟩⟩
  have h := cell_of_row w g j cs t fr hg
  have e : (⟨g, 0, none⟩ : Addr).add j = ⟨g, j, none⟩ := by unfold Addr.add; split <;> simp_all
  rw [e, h, hc j m hj]
/-- The numbers as n bytes each. -/
def catN (n : Nat) (l : List Nat) : List UInt8 := (l.map (leB n)).flatten
theorem catN_two (l : List Nat) : catN 2 l = catL l := rfl
theorem catN_length (n : Nat) (l : List Nat) : (catN n l).length = n * l.length := by
  induction l with
  | nil => rfl
  | cons a l ih => simp only [catN, List.map_cons, List.flatten_cons, List.length_append, leB_length, List.length_cons] at ih ⊢; rw [ih, Nat.mul_succ]; omega
theorem catN_take (n : Nat) (l : List Nat) (k : Nat) (h : k < l.length) : catN n (l.take (k + 1)) = catN n (l.take k) ++ leB n l[k] := by
  simp only [catN]
  rw [List.take_succ_eq_append_getElem h, List.map_append, List.flatten_append]
  simp
set_option maxHeartbeats 1000000 in
theorem putu8_any (l : List Nat) (v : Value) (w : World) (hv : NumS .u8 w v l) (hlt : ∀ x ∈ l, x < 256 ^ 1) (hlen : l.length ≤ 1000) :
    Calls Try.prog 23 #[.int .i64 1, v] w fun e w' => e = .returned (str (catN 1 l)) ∧ Below w.heap.size w w' := by
  obtain ⟨A, c, rfl, hc⟩ := hv
  have Hc := Lib.hid hc
  clear hc
  go_enter Try.func23, Try.ntmps23
  go_wp2_with fail
  go_loopw [5, 12] (fun s i wr => ∃ k : Nat, k ≤ l.length ∧ i = .int .i64 k ∧ s = str (catN 1 (l.take k)) ∧ Below w.heap.size w wr) (fun _ i _ => l.length - (nOf i).toNat)
  case atStart => exact ⟨0, Nat.zero_le _, rfl, by simp [catN], Below.refl _ _⟩
  case round =>
    obtain ⟨k, hk, rfl, rfl, hb⟩ := hrel
    by_cases hlt2 : k < l.length
    · obtain ⟨b, hbe⟩ : ∃ b, b = l[k] := ⟨_, rfl⟩
      have hb16 : b < 256 ^ 1 := by rw [hbe]; exact hlt _ (List.getElem_mem _)
      obtain ⟨a, rfl, hcell⟩ := Hc.out k b (by rw [hbe]; simp [hlt2])
      have hcell1 : wr.cell? (a.add k) = some (.int .u8 (b : Int)) := (hb.cell (World.block_lt_of_cell? w _ hcell)).trans hcell
      have htk := catN_take 1 l k hlt2
      rw [← hbe] at htk
      have Htk := Lib.hid htk
      have hl1 : (catN 1 (l.take k)).length ≤ 8000 := by rw [catN_length, List.length_take]; omega
      clear htk hcell hbe
      generalize catN 1 (l.take k) = t at *
      have hl2 : (leB 1 b).length = 1 := leB_length _ _
      have HN := Lib.hid fun W => num_yes (b : Int) 1 b 1 W rfl rfl (by omega) (by omega) hb16
      go_wp2_with fail
      refine (HN.out _).mono ?_
      rintro e w1 ⟨rfl, hb1⟩
      go_wp2
      go_roundw
      case rel => exact ⟨k + 1, by omega, by go_num, by rw [Htk.out], chain hb hb1⟩
      case measure => simp [nOf]; omega
    · have : k = l.length := by omega
      subst this
      rw [List.take_length]
      go_wp2
      go_ret
      exact ⟨rfl, hb⟩
set_option maxHeartbeats 1000000 in
theorem putu16_any (l : List Nat) (v : Value) (w : World) (hv : NumS .u16 w v l) (hlt : ∀ x ∈ l, x < 256 ^ 2) (hlen : l.length ≤ 1000) :
    Calls Try.prog 24 #[.int .i64 2, v] w fun e w' => e = .returned (str (catN 2 l)) ∧ Below w.heap.size w w' := by
  obtain ⟨A, c, rfl, hc⟩ := hv
  have Hc := Lib.hid hc
  clear hc
  go_enter Try.func24, Try.ntmps24
  go_wp2_with fail
  go_loopw [5, 12] (fun s i wr => ∃ k : Nat, k ≤ l.length ∧ i = .int .i64 k ∧ s = str (catN 2 (l.take k)) ∧ Below w.heap.size w wr) (fun _ i _ => l.length - (nOf i).toNat)
  case atStart => exact ⟨0, Nat.zero_le _, rfl, by simp [catN], Below.refl _ _⟩
  case round =>
    obtain ⟨k, hk, rfl, rfl, hb⟩ := hrel
    by_cases hlt2 : k < l.length
    · obtain ⟨b, hbe⟩ : ∃ b, b = l[k] := ⟨_, rfl⟩
      have hb16 : b < 256 ^ 2 := by rw [hbe]; exact hlt _ (List.getElem_mem _)
      obtain ⟨a, rfl, hcell⟩ := Hc.out k b (by rw [hbe]; simp [hlt2])
      have hcell1 : wr.cell? (a.add k) = some (.int .u16 (b : Int)) := (hb.cell (World.block_lt_of_cell? w _ hcell)).trans hcell
      have htk := catN_take 2 l k hlt2
      rw [← hbe] at htk
      have Htk := Lib.hid htk
      have hl1 : (catN 2 (l.take k)).length ≤ 8000 := by rw [catN_length, List.length_take]; omega
      clear htk hcell hbe
      generalize catN 2 (l.take k) = t at *
      have hl2 : (leB 2 b).length = 2 := leB_length _ _
      have HN := Lib.hid fun W => num_yes (b : Int) 2 b 2 W rfl rfl (by omega) (by omega) hb16
      go_wp2_with fail
      refine (HN.out _).mono ?_
      rintro e w1 ⟨rfl, hb1⟩
      go_wp2
      go_roundw
      case rel => exact ⟨k + 1, by omega, by go_num, by rw [Htk.out], chain hb hb1⟩
      case measure => simp [nOf]; omega
    · have : k = l.length := by omega
      subst this
      rw [List.take_length]
      go_wp2
      go_ret
      exact ⟨rfl, hb⟩
set_option maxHeartbeats 1000000 in
theorem putu32_any (l : List Nat) (v : Value) (w : World) (hv : NumS .u32 w v l) (hlt : ∀ x ∈ l, x < 256 ^ 4) (hlen : l.length ≤ 1000) :
    Calls Try.prog 25 #[.int .i64 4, v] w fun e w' => e = .returned (str (catN 4 l)) ∧ Below w.heap.size w w' := by
  obtain ⟨A, c, rfl, hc⟩ := hv
  have Hc := Lib.hid hc
  clear hc
  go_enter Try.func25, Try.ntmps25
  go_wp2_with fail
  go_loopw [5, 12] (fun s i wr => ∃ k : Nat, k ≤ l.length ∧ i = .int .i64 k ∧ s = str (catN 4 (l.take k)) ∧ Below w.heap.size w wr) (fun _ i _ => l.length - (nOf i).toNat)
  case atStart => exact ⟨0, Nat.zero_le _, rfl, by simp [catN], Below.refl _ _⟩
  case round =>
    obtain ⟨k, hk, rfl, rfl, hb⟩ := hrel
    by_cases hlt2 : k < l.length
    · obtain ⟨b, hbe⟩ : ∃ b, b = l[k] := ⟨_, rfl⟩
      have hb16 : b < 256 ^ 4 := by rw [hbe]; exact hlt _ (List.getElem_mem _)
      obtain ⟨a, rfl, hcell⟩ := Hc.out k b (by rw [hbe]; simp [hlt2])
      have hcell1 : wr.cell? (a.add k) = some (.int .u32 (b : Int)) := (hb.cell (World.block_lt_of_cell? w _ hcell)).trans hcell
      have htk := catN_take 4 l k hlt2
      rw [← hbe] at htk
      have Htk := Lib.hid htk
      have hl1 : (catN 4 (l.take k)).length ≤ 8000 := by rw [catN_length, List.length_take]; omega
      clear htk hcell hbe
      generalize catN 4 (l.take k) = t at *
      have hl2 : (leB 4 b).length = 4 := leB_length _ _
      have HN := Lib.hid fun W => num_yes (b : Int) 4 b 4 W rfl rfl (by omega) (by omega) hb16
      go_wp2_with fail
      refine (HN.out _).mono ?_
      rintro e w1 ⟨rfl, hb1⟩
      go_wp2
      go_roundw
      case rel => exact ⟨k + 1, by omega, by go_num, by rw [Htk.out], chain hb hb1⟩
      case measure => simp [nOf]; omega
    · have : k = l.length := by omega
      subst this
      rw [List.take_length]
      go_wp2
      go_ret
      exact ⟨rfl, hb⟩
end Go.Proofs.Ytpipjjngffajlaa
