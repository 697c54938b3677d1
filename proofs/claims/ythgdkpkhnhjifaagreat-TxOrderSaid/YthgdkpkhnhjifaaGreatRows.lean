/-
  No cell of these rows narrows 'for every input' (looked for: loops, veiled, ifaces, maps, wideKeys, modest, calm, conditions, laid).
  DERIVED. THE GIVEN ROWS OF THIS SEAT. 4 by the template 'for every input the law returns true; each argument reads behind the call as it read before'; 0 by the template 'total and deterministic' (their statements: YthgdkpkhnhjifaaGreatTotals.lean).
  GIVEN WITH THE SEED: the statements are not yours to turn. If you find one false, say at which input.
  Laid BY PROGRAM, IN A SANDBOX (cutbox-rows.mjs): the forced cells as the released guide's own fill.sh prints them over the translation 1e915d17ef40e8fb… (all of the seat's roots in one cut). By AI agents, Wed Nov 11 2026. No macro, syntax, notation, axiom, sorry.
-/
import Derived.Test.YthgdkpkhnhjifaaGreatChecked
import GoSem.Claim
import GoSem.ClaimJoined
import GoSem.ClaimMapViews
import Derived.JoinedTies
import Derived.KernelRfl
namespace Go.Proofs.YthgdkpkhnhjifaaGreat
/- THE CELL 'sum', in the pinned program and in every row, IS THE sha256 OF THE DUMP (.gsa) THAT YthgdkpkhnhjifaaGreatProg.lean LOADS. Nothing in Lean hashes anything: it is a label: what it is worth is what the hold of that sum in a sandbox is worth. -/
noncomputable def Tryz.pinned : Pinned := { name := "ythgdkpkhnhjifaagreat", sum := "1e915d17ef40e8fbb28aa671ea744de8071a1d3dffd89d79343485830b6b618f", checked := Tryz.checked }
namespace Rows
def none {H : Type} : Left H := { results := [], args := [] }

/-- 'lunettelaw08.TxPlays': WHATEVER THE INPUT: true; the input reads as it did. -/
def txPlaysSpec : ChangeSpec := { name := "txPlays", fn := fun _ => fun
  | [d1, d2] => { results := [.lit (.bool true)], args := [d1, d2] }
  | _ => none }
def txPlaysRow : OpenClaim := { program := "ythgdkpkhnhjifaagreat", sum := "1e915d17ef40e8fbb28aa671ea744de8071a1d3dffd89d79343485830b6b618f", func := "lunette/lunettelaw08.TxPlays", spec := "txPlays", inPlace := ["internal/abi.NoEscape", "internal/bytealg.MakeNoZero"], unfollowed := true, recurses := true, apart := false }
def TxPlaysSaid : Prop := txPlaysRow.holds Tryz.pinned (OpenSpec.ofChange txPlaysSpec)

/-- ITS FALSE NEIGHBOUR: 'it returns false'. Refute it at one input. -/
def txPlaysWrong : ChangeSpec := { name := "txPlays", fn := fun _ => fun
  | [d1, d2] => { results := [.lit (.bool false)], args := [d1, d2] }
  | _ => none }
def TxPlaysWrongFalsely : Prop := txPlaysRow.holds Tryz.pinned (OpenSpec.ofChange txPlaysWrong)

/-- 'lunettelaw08.TxAtomic': WHATEVER THE INPUT: true; the input reads as it did. -/
def txAtomicSpec : ChangeSpec := { name := "txAtomic", fn := fun _ => fun
  | [d1, d2, d3] => { results := [.lit (.bool true)], args := [d1, d2, d3] }
  | _ => none }
def txAtomicRow : OpenClaim := { program := "ythgdkpkhnhjifaagreat", sum := "1e915d17ef40e8fbb28aa671ea744de8071a1d3dffd89d79343485830b6b618f", func := "lunette/lunettelaw08.TxAtomic", spec := "txAtomic", inPlace := ["internal/abi.NoEscape", "internal/bytealg.MakeNoZero"], unfollowed := true, recurses := true, apart := false }
def TxAtomicSaid : Prop := txAtomicRow.holds Tryz.pinned (OpenSpec.ofChange txAtomicSpec)

/-- ITS FALSE NEIGHBOUR: 'it returns false'. Refute it at one input. -/
def txAtomicWrong : ChangeSpec := { name := "txAtomic", fn := fun _ => fun
  | [d1, d2, d3] => { results := [.lit (.bool false)], args := [d1, d2, d3] }
  | _ => none }
def TxAtomicWrongFalsely : Prop := txAtomicRow.holds Tryz.pinned (OpenSpec.ofChange txAtomicWrong)

/-- 'lunettelaw08.TxRoom': WHATEVER THE INPUT: true; the input reads as it did. -/
def txRoomSpec : ChangeSpec := { name := "txRoom", fn := fun _ => fun
  | [d] => { results := [.lit (.bool true)], args := [d] }
  | _ => none }
def txRoomRow : OpenClaim := { program := "ythgdkpkhnhjifaagreat", sum := "1e915d17ef40e8fbb28aa671ea744de8071a1d3dffd89d79343485830b6b618f", func := "lunette/lunettelaw08.TxRoom", spec := "txRoom", inPlace := ["internal/abi.NoEscape", "internal/bytealg.MakeNoZero"], unfollowed := true, recurses := true, apart := false }
def TxRoomSaid : Prop := txRoomRow.holds Tryz.pinned (OpenSpec.ofChange txRoomSpec)

/-- ITS FALSE NEIGHBOUR: 'it returns false'. Refute it at one input. -/
def txRoomWrong : ChangeSpec := { name := "txRoom", fn := fun _ => fun
  | [d] => { results := [.lit (.bool false)], args := [d] }
  | _ => none }
def TxRoomWrongFalsely : Prop := txRoomRow.holds Tryz.pinned (OpenSpec.ofChange txRoomWrong)

/-- 'lunettelaw08.TxOrder': WHATEVER THE INPUT: true; the input reads as it did. -/
def txOrderSpec : ChangeSpec := { name := "txOrder", fn := fun _ => fun
  | [d] => { results := [.lit (.bool true)], args := [d] }
  | _ => none }
def txOrderRow : OpenClaim := { program := "ythgdkpkhnhjifaagreat", sum := "1e915d17ef40e8fbb28aa671ea744de8071a1d3dffd89d79343485830b6b618f", func := "lunette/lunettelaw08.TxOrder", spec := "txOrder", inPlace := ["internal/abi.NoEscape", "internal/bytealg.MakeNoZero"], unfollowed := true, recurses := true, apart := false }
def TxOrderSaid : Prop := txOrderRow.holds Tryz.pinned (OpenSpec.ofChange txOrderSpec)

/-- ITS FALSE NEIGHBOUR: 'it returns false'. Refute it at one input. -/
def txOrderWrong : ChangeSpec := { name := "txOrder", fn := fun _ => fun
  | [d] => { results := [.lit (.bool false)], args := [d] }
  | _ => none }
def TxOrderWrongFalsely : Prop := txOrderRow.holds Tryz.pinned (OpenSpec.ofChange txOrderWrong)

/- THE SECOND FORM. 'bulk': how many values and letters a reading holds, each counted each time it is reached (what is shared counts as often as it is met; a slice's spare places count too). A statement '..UptoSaid' is the law's where the arguments, and the package variables that the reading takes, are together of bulk at most 1048576: NARROWER than '..Said'. Prove '..Said' where nothing that the law and all that it calls make is longer than what came in: it says more and counts as full. Else prove '..UptoSaid'. A law counts once. -/
mutual
def uptoBulk {H : Type} : DataW H → Nat
  | .lit (.string bytes) => bytes.length + 1
  | .lit _ => 1
  | .nil => 1
  | .ptr d => uptoBulk d + 1
  | .slice elems spare => uptoBulkAll elems + uptoBulkAll spare + 1
  | .agg parts => uptoBulkAll parts + 1
  | .iface _ d => uptoBulk d + 1
  | .map entries => uptoBulkEntries entries + 1
  | .held _ => 1
def uptoBulkAll {H : Type} : List (DataW H) → Nat
  | [] => 0
  | d :: r => uptoBulk d + uptoBulkAll r
def uptoBulkEntries {H : Type} : List (Lit × DataW H) → Nat
  | [] => 0
  | x :: r => uptoBulkEntry x + uptoBulkEntries r
def uptoBulkEntry {H : Type} : Lit × DataW H → Nat
  | (.string bytes, d) => bytes.length + uptoBulk d + 1
  | (_, d) => uptoBulk d + 1
 end
def uptoSmall : (H : Type) → List (DataW H) → Bool := fun _ ds => decide (uptoBulkAll ds ≤ 1048576)
def OpenSpec.upto (s : _root_.Go.ChangeSpec) : _root_.Go.OpenSpec := { _root_.Go.OpenSpec.ofChange s with cond := some uptoSmall }

/-- 'lunettelaw08.TxPlays', WHERE WHAT IT READS IS OF BULK AT MOST 1048576: true; the input reads as it did. -/
def txPlaysUptoRow : OpenClaim := { program := "ythgdkpkhnhjifaagreat", sum := "1e915d17ef40e8fbb28aa671ea744de8071a1d3dffd89d79343485830b6b618f", func := "lunette/lunettelaw08.TxPlays", spec := "txPlays", inPlace := ["internal/abi.NoEscape", "internal/bytealg.MakeNoZero"], unfollowed := true, recurses := true, apart := false, narrowed := true }
def TxPlaysUptoSaid : Prop := txPlaysUptoRow.holds Tryz.pinned (OpenSpec.upto txPlaysSpec)

/-- 'lunettelaw08.TxAtomic', WHERE WHAT IT READS IS OF BULK AT MOST 1048576: true; the input reads as it did. -/
def txAtomicUptoRow : OpenClaim := { program := "ythgdkpkhnhjifaagreat", sum := "1e915d17ef40e8fbb28aa671ea744de8071a1d3dffd89d79343485830b6b618f", func := "lunette/lunettelaw08.TxAtomic", spec := "txAtomic", inPlace := ["internal/abi.NoEscape", "internal/bytealg.MakeNoZero"], unfollowed := true, recurses := true, apart := false, narrowed := true }
def TxAtomicUptoSaid : Prop := txAtomicUptoRow.holds Tryz.pinned (OpenSpec.upto txAtomicSpec)

/-- 'lunettelaw08.TxRoom', WHERE WHAT IT READS IS OF BULK AT MOST 1048576: true; the input reads as it did. -/
def txRoomUptoRow : OpenClaim := { program := "ythgdkpkhnhjifaagreat", sum := "1e915d17ef40e8fbb28aa671ea744de8071a1d3dffd89d79343485830b6b618f", func := "lunette/lunettelaw08.TxRoom", spec := "txRoom", inPlace := ["internal/abi.NoEscape", "internal/bytealg.MakeNoZero"], unfollowed := true, recurses := true, apart := false, narrowed := true }
def TxRoomUptoSaid : Prop := txRoomUptoRow.holds Tryz.pinned (OpenSpec.upto txRoomSpec)

/-- 'lunettelaw08.TxOrder', WHERE WHAT IT READS IS OF BULK AT MOST 1048576: true; the input reads as it did. -/
def txOrderUptoRow : OpenClaim := { program := "ythgdkpkhnhjifaagreat", sum := "1e915d17ef40e8fbb28aa671ea744de8071a1d3dffd89d79343485830b6b618f", func := "lunette/lunettelaw08.TxOrder", spec := "txOrder", inPlace := ["internal/abi.NoEscape", "internal/bytealg.MakeNoZero"], unfollowed := true, recurses := true, apart := false, narrowed := true }
def TxOrderUptoSaid : Prop := txOrderUptoRow.holds Tryz.pinned (OpenSpec.upto txOrderSpec)

end Rows
end Go.Proofs.YthgdkpkhnhjifaaGreat
