/-
  No cell of these rows narrows 'for every input' (looked for: loops, veiled, ifaces, maps, wideKeys, modest, calm, conditions, laid).
  DERIVED. THE GIVEN ROWS OF THIS SEAT. 3 by the template 'for every input the law returns true; each argument reads behind the call as it read before'; 0 by the template 'total and deterministic' (their statements: YtnfiapjdkjbdhaaGreatTotals.lean).
  GIVEN WITH THE SEED: the statements are not yours to turn. If you find one false, say at which input.
  Laid BY PROGRAM, IN A SANDBOX (cutbox-rows.mjs): the forced cells as the released guide's own fill.sh prints them over the translation 5add02876e905c8c… (all of the seat's roots in one cut). By AI agents, Wed Nov 11 2026. No macro, syntax, notation, axiom, sorry.
-/
import Derived.Test.YtnfiapjdkjbdhaaGreatChecked
import GoSem.Claim
import GoSem.ClaimJoined
import GoSem.ClaimMapViews
import Derived.JoinedTies
import Derived.KernelRfl
namespace Go.Proofs.YtnfiapjdkjbdhaaGreat
/- THE CELL 'sum', in the pinned program and in every row, IS THE sha256 OF THE DUMP (.gsa) THAT YtnfiapjdkjbdhaaGreatProg.lean LOADS. Nothing in Lean hashes anything: it is a label: what it is worth is what the hold of that sum in a sandbox is worth. -/
noncomputable def Tryz.pinned : Pinned := { name := "ytnfiapjdkjbdhaagreat", sum := "5add02876e905c8c40395d6bf6166aa925d1318e1dc19dfebb796ea01404f3b1", checked := Tryz.checked }
namespace Rows
def none {H : Type} : Left H := { results := [], args := [] }

/-- 'lunettelaw11.ImageOwns': WHATEVER THE INPUT: true; the input reads as it did. -/
def imageOwnsSpec : ChangeSpec := { name := "imageOwns", fn := fun _ => fun
  | [d1, d2] => { results := [.lit (.bool true)], args := [d1, d2] }
  | _ => none }
def imageOwnsRow : OpenClaim := { program := "ytnfiapjdkjbdhaagreat", sum := "5add02876e905c8c40395d6bf6166aa925d1318e1dc19dfebb796ea01404f3b1", func := "lunette/lunettelaw11.ImageOwns", spec := "imageOwns", inPlace := ["internal/abi.NoEscape", "internal/bytealg.MakeNoZero"], unfollowed := true, recurses := true, apart := false }
def ImageOwnsSaid : Prop := imageOwnsRow.holds Tryz.pinned (OpenSpec.ofChange imageOwnsSpec)

/-- ITS FALSE NEIGHBOUR: 'it returns false'. Refute it at one input. -/
def imageOwnsWrong : ChangeSpec := { name := "imageOwns", fn := fun _ => fun
  | [d1, d2] => { results := [.lit (.bool false)], args := [d1, d2] }
  | _ => none }
def ImageOwnsWrongFalsely : Prop := imageOwnsRow.holds Tryz.pinned (OpenSpec.ofChange imageOwnsWrong)

/-- 'lunettelaw11.ImagePages': WHATEVER THE INPUT: true; the input reads as it did. -/
def imagePagesSpec : ChangeSpec := { name := "imagePages", fn := fun _ => fun
  | [d] => { results := [.lit (.bool true)], args := [d] }
  | _ => none }
def imagePagesRow : OpenClaim := { program := "ytnfiapjdkjbdhaagreat", sum := "5add02876e905c8c40395d6bf6166aa925d1318e1dc19dfebb796ea01404f3b1", func := "lunette/lunettelaw11.ImagePages", spec := "imagePages", inPlace := ["internal/abi.NoEscape", "internal/bytealg.MakeNoZero"], unfollowed := true, recurses := true, apart := false }
def ImagePagesSaid : Prop := imagePagesRow.holds Tryz.pinned (OpenSpec.ofChange imagePagesSpec)

/-- ITS FALSE NEIGHBOUR: 'it returns false'. Refute it at one input. -/
def imagePagesWrong : ChangeSpec := { name := "imagePages", fn := fun _ => fun
  | [d] => { results := [.lit (.bool false)], args := [d] }
  | _ => none }
def ImagePagesWrongFalsely : Prop := imagePagesRow.holds Tryz.pinned (OpenSpec.ofChange imagePagesWrong)

/-- 'lunettelaw11.ImageFormat': WHATEVER THE INPUT: true; the input reads as it did. -/
def imageFormatSpec : ChangeSpec := { name := "imageFormat", fn := fun _ => fun
  | [d] => { results := [.lit (.bool true)], args := [d] }
  | _ => none }
def imageFormatRow : OpenClaim := { program := "ytnfiapjdkjbdhaagreat", sum := "5add02876e905c8c40395d6bf6166aa925d1318e1dc19dfebb796ea01404f3b1", func := "lunette/lunettelaw11.ImageFormat", spec := "imageFormat", inPlace := ["internal/abi.NoEscape", "internal/bytealg.MakeNoZero"], unfollowed := true, recurses := true, apart := false }
def ImageFormatSaid : Prop := imageFormatRow.holds Tryz.pinned (OpenSpec.ofChange imageFormatSpec)

/-- ITS FALSE NEIGHBOUR: 'it returns false'. Refute it at one input. -/
def imageFormatWrong : ChangeSpec := { name := "imageFormat", fn := fun _ => fun
  | [d] => { results := [.lit (.bool false)], args := [d] }
  | _ => none }
def ImageFormatWrongFalsely : Prop := imageFormatRow.holds Tryz.pinned (OpenSpec.ofChange imageFormatWrong)

/- THE SECOND FORM. 'bulk': how many values and letters a reading holds, each counted each time it is reached (what is shared counts as often as it is met; a slice's spare places count too). A statement '..UptoSaid' is the law's where the arguments, and the package variables that the reading takes, are together of bulk at most 1048576: NARROWER than '..Said'. Prove '..Said' where nothing that the law and all that it calls make is longer than what came in: it says more and counts as full. Else prove '..UptoSaid'. A law counts once. -/
mutual
def uptoBulk {H : Type} : DataW H → Nat
  | .lit (.string bytes) => bytes.length + 1
  | .lit _ => 1
  | .nil => 1
  | .ptr d => uptoBulk d + 1
  | .slice elems spare => uptoBulkAll elems + uptoBulkAll spare + 1
  | .agg parts => uptoBulkAll parts + 1
  | .iface _ d => uptoBulk d + 1
  | .map entries => uptoBulkEntries entries + 1
  | .held _ => 1
def uptoBulkAll {H : Type} : List (DataW H) → Nat
  | [] => 0
  | d :: r => uptoBulk d + uptoBulkAll r
def uptoBulkEntries {H : Type} : List (Lit × DataW H) → Nat
  | [] => 0
  | x :: r => uptoBulkEntry x + uptoBulkEntries r
def uptoBulkEntry {H : Type} : Lit × DataW H → Nat
  | (.string bytes, d) => bytes.length + uptoBulk d + 1
  | (_, d) => uptoBulk d + 1
 end
def uptoSmall : (H : Type) → List (DataW H) → Bool := fun _ ds => decide (uptoBulkAll ds ≤ 1048576)
def OpenSpec.upto (s : _root_.Go.ChangeSpec) : _root_.Go.OpenSpec := { _root_.Go.OpenSpec.ofChange s with cond := some uptoSmall }

/-- 'lunettelaw11.ImageOwns', WHERE WHAT IT READS IS OF BULK AT MOST 1048576: true; the input reads as it did. -/
def imageOwnsUptoRow : OpenClaim := { program := "ytnfiapjdkjbdhaagreat", sum := "5add02876e905c8c40395d6bf6166aa925d1318e1dc19dfebb796ea01404f3b1", func := "lunette/lunettelaw11.ImageOwns", spec := "imageOwns", inPlace := ["internal/abi.NoEscape", "internal/bytealg.MakeNoZero"], unfollowed := true, recurses := true, apart := false, narrowed := true }
def ImageOwnsUptoSaid : Prop := imageOwnsUptoRow.holds Tryz.pinned (OpenSpec.upto imageOwnsSpec)

/-- 'lunettelaw11.ImagePages', WHERE WHAT IT READS IS OF BULK AT MOST 1048576: true; the input reads as it did. -/
def imagePagesUptoRow : OpenClaim := { program := "ytnfiapjdkjbdhaagreat", sum := "5add02876e905c8c40395d6bf6166aa925d1318e1dc19dfebb796ea01404f3b1", func := "lunette/lunettelaw11.ImagePages", spec := "imagePages", inPlace := ["internal/abi.NoEscape", "internal/bytealg.MakeNoZero"], unfollowed := true, recurses := true, apart := false, narrowed := true }
def ImagePagesUptoSaid : Prop := imagePagesUptoRow.holds Tryz.pinned (OpenSpec.upto imagePagesSpec)

/-- 'lunettelaw11.ImageFormat', WHERE WHAT IT READS IS OF BULK AT MOST 1048576: true; the input reads as it did. -/
def imageFormatUptoRow : OpenClaim := { program := "ytnfiapjdkjbdhaagreat", sum := "5add02876e905c8c40395d6bf6166aa925d1318e1dc19dfebb796ea01404f3b1", func := "lunette/lunettelaw11.ImageFormat", spec := "imageFormat", inPlace := ["internal/abi.NoEscape", "internal/bytealg.MakeNoZero"], unfollowed := true, recurses := true, apart := false, narrowed := true }
def ImageFormatUptoSaid : Prop := imageFormatUptoRow.holds Tryz.pinned (OpenSpec.upto imageFormatSpec)

end Rows
end Go.Proofs.YtnfiapjdkjbdhaaGreat
