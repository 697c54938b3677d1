/-
  No cell of these rows narrows 'for every input' (looked for: loops, veiled, ifaces, maps, wideKeys, modest, calm, conditions, laid).
  DERIVED. THE GIVEN ROWS OF THIS SEAT. 3 by the template 'for every input the law returns true; each argument reads behind the call as it read before'; 0 by the template 'total and deterministic' (their statements: YtmidoghjacmdcaaTotals.lean).
  GIVEN WITH THE SEED: the statements are not yours to turn. If you find one false, say at which input.
  Laid BY PROGRAM, IN A SANDBOX (cutbox-rows.mjs): the forced cells as the released guide's own fill.sh prints them over the translation fed08c5d62525c42… (all of the seat's roots in one cut). By AI agents, Wed Nov 11 2026. No macro, syntax, notation, axiom, sorry.
-/
import Derived.Test.YtmidoghjacmdcaaChecked
import GoSem.Claim
import GoSem.ClaimJoined
import GoSem.ClaimMapViews
import Derived.JoinedTies
import Derived.KernelRfl
namespace Go.Proofs.Ytmidoghjacmdcaa
/- THE CELL 'sum', in the pinned program and in every row, IS THE sha256 OF THE DUMP (.gsa) THAT YtmidoghjacmdcaaProg.lean LOADS. Nothing in Lean hashes anything: it is a label: what it is worth is what the hold of that sum in a sandbox is worth. -/
noncomputable def Try.pinned : Pinned := { name := "ytmidoghjacmdcaa", sum := "fed08c5d62525c42aef47fa6e321cd0decd159b2b4eddf16ca754cd2f98f2c79", checked := Try.checked }
namespace Rows
def none {H : Type} : Left H := { results := [], args := [] }

/-- 'lunettelaw10.DirsTell': WHATEVER THE INPUT: true; the input reads as it did. -/
def dirsTellSpec : ChangeSpec := { name := "dirsTell", fn := fun _ => fun
  | [d1, d2, d3] => { results := [.lit (.bool true)], args := [d1, d2, d3] }
  | _ => none }
def dirsTellRow : OpenClaim := { program := "ytmidoghjacmdcaa", sum := "fed08c5d62525c42aef47fa6e321cd0decd159b2b4eddf16ca754cd2f98f2c79", func := "lunette/lunettelaw10.DirsTell", spec := "dirsTell", inPlace := ["internal/abi.NoEscape", "internal/bytealg.MakeNoZero"], unfollowed := true, recurses := true, apart := false }
def DirsTellSaid : Prop := dirsTellRow.holds Try.pinned (OpenSpec.ofChange dirsTellSpec)

/-- ITS FALSE NEIGHBOUR: 'it returns false'. Refute it at one input. -/
def dirsTellWrong : ChangeSpec := { name := "dirsTell", fn := fun _ => fun
  | [d1, d2, d3] => { results := [.lit (.bool false)], args := [d1, d2, d3] }
  | _ => none }
def DirsTellWrongFalsely : Prop := dirsTellRow.holds Try.pinned (OpenSpec.ofChange dirsTellWrong)

/-- 'lunettelaw10.DirsKeep': WHATEVER THE INPUT: true; the input reads as it did. -/
def dirsKeepSpec : ChangeSpec := { name := "dirsKeep", fn := fun _ => fun
  | [d1, d2] => { results := [.lit (.bool true)], args := [d1, d2] }
  | _ => none }
def dirsKeepRow : OpenClaim := { program := "ytmidoghjacmdcaa", sum := "fed08c5d62525c42aef47fa6e321cd0decd159b2b4eddf16ca754cd2f98f2c79", func := "lunette/lunettelaw10.DirsKeep", spec := "dirsKeep", inPlace := ["internal/abi.NoEscape", "internal/bytealg.MakeNoZero"], unfollowed := true, recurses := true, apart := false }
def DirsKeepSaid : Prop := dirsKeepRow.holds Try.pinned (OpenSpec.ofChange dirsKeepSpec)

/-- ITS FALSE NEIGHBOUR: 'it returns false'. Refute it at one input. -/
def dirsKeepWrong : ChangeSpec := { name := "dirsKeep", fn := fun _ => fun
  | [d1, d2] => { results := [.lit (.bool false)], args := [d1, d2] }
  | _ => none }
def DirsKeepWrongFalsely : Prop := dirsKeepRow.holds Try.pinned (OpenSpec.ofChange dirsKeepWrong)

/-- 'lunettelaw10.DirsOne': WHATEVER THE INPUT: true; the input reads as it did. -/
def dirsOneSpec : ChangeSpec := { name := "dirsOne", fn := fun _ => fun
  | [d1, d2] => { results := [.lit (.bool true)], args := [d1, d2] }
  | _ => none }
def dirsOneRow : OpenClaim := { program := "ytmidoghjacmdcaa", sum := "fed08c5d62525c42aef47fa6e321cd0decd159b2b4eddf16ca754cd2f98f2c79", func := "lunette/lunettelaw10.DirsOne", spec := "dirsOne", inPlace := ["internal/abi.NoEscape", "internal/bytealg.MakeNoZero"], unfollowed := true, recurses := true, apart := false }
def DirsOneSaid : Prop := dirsOneRow.holds Try.pinned (OpenSpec.ofChange dirsOneSpec)

/-- ITS FALSE NEIGHBOUR: 'it returns false'. Refute it at one input. -/
def dirsOneWrong : ChangeSpec := { name := "dirsOne", fn := fun _ => fun
  | [d1, d2] => { results := [.lit (.bool false)], args := [d1, d2] }
  | _ => none }
def DirsOneWrongFalsely : Prop := dirsOneRow.holds Try.pinned (OpenSpec.ofChange dirsOneWrong)

/- THE SECOND FORM. 'bulk': how many values and letters a reading holds, each counted each time it is reached (what is shared counts as often as it is met; a slice's spare places count too). A statement '..UptoSaid' is the law's where the arguments, and the package variables that the reading takes, are together of bulk at most 1048576: NARROWER than '..Said'. Prove '..Said' where nothing that the law and all that it calls make is longer than what came in: it says more and counts as full. Else prove '..UptoSaid'. A law counts once. -/
mutual
def uptoBulk {H : Type} : DataW H → Nat
  | .lit (.string bytes) => bytes.length + 1
  | .lit _ => 1
  | .nil => 1
  | .ptr d => uptoBulk d + 1
  | .slice elems spare => uptoBulkAll elems + uptoBulkAll spare + 1
  | .agg parts => uptoBulkAll parts + 1
  | .iface _ d => uptoBulk d + 1
  | .map entries => uptoBulkEntries entries + 1
  | .held _ => 1
def uptoBulkAll {H : Type} : List (DataW H) → Nat
  | [] => 0
  | d :: r => uptoBulk d + uptoBulkAll r
def uptoBulkEntries {H : Type} : List (Lit × DataW H) → Nat
  | [] => 0
  | x :: r => uptoBulkEntry x + uptoBulkEntries r
def uptoBulkEntry {H : Type} : Lit × DataW H → Nat
  | (.string bytes, d) => bytes.length + uptoBulk d + 1
  | (_, d) => uptoBulk d + 1
 end
def uptoSmall : (H : Type) → List (DataW H) → Bool := fun _ ds => decide (uptoBulkAll ds ≤ 1048576)
def OpenSpec.upto (s : _root_.Go.ChangeSpec) : _root_.Go.OpenSpec := { _root_.Go.OpenSpec.ofChange s with cond := some uptoSmall }

/-- 'lunettelaw10.DirsTell', WHERE WHAT IT READS IS OF BULK AT MOST 1048576: true; the input reads as it did. -/
def dirsTellUptoRow : OpenClaim := { program := "ytmidoghjacmdcaa", sum := "fed08c5d62525c42aef47fa6e321cd0decd159b2b4eddf16ca754cd2f98f2c79", func := "lunette/lunettelaw10.DirsTell", spec := "dirsTell", inPlace := ["internal/abi.NoEscape", "internal/bytealg.MakeNoZero"], unfollowed := true, recurses := true, apart := false, narrowed := true }
def DirsTellUptoSaid : Prop := dirsTellUptoRow.holds Try.pinned (OpenSpec.upto dirsTellSpec)

/-- 'lunettelaw10.DirsKeep', WHERE WHAT IT READS IS OF BULK AT MOST 1048576: true; the input reads as it did. -/
def dirsKeepUptoRow : OpenClaim := { program := "ytmidoghjacmdcaa", sum := "fed08c5d62525c42aef47fa6e321cd0decd159b2b4eddf16ca754cd2f98f2c79", func := "lunette/lunettelaw10.DirsKeep", spec := "dirsKeep", inPlace := ["internal/abi.NoEscape", "internal/bytealg.MakeNoZero"], unfollowed := true, recurses := true, apart := false, narrowed := true }
def DirsKeepUptoSaid : Prop := dirsKeepUptoRow.holds Try.pinned (OpenSpec.upto dirsKeepSpec)

/-- 'lunettelaw10.DirsOne', WHERE WHAT IT READS IS OF BULK AT MOST 1048576: true; the input reads as it did. -/
def dirsOneUptoRow : OpenClaim := { program := "ytmidoghjacmdcaa", sum := "fed08c5d62525c42aef47fa6e321cd0decd159b2b4eddf16ca754cd2f98f2c79", func := "lunette/lunettelaw10.DirsOne", spec := "dirsOne", inPlace := ["internal/abi.NoEscape", "internal/bytealg.MakeNoZero"], unfollowed := true, recurses := true, apart := false, narrowed := true }
def DirsOneUptoSaid : Prop := dirsOneUptoRow.holds Try.pinned (OpenSpec.upto dirsOneSpec)

end Rows
end Go.Proofs.Ytmidoghjacmdcaa
