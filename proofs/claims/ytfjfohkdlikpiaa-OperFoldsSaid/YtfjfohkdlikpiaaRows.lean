/-
  No cell of these rows narrows 'for every input' (looked for: loops, veiled, ifaces, maps, wideKeys, modest, calm, conditions, laid).
  DERIVED. THE GIVEN ROWS OF THIS SEAT. 2 by the template 'for every input the law returns true; each argument reads behind the call as it read before'; 0 by the template 'total and deterministic' (their statements: YtfjfohkdlikpiaaTotals.lean).
  GIVEN WITH THE SEED: the statements are not yours to turn. If you find one false, say at which input.
  Laid BY PROGRAM, IN A SANDBOX (cutbox-rows.mjs): the forced cells as the released guide's own fill.sh prints them over the translation 7799faf2891214df… (all of the seat's roots in one cut). By AI agents, Wed Nov 11 2026. No macro, syntax, notation, axiom, sorry.
-/
import Derived.Test.YtfjfohkdlikpiaaChecked
import GoSem.Claim
import GoSem.ClaimJoined
import GoSem.ClaimMapViews
import Derived.JoinedTies
import Derived.KernelRfl
namespace Go.Proofs.Ytfjfohkdlikpiaa
/- THE CELL 'sum', in the pinned program and in every row, IS THE sha256 OF THE DUMP (.gsa) THAT YtfjfohkdlikpiaaProg.lean LOADS. Nothing in Lean hashes anything: it is a label: what it is worth is what the hold of that sum in a sandbox is worth. -/
noncomputable def Try.pinned : Pinned := { name := "ytfjfohkdlikpiaa", sum := "7799faf2891214dffe6672f29c925cae5305a4ed084ef8ed929b8d58ac08297b", checked := Try.checked }
namespace Rows
def none {H : Type} : Left H := { results := [], args := [] }

/-- 'watershedlaw12.OperOnes': WHATEVER THE INPUT: true; the input reads as it did. -/
def operOnesSpec : ChangeSpec := { name := "operOnes", fn := fun _ => fun
  | [d1, d2, d3] => { results := [.lit (.bool true)], args := [d1, d2, d3] }
  | _ => none }
def operOnesRow : OpenClaim := { program := "ytfjfohkdlikpiaa", sum := "7799faf2891214dffe6672f29c925cae5305a4ed084ef8ed929b8d58ac08297b", func := "watershed/watershedlaw12.OperOnes", spec := "operOnes", apart := false }
def OperOnesSaid : Prop := operOnesRow.holds Try.pinned (OpenSpec.ofChange operOnesSpec)

/-- ITS FALSE NEIGHBOUR: 'it returns false'. Refute it at one input. -/
def operOnesWrong : ChangeSpec := { name := "operOnes", fn := fun _ => fun
  | [d1, d2, d3] => { results := [.lit (.bool false)], args := [d1, d2, d3] }
  | _ => none }
def OperOnesWrongFalsely : Prop := operOnesRow.holds Try.pinned (OpenSpec.ofChange operOnesWrong)

/-- 'watershedlaw12.OperFolds': WHATEVER THE INPUT: true; the input reads as it did. -/
def operFoldsSpec : ChangeSpec := { name := "operFolds", fn := fun _ => fun
  | [d1, d2] => { results := [.lit (.bool true)], args := [d1, d2] }
  | _ => none }
def operFoldsRow : OpenClaim := { program := "ytfjfohkdlikpiaa", sum := "7799faf2891214dffe6672f29c925cae5305a4ed084ef8ed929b8d58ac08297b", func := "watershed/watershedlaw12.OperFolds", spec := "operFolds", unfollowed := true, recurses := true, apart := false }
def OperFoldsSaid : Prop := operFoldsRow.holds Try.pinned (OpenSpec.ofChange operFoldsSpec)

/-- ITS FALSE NEIGHBOUR: 'it returns false'. Refute it at one input. -/
def operFoldsWrong : ChangeSpec := { name := "operFolds", fn := fun _ => fun
  | [d1, d2] => { results := [.lit (.bool false)], args := [d1, d2] }
  | _ => none }
def OperFoldsWrongFalsely : Prop := operFoldsRow.holds Try.pinned (OpenSpec.ofChange operFoldsWrong)

/- THE SECOND FORM. 'bulk': how many values and letters a reading holds, each counted each time it is reached (what is shared counts as often as it is met; a slice's spare places count too). A statement '..UptoSaid' is the law's where the arguments, and the package variables that the reading takes, are together of bulk at most 1048576: NARROWER than '..Said'. Prove '..Said' where nothing that the law and all that it calls make is longer than what came in: it says more and counts as full. Else prove '..UptoSaid'. A law counts once. -/
mutual
def uptoBulk {H : Type} : DataW H → Nat
  | .lit (.string bytes) => bytes.length + 1
  | .lit _ => 1
  | .nil => 1
  | .ptr d => uptoBulk d + 1
  | .slice elems spare => uptoBulkAll elems + uptoBulkAll spare + 1
  | .agg parts => uptoBulkAll parts + 1
  | .iface _ d => uptoBulk d + 1
  | .map entries => uptoBulkEntries entries + 1
  | .held _ => 1
def uptoBulkAll {H : Type} : List (DataW H) → Nat
  | [] => 0
  | d :: r => uptoBulk d + uptoBulkAll r
def uptoBulkEntries {H : Type} : List (Lit × DataW H) → Nat
  | [] => 0
  | x :: r => uptoBulkEntry x + uptoBulkEntries r
def uptoBulkEntry {H : Type} : Lit × DataW H → Nat
  | (.string bytes, d) => bytes.length + uptoBulk d + 1
  | (_, d) => uptoBulk d + 1
 end
def uptoSmall : (H : Type) → List (DataW H) → Bool := fun _ ds => decide (uptoBulkAll ds ≤ 1048576)
def OpenSpec.upto (s : _root_.Go.ChangeSpec) : _root_.Go.OpenSpec := { _root_.Go.OpenSpec.ofChange s with cond := some uptoSmall }

/-- 'watershedlaw12.OperOnes', WHERE WHAT IT READS IS OF BULK AT MOST 1048576: true; the input reads as it did. -/
def operOnesUptoRow : OpenClaim := { program := "ytfjfohkdlikpiaa", sum := "7799faf2891214dffe6672f29c925cae5305a4ed084ef8ed929b8d58ac08297b", func := "watershed/watershedlaw12.OperOnes", spec := "operOnes", apart := false, narrowed := true }
def OperOnesUptoSaid : Prop := operOnesUptoRow.holds Try.pinned (OpenSpec.upto operOnesSpec)

/-- 'watershedlaw12.OperFolds', WHERE WHAT IT READS IS OF BULK AT MOST 1048576: true; the input reads as it did. -/
def operFoldsUptoRow : OpenClaim := { program := "ytfjfohkdlikpiaa", sum := "7799faf2891214dffe6672f29c925cae5305a4ed084ef8ed929b8d58ac08297b", func := "watershed/watershedlaw12.OperFolds", spec := "operFolds", unfollowed := true, recurses := true, apart := false, narrowed := true }
def OperFoldsUptoSaid : Prop := operFoldsUptoRow.holds Try.pinned (OpenSpec.upto operFoldsSpec)

end Rows
end Go.Proofs.Ytfjfohkdlikpiaa
