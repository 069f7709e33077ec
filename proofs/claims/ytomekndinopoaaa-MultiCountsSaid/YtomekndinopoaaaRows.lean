/-
  No cell of these rows narrows 'for every input' (looked for: loops, veiled, ifaces, maps, wideKeys, modest, calm, conditions, laid).
  DERIVED. THE GIVEN ROWS OF THIS SEAT. 5 by the template 'for every input the law returns true; each argument reads behind the call as it read before'; 0 by the template 'total and deterministic' (their statements: YtomekndinopoaaaTotals.lean).
  GIVEN WITH THE SEED: the statements are not yours to turn. If you find one false, say at which input.
  Laid BY PROGRAM, IN A SANDBOX (cutbox-rows.mjs): the forced cells as the released guide's own fill.sh prints them over the translation 3f316462366b8323… (all of the seat's roots in one cut). By AI agents, Wed Nov 11 2026. No macro, syntax, notation, axiom, sorry.
-/
import Derived.Test.YtomekndinopoaaaChecked
import GoSem.Claim
import GoSem.ClaimJoined
import GoSem.ClaimMapViews
import Derived.JoinedTies
import Derived.KernelRfl
namespace Go.Proofs.Ytomekndinopoaaa
/- THE CELL 'sum', in the pinned program and in every row, IS THE sha256 OF THE DUMP (.gsa) THAT YtomekndinopoaaaProg.lean LOADS. Nothing in Lean hashes anything: it is a label: what it is worth is what the hold of that sum in a sandbox is worth. -/
noncomputable def Try.pinned : Pinned := { name := "ytomekndinopoaaa", sum := "3f316462366b8323e4c16432951dbe517b7352744421ef33b1048920ebcfa4e4", checked := Try.checked }
namespace Rows
def none {H : Type} : Left H := { results := [], args := [] }

/-- 'watershedlaw07.MultiCounts': WHATEVER THE INPUT: true; the input reads as it did. -/
def multiCountsSpec : ChangeSpec := { name := "multiCounts", fn := fun _ => fun
  | [d1, d2] => { results := [.lit (.bool true)], args := [d1, d2] }
  | _ => none }
def multiCountsRow : OpenClaim := { program := "ytomekndinopoaaa", sum := "3f316462366b8323e4c16432951dbe517b7352744421ef33b1048920ebcfa4e4", func := "watershed/watershedlaw07.MultiCounts", spec := "multiCounts", inPlace := ["maps.clone"], unfollowed := true, recurses := true, plainKeys := false, apart := false }
def MultiCountsSaid : Prop := multiCountsRow.holds Try.pinned (OpenSpec.ofChange multiCountsSpec)

/-- ITS FALSE NEIGHBOUR: 'it returns false'. Refute it at one input. -/
def multiCountsWrong : ChangeSpec := { name := "multiCounts", fn := fun _ => fun
  | [d1, d2] => { results := [.lit (.bool false)], args := [d1, d2] }
  | _ => none }
def MultiCountsWrongFalsely : Prop := multiCountsRow.holds Try.pinned (OpenSpec.ofChange multiCountsWrong)

/-- 'watershedlaw07.MultiBytes': WHATEVER THE INPUT: true; the input reads as it did. -/
def multiBytesSpec : ChangeSpec := { name := "multiBytes", fn := fun _ => fun
  | [d1, d2, d3] => { results := [.lit (.bool true)], args := [d1, d2, d3] }
  | _ => none }
def multiBytesRow : OpenClaim := { program := "ytomekndinopoaaa", sum := "3f316462366b8323e4c16432951dbe517b7352744421ef33b1048920ebcfa4e4", func := "watershed/watershedlaw07.MultiBytes", spec := "multiBytes", inPlace := ["internal/abi.NoEscape", "internal/bytealg.MakeNoZero"], unfollowed := true, recurses := true, plainKeys := false, apart := false }
def MultiBytesSaid : Prop := multiBytesRow.holds Try.pinned (OpenSpec.ofChange multiBytesSpec)

/-- ITS FALSE NEIGHBOUR: 'it returns false'. Refute it at one input. -/
def multiBytesWrong : ChangeSpec := { name := "multiBytes", fn := fun _ => fun
  | [d1, d2, d3] => { results := [.lit (.bool false)], args := [d1, d2, d3] }
  | _ => none }
def MultiBytesWrongFalsely : Prop := multiBytesRow.holds Try.pinned (OpenSpec.ofChange multiBytesWrong)

/-- 'watershedlaw07.MultiAnyhow': WHATEVER THE INPUT: true; the input reads as it did. -/
def multiAnyhowSpec : ChangeSpec := { name := "multiAnyhow", fn := fun _ => fun
  | [d] => { results := [.lit (.bool true)], args := [d] }
  | _ => none }
def multiAnyhowRow : OpenClaim := { program := "ytomekndinopoaaa", sum := "3f316462366b8323e4c16432951dbe517b7352744421ef33b1048920ebcfa4e4", func := "watershed/watershedlaw07.MultiAnyhow", spec := "multiAnyhow", inPlace := ["internal/abi.NoEscape", "internal/bytealg.MakeNoZero"], unfollowed := true, recurses := true, plainKeys := false, apart := false }
def MultiAnyhowSaid : Prop := multiAnyhowRow.holds Try.pinned (OpenSpec.ofChange multiAnyhowSpec)

/-- ITS FALSE NEIGHBOUR: 'it returns false'. Refute it at one input. -/
def multiAnyhowWrong : ChangeSpec := { name := "multiAnyhow", fn := fun _ => fun
  | [d] => { results := [.lit (.bool false)], args := [d] }
  | _ => none }
def MultiAnyhowWrongFalsely : Prop := multiAnyhowRow.holds Try.pinned (OpenSpec.ofChange multiAnyhowWrong)

/-- 'watershedlaw07.MultiMoves': WHATEVER THE INPUT: true; the input reads as it did. -/
def multiMovesSpec : ChangeSpec := { name := "multiMoves", fn := fun _ => fun
  | [d] => { results := [.lit (.bool true)], args := [d] }
  | _ => none }
def multiMovesRow : OpenClaim := { program := "ytomekndinopoaaa", sum := "3f316462366b8323e4c16432951dbe517b7352744421ef33b1048920ebcfa4e4", func := "watershed/watershedlaw07.MultiMoves", spec := "multiMoves", unfollowed := true, recurses := true, plainKeys := false, apart := false }
def MultiMovesSaid : Prop := multiMovesRow.holds Try.pinned (OpenSpec.ofChange multiMovesSpec)

/-- ITS FALSE NEIGHBOUR: 'it returns false'. Refute it at one input. -/
def multiMovesWrong : ChangeSpec := { name := "multiMoves", fn := fun _ => fun
  | [d] => { results := [.lit (.bool false)], args := [d] }
  | _ => none }
def MultiMovesWrongFalsely : Prop := multiMovesRow.holds Try.pinned (OpenSpec.ofChange multiMovesWrong)

/-- 'watershedlaw07.MultiBack': WHATEVER THE INPUT: true; the input reads as it did. -/
def multiBackSpec : ChangeSpec := { name := "multiBack", fn := fun _ => fun
  | [d1, d2] => { results := [.lit (.bool true)], args := [d1, d2] }
  | _ => none }
def multiBackRow : OpenClaim := { program := "ytomekndinopoaaa", sum := "3f316462366b8323e4c16432951dbe517b7352744421ef33b1048920ebcfa4e4", func := "watershed/watershedlaw07.MultiBack", spec := "multiBack", inPlace := ["internal/abi.NoEscape", "internal/bytealg.MakeNoZero"], unfollowed := true, recurses := true, plainKeys := false, apart := false }
def MultiBackSaid : Prop := multiBackRow.holds Try.pinned (OpenSpec.ofChange multiBackSpec)

/-- ITS FALSE NEIGHBOUR: 'it returns false'. Refute it at one input. -/
def multiBackWrong : ChangeSpec := { name := "multiBack", fn := fun _ => fun
  | [d1, d2] => { results := [.lit (.bool false)], args := [d1, d2] }
  | _ => none }
def MultiBackWrongFalsely : Prop := multiBackRow.holds Try.pinned (OpenSpec.ofChange multiBackWrong)

/- THE SECOND FORM. 'bulk': how many values and letters a reading holds, each counted each time it is reached (what is shared counts as often as it is met; a slice's spare places count too). A statement '..UptoSaid' is the law's where the arguments, and the package variables that the reading takes, are together of bulk at most 1048576: NARROWER than '..Said'. Prove '..Said' where nothing that the law and all that it calls make is longer than what came in: it says more and counts as full. Else prove '..UptoSaid'. A law counts once. -/
mutual
def uptoBulk {H : Type} : DataW H → Nat
  | .lit (.string bytes) => bytes.length + 1
  | .lit _ => 1
  | .nil => 1
  | .ptr d => uptoBulk d + 1
  | .slice elems spare => uptoBulkAll elems + uptoBulkAll spare + 1
  | .agg parts => uptoBulkAll parts + 1
  | .iface _ d => uptoBulk d + 1
  | .map entries => uptoBulkEntries entries + 1
  | .held _ => 1
def uptoBulkAll {H : Type} : List (DataW H) → Nat
  | [] => 0
  | d :: r => uptoBulk d + uptoBulkAll r
def uptoBulkEntries {H : Type} : List (Lit × DataW H) → Nat
  | [] => 0
  | x :: r => uptoBulkEntry x + uptoBulkEntries r
def uptoBulkEntry {H : Type} : Lit × DataW H → Nat
  | (.string bytes, d) => bytes.length + uptoBulk d + 1
  | (_, d) => uptoBulk d + 1
 end
def uptoSmall : (H : Type) → List (DataW H) → Bool := fun _ ds => decide (uptoBulkAll ds ≤ 1048576)
def OpenSpec.upto (s : _root_.Go.ChangeSpec) : _root_.Go.OpenSpec := { _root_.Go.OpenSpec.ofChange s with cond := some uptoSmall }

/-- 'watershedlaw07.MultiCounts', WHERE WHAT IT READS IS OF BULK AT MOST 1048576: true; the input reads as it did. -/
def multiCountsUptoRow : OpenClaim := { program := "ytomekndinopoaaa", sum := "3f316462366b8323e4c16432951dbe517b7352744421ef33b1048920ebcfa4e4", func := "watershed/watershedlaw07.MultiCounts", spec := "multiCounts", inPlace := ["maps.clone"], unfollowed := true, recurses := true, plainKeys := false, apart := false, narrowed := true }
def MultiCountsUptoSaid : Prop := multiCountsUptoRow.holds Try.pinned (OpenSpec.upto multiCountsSpec)

/-- 'watershedlaw07.MultiBytes', WHERE WHAT IT READS IS OF BULK AT MOST 1048576: true; the input reads as it did. -/
def multiBytesUptoRow : OpenClaim := { program := "ytomekndinopoaaa", sum := "3f316462366b8323e4c16432951dbe517b7352744421ef33b1048920ebcfa4e4", func := "watershed/watershedlaw07.MultiBytes", spec := "multiBytes", inPlace := ["internal/abi.NoEscape", "internal/bytealg.MakeNoZero"], unfollowed := true, recurses := true, plainKeys := false, apart := false, narrowed := true }
def MultiBytesUptoSaid : Prop := multiBytesUptoRow.holds Try.pinned (OpenSpec.upto multiBytesSpec)

/-- 'watershedlaw07.MultiAnyhow', WHERE WHAT IT READS IS OF BULK AT MOST 1048576: true; the input reads as it did. -/
def multiAnyhowUptoRow : OpenClaim := { program := "ytomekndinopoaaa", sum := "3f316462366b8323e4c16432951dbe517b7352744421ef33b1048920ebcfa4e4", func := "watershed/watershedlaw07.MultiAnyhow", spec := "multiAnyhow", inPlace := ["internal/abi.NoEscape", "internal/bytealg.MakeNoZero"], unfollowed := true, recurses := true, plainKeys := false, apart := false, narrowed := true }
def MultiAnyhowUptoSaid : Prop := multiAnyhowUptoRow.holds Try.pinned (OpenSpec.upto multiAnyhowSpec)

/-- 'watershedlaw07.MultiMoves', WHERE WHAT IT READS IS OF BULK AT MOST 1048576: true; the input reads as it did. -/
def multiMovesUptoRow : OpenClaim := { program := "ytomekndinopoaaa", sum := "3f316462366b8323e4c16432951dbe517b7352744421ef33b1048920ebcfa4e4", func := "watershed/watershedlaw07.MultiMoves", spec := "multiMoves", unfollowed := true, recurses := true, plainKeys := false, apart := false, narrowed := true }
def MultiMovesUptoSaid : Prop := multiMovesUptoRow.holds Try.pinned (OpenSpec.upto multiMovesSpec)

/-- 'watershedlaw07.MultiBack', WHERE WHAT IT READS IS OF BULK AT MOST 1048576: true; the input reads as it did. -/
def multiBackUptoRow : OpenClaim := { program := "ytomekndinopoaaa", sum := "3f316462366b8323e4c16432951dbe517b7352744421ef33b1048920ebcfa4e4", func := "watershed/watershedlaw07.MultiBack", spec := "multiBack", inPlace := ["internal/abi.NoEscape", "internal/bytealg.MakeNoZero"], unfollowed := true, recurses := true, plainKeys := false, apart := false, narrowed := true }
def MultiBackUptoSaid : Prop := multiBackUptoRow.holds Try.pinned (OpenSpec.upto multiBackSpec)

end Rows
end Go.Proofs.Ytomekndinopoaaa
