/-
  No cell of these rows narrows 'for every input' (looked for: loops, veiled, ifaces, maps, wideKeys, modest, calm, conditions, laid).
  DERIVED. THE GIVEN ROWS OF THIS SEAT. 11 by the template 'for every input the law returns true; each argument reads behind the call as it read before'; 0 by the template 'total and deterministic' (their statements: YtkjgibhckcdneaaTotals.lean).
  GIVEN WITH THE SEED: the statements are not yours to turn. If you find one false, say at which input.
  Laid BY PROGRAM, IN A SANDBOX (cutbox-rows.mjs): the forced cells as the released guide's own fill.sh prints them over the translation 3970b04a201c7370… (all of the seat's roots in one cut). By AI agents, Wed Nov 11 2026. No macro, syntax, notation, axiom, sorry.
-/
import Derived.Test.YtkjgibhckcdneaaChecked
import GoSem.Claim
import GoSem.ClaimJoined
import GoSem.ClaimMapViews
import Derived.JoinedTies
import Derived.KernelRfl
namespace Go.Proofs.Ytkjgibhckcdneaa
/- THE CELL 'sum', in the pinned program and in every row, IS THE sha256 OF THE DUMP (.gsa) THAT YtkjgibhckcdneaaProg.lean LOADS. Nothing in Lean hashes anything: it is a label: what it is worth is what the hold of that sum in a sandbox is worth. -/
noncomputable def Try.pinned : Pinned := { name := "ytkjgibhckcdneaa", sum := "3970b04a201c7370c46a896618c553064c23b6e5fffe316fa43b2f6e6dc0643a", checked := Try.checked }
namespace Rows
def none {H : Type} : Left H := { results := [], args := [] }

/-- 'laws.FnExactAreErrors': WHATEVER THE INPUT: true; the input reads as it did. -/
def fnExactAreErrorsSpec : ChangeSpec := { name := "fnExactAreErrors", fn := fun _ => fun
  | [d] => { results := [.lit (.bool true)], args := [d] }
  | _ => none }
def fnExactAreErrorsRow : OpenClaim := { program := "ytkjgibhckcdneaa", sum := "3970b04a201c7370c46a896618c553064c23b6e5fffe316fa43b2f6e6dc0643a", func := "loop.example/g01183/laws.FnExactAreErrors", spec := "fnExactAreErrors", apart := false }
def FnExactAreErrorsSaid : Prop := fnExactAreErrorsRow.holds Try.pinned (OpenSpec.ofChange fnExactAreErrorsSpec)

/-- ITS FALSE NEIGHBOUR: 'it returns false'. Refute it at one input. -/
def fnExactAreErrorsWrong : ChangeSpec := { name := "fnExactAreErrors", fn := fun _ => fun
  | [d] => { results := [.lit (.bool false)], args := [d] }
  | _ => none }
def FnExactAreErrorsWrongFalsely : Prop := fnExactAreErrorsRow.holds Try.pinned (OpenSpec.ofChange fnExactAreErrorsWrong)

/-- 'laws.FnExactUnwrapError': WHATEVER THE INPUT: true; the input reads as it did. -/
def fnExactUnwrapErrorSpec : ChangeSpec := { name := "fnExactUnwrapError", fn := fun _ => fun
  | [d1, d2] => { results := [.lit (.bool true)], args := [d1, d2] }
  | _ => none }
def fnExactUnwrapErrorRow : OpenClaim := { program := "ytkjgibhckcdneaa", sum := "3970b04a201c7370c46a896618c553064c23b6e5fffe316fa43b2f6e6dc0643a", func := "loop.example/g01183/laws.FnExactUnwrapError", spec := "fnExactUnwrapError", apart := false }
def FnExactUnwrapErrorSaid : Prop := fnExactUnwrapErrorRow.holds Try.pinned (OpenSpec.ofChange fnExactUnwrapErrorSpec)

/-- ITS FALSE NEIGHBOUR: 'it returns false'. Refute it at one input. -/
def fnExactUnwrapErrorWrong : ChangeSpec := { name := "fnExactUnwrapError", fn := fun _ => fun
  | [d1, d2] => { results := [.lit (.bool false)], args := [d1, d2] }
  | _ => none }
def FnExactUnwrapErrorWrongFalsely : Prop := fnExactUnwrapErrorRow.holds Try.pinned (OpenSpec.ofChange fnExactUnwrapErrorWrong)

/-- 'laws.FnExactDepthOf': WHATEVER THE INPUT: true; the input reads as it did. -/
def fnExactDepthOfSpec : ChangeSpec := { name := "fnExactDepthOf", fn := fun _ => fun
  | [d1, d2] => { results := [.lit (.bool true)], args := [d1, d2] }
  | _ => none }
def fnExactDepthOfRow : OpenClaim := { program := "ytkjgibhckcdneaa", sum := "3970b04a201c7370c46a896618c553064c23b6e5fffe316fa43b2f6e6dc0643a", func := "loop.example/g01183/laws.FnExactDepthOf", spec := "fnExactDepthOf", apart := false }
def FnExactDepthOfSaid : Prop := fnExactDepthOfRow.holds Try.pinned (OpenSpec.ofChange fnExactDepthOfSpec)

/-- ITS FALSE NEIGHBOUR: 'it returns false'. Refute it at one input. -/
def fnExactDepthOfWrong : ChangeSpec := { name := "fnExactDepthOf", fn := fun _ => fun
  | [d1, d2] => { results := [.lit (.bool false)], args := [d1, d2] }
  | _ => none }
def FnExactDepthOfWrongFalsely : Prop := fnExactDepthOfRow.holds Try.pinned (OpenSpec.ofChange fnExactDepthOfWrong)

/-- 'laws.FnExactCountWays': WHATEVER THE INPUT: true; the input reads as it did. -/
def fnExactCountWaysSpec : ChangeSpec := { name := "fnExactCountWays", fn := fun _ => fun
  | [d1, d2, d3] => { results := [.lit (.bool true)], args := [d1, d2, d3] }
  | _ => none }
def fnExactCountWaysRow : OpenClaim := { program := "ytkjgibhckcdneaa", sum := "3970b04a201c7370c46a896618c553064c23b6e5fffe316fa43b2f6e6dc0643a", func := "loop.example/g01183/laws.FnExactCountWays", spec := "fnExactCountWays", apart := false }
def FnExactCountWaysSaid : Prop := fnExactCountWaysRow.holds Try.pinned (OpenSpec.ofChange fnExactCountWaysSpec)

/-- ITS FALSE NEIGHBOUR: 'it returns false'. Refute it at one input. -/
def fnExactCountWaysWrong : ChangeSpec := { name := "fnExactCountWays", fn := fun _ => fun
  | [d1, d2, d3] => { results := [.lit (.bool false)], args := [d1, d2, d3] }
  | _ => none }
def FnExactCountWaysWrongFalsely : Prop := fnExactCountWaysRow.holds Try.pinned (OpenSpec.ofChange fnExactCountWaysWrong)

/-- 'laws.FnExactLeavesOf': WHATEVER THE INPUT: true; the input reads as it did. -/
def fnExactLeavesOfSpec : ChangeSpec := { name := "fnExactLeavesOf", fn := fun _ => fun
  | [d1, d2] => { results := [.lit (.bool true)], args := [d1, d2] }
  | _ => none }
def fnExactLeavesOfRow : OpenClaim := { program := "ytkjgibhckcdneaa", sum := "3970b04a201c7370c46a896618c553064c23b6e5fffe316fa43b2f6e6dc0643a", func := "loop.example/g01183/laws.FnExactLeavesOf", spec := "fnExactLeavesOf", apart := false }
def FnExactLeavesOfSaid : Prop := fnExactLeavesOfRow.holds Try.pinned (OpenSpec.ofChange fnExactLeavesOfSpec)

/-- ITS FALSE NEIGHBOUR: 'it returns false'. Refute it at one input. -/
def fnExactLeavesOfWrong : ChangeSpec := { name := "fnExactLeavesOf", fn := fun _ => fun
  | [d1, d2] => { results := [.lit (.bool false)], args := [d1, d2] }
  | _ => none }
def FnExactLeavesOfWrongFalsely : Prop := fnExactLeavesOfRow.holds Try.pinned (OpenSpec.ofChange fnExactLeavesOfWrong)

/-- 'laws.FnExactWalkOf': WHATEVER THE INPUT: true; the input reads as it did. -/
def fnExactWalkOfSpec : ChangeSpec := { name := "fnExactWalkOf", fn := fun _ => fun
  | [d1, d2] => { results := [.lit (.bool true)], args := [d1, d2] }
  | _ => none }
def fnExactWalkOfRow : OpenClaim := { program := "ytkjgibhckcdneaa", sum := "3970b04a201c7370c46a896618c553064c23b6e5fffe316fa43b2f6e6dc0643a", func := "loop.example/g01183/laws.FnExactWalkOf", spec := "fnExactWalkOf", recurses := true, apart := false }
def FnExactWalkOfSaid : Prop := fnExactWalkOfRow.holds Try.pinned (OpenSpec.ofChange fnExactWalkOfSpec)

/-- ITS FALSE NEIGHBOUR: 'it returns false'. Refute it at one input. -/
def fnExactWalkOfWrong : ChangeSpec := { name := "fnExactWalkOf", fn := fun _ => fun
  | [d1, d2] => { results := [.lit (.bool false)], args := [d1, d2] }
  | _ => none }
def FnExactWalkOfWrongFalsely : Prop := fnExactWalkOfRow.holds Try.pinned (OpenSpec.ofChange fnExactWalkOfWrong)

/-- 'laws.FnExactAreAlike': WHATEVER THE INPUT: true; the input reads as it did. -/
def fnExactAreAlikeSpec : ChangeSpec := { name := "fnExactAreAlike", fn := fun _ => fun
  | [d1, d2, d3] => { results := [.lit (.bool true)], args := [d1, d2, d3] }
  | _ => none }
def fnExactAreAlikeRow : OpenClaim := { program := "ytkjgibhckcdneaa", sum := "3970b04a201c7370c46a896618c553064c23b6e5fffe316fa43b2f6e6dc0643a", func := "loop.example/g01183/laws.FnExactAreAlike", spec := "fnExactAreAlike", unfollowed := true, recurses := true, apart := false }
def FnExactAreAlikeSaid : Prop := fnExactAreAlikeRow.holds Try.pinned (OpenSpec.ofChange fnExactAreAlikeSpec)

/-- ITS FALSE NEIGHBOUR: 'it returns false'. Refute it at one input. -/
def fnExactAreAlikeWrong : ChangeSpec := { name := "fnExactAreAlike", fn := fun _ => fun
  | [d1, d2, d3] => { results := [.lit (.bool false)], args := [d1, d2, d3] }
  | _ => none }
def FnExactAreAlikeWrongFalsely : Prop := fnExactAreAlikeRow.holds Try.pinned (OpenSpec.ofChange fnExactAreAlikeWrong)

/-- 'laws.FnExactWrapError': WHATEVER THE INPUT: true; the input reads as it did. -/
def fnExactWrapErrorSpec : ChangeSpec := { name := "fnExactWrapError", fn := fun _ => fun
  | [d1, d2, d3] => { results := [.lit (.bool true)], args := [d1, d2, d3] }
  | _ => none }
def fnExactWrapErrorRow : OpenClaim := { program := "ytkjgibhckcdneaa", sum := "3970b04a201c7370c46a896618c553064c23b6e5fffe316fa43b2f6e6dc0643a", func := "loop.example/g01183/laws.FnExactWrapError", spec := "fnExactWrapError", unfollowed := true, recurses := true, apart := false }
def FnExactWrapErrorSaid : Prop := fnExactWrapErrorRow.holds Try.pinned (OpenSpec.ofChange fnExactWrapErrorSpec)

/-- ITS FALSE NEIGHBOUR: 'it returns false'. Refute it at one input. -/
def fnExactWrapErrorWrong : ChangeSpec := { name := "fnExactWrapError", fn := fun _ => fun
  | [d1, d2, d3] => { results := [.lit (.bool false)], args := [d1, d2, d3] }
  | _ => none }
def FnExactWrapErrorWrongFalsely : Prop := fnExactWrapErrorRow.holds Try.pinned (OpenSpec.ofChange fnExactWrapErrorWrong)

/-- 'laws.FnExactJoinErrors': WHATEVER THE INPUT: true; the input reads as it did. -/
def fnExactJoinErrorsSpec : ChangeSpec := { name := "fnExactJoinErrors", fn := fun _ => fun
  | [d1, d2] => { results := [.lit (.bool true)], args := [d1, d2] }
  | _ => none }
def fnExactJoinErrorsRow : OpenClaim := { program := "ytkjgibhckcdneaa", sum := "3970b04a201c7370c46a896618c553064c23b6e5fffe316fa43b2f6e6dc0643a", func := "loop.example/g01183/laws.FnExactJoinErrors", spec := "fnExactJoinErrors", unfollowed := true, recurses := true, apart := false }
def FnExactJoinErrorsSaid : Prop := fnExactJoinErrorsRow.holds Try.pinned (OpenSpec.ofChange fnExactJoinErrorsSpec)

/-- ITS FALSE NEIGHBOUR: 'it returns false'. Refute it at one input. -/
def fnExactJoinErrorsWrong : ChangeSpec := { name := "fnExactJoinErrors", fn := fun _ => fun
  | [d1, d2] => { results := [.lit (.bool false)], args := [d1, d2] }
  | _ => none }
def FnExactJoinErrorsWrongFalsely : Prop := fnExactJoinErrorsRow.holds Try.pinned (OpenSpec.ofChange fnExactJoinErrorsWrong)

/-- 'laws.FnExactPruneErrors': WHATEVER THE INPUT: true; the input reads as it did. -/
def fnExactPruneErrorsSpec : ChangeSpec := { name := "fnExactPruneErrors", fn := fun _ => fun
  | [d1, d2] => { results := [.lit (.bool true)], args := [d1, d2] }
  | _ => none }
def fnExactPruneErrorsRow : OpenClaim := { program := "ytkjgibhckcdneaa", sum := "3970b04a201c7370c46a896618c553064c23b6e5fffe316fa43b2f6e6dc0643a", func := "loop.example/g01183/laws.FnExactPruneErrors", spec := "fnExactPruneErrors", unfollowed := true, recurses := true, apart := false }
def FnExactPruneErrorsSaid : Prop := fnExactPruneErrorsRow.holds Try.pinned (OpenSpec.ofChange fnExactPruneErrorsSpec)

/-- ITS FALSE NEIGHBOUR: 'it returns false'. Refute it at one input. -/
def fnExactPruneErrorsWrong : ChangeSpec := { name := "fnExactPruneErrors", fn := fun _ => fun
  | [d1, d2] => { results := [.lit (.bool false)], args := [d1, d2] }
  | _ => none }
def FnExactPruneErrorsWrongFalsely : Prop := fnExactPruneErrorsRow.holds Try.pinned (OpenSpec.ofChange fnExactPruneErrorsWrong)

/-- 'laws.FnExactIsError': WHATEVER THE INPUT: true; the input reads as it did. -/
def fnExactIsErrorSpec : ChangeSpec := { name := "fnExactIsError", fn := fun _ => fun
  | [d1, d2, d3] => { results := [.lit (.bool true)], args := [d1, d2, d3] }
  | _ => none }
def fnExactIsErrorRow : OpenClaim := { program := "ytkjgibhckcdneaa", sum := "3970b04a201c7370c46a896618c553064c23b6e5fffe316fa43b2f6e6dc0643a", func := "loop.example/g01183/laws.FnExactIsError", spec := "fnExactIsError", inPlace := ["internal/reflectlite.TypeOf"], unfollowed := true, recurses := true, apart := false }
def FnExactIsErrorSaid : Prop := fnExactIsErrorRow.holds Try.pinned (OpenSpec.ofChange fnExactIsErrorSpec)

/-- ITS FALSE NEIGHBOUR: 'it returns false'. Refute it at one input. -/
def fnExactIsErrorWrong : ChangeSpec := { name := "fnExactIsError", fn := fun _ => fun
  | [d1, d2, d3] => { results := [.lit (.bool false)], args := [d1, d2, d3] }
  | _ => none }
def FnExactIsErrorWrongFalsely : Prop := fnExactIsErrorRow.holds Try.pinned (OpenSpec.ofChange fnExactIsErrorWrong)

/- THE SECOND FORM. 'bulk': how many values and letters a reading holds, each counted each time it is reached (what is shared counts as often as it is met; a slice's spare places count too). A statement '..UptoSaid' is the law's where the arguments, and the package variables that the reading takes, are together of bulk at most 1048576: NARROWER than '..Said'. Prove '..Said' where nothing that the law and all that it calls make is longer than what came in: it says more and counts as full. Else prove '..UptoSaid'. A law counts once. -/
mutual
def uptoBulk {H : Type} : DataW H → Nat
  | .lit (.string bytes) => bytes.length + 1
  | .lit _ => 1
  | .nil => 1
  | .ptr d => uptoBulk d + 1
  | .slice elems spare => uptoBulkAll elems + uptoBulkAll spare + 1
  | .agg parts => uptoBulkAll parts + 1
  | .iface _ d => uptoBulk d + 1
  | .map entries => uptoBulkEntries entries + 1
  | .held _ => 1
def uptoBulkAll {H : Type} : List (DataW H) → Nat
  | [] => 0
  | d :: r => uptoBulk d + uptoBulkAll r
def uptoBulkEntries {H : Type} : List (Lit × DataW H) → Nat
  | [] => 0
  | x :: r => uptoBulkEntry x + uptoBulkEntries r
def uptoBulkEntry {H : Type} : Lit × DataW H → Nat
  | (.string bytes, d) => bytes.length + uptoBulk d + 1
  | (_, d) => uptoBulk d + 1
 end
def uptoSmall : (H : Type) → List (DataW H) → Bool := fun _ ds => decide (uptoBulkAll ds ≤ 1048576)
def OpenSpec.upto (s : _root_.Go.ChangeSpec) : _root_.Go.OpenSpec := { _root_.Go.OpenSpec.ofChange s with cond := some uptoSmall }

/-- 'laws.FnExactAreErrors', WHERE WHAT IT READS IS OF BULK AT MOST 1048576: true; the input reads as it did. -/
def fnExactAreErrorsUptoRow : OpenClaim := { program := "ytkjgibhckcdneaa", sum := "3970b04a201c7370c46a896618c553064c23b6e5fffe316fa43b2f6e6dc0643a", func := "loop.example/g01183/laws.FnExactAreErrors", spec := "fnExactAreErrors", apart := false, narrowed := true }
def FnExactAreErrorsUptoSaid : Prop := fnExactAreErrorsUptoRow.holds Try.pinned (OpenSpec.upto fnExactAreErrorsSpec)

/-- 'laws.FnExactUnwrapError', WHERE WHAT IT READS IS OF BULK AT MOST 1048576: true; the input reads as it did. -/
def fnExactUnwrapErrorUptoRow : OpenClaim := { program := "ytkjgibhckcdneaa", sum := "3970b04a201c7370c46a896618c553064c23b6e5fffe316fa43b2f6e6dc0643a", func := "loop.example/g01183/laws.FnExactUnwrapError", spec := "fnExactUnwrapError", apart := false, narrowed := true }
def FnExactUnwrapErrorUptoSaid : Prop := fnExactUnwrapErrorUptoRow.holds Try.pinned (OpenSpec.upto fnExactUnwrapErrorSpec)

/-- 'laws.FnExactDepthOf', WHERE WHAT IT READS IS OF BULK AT MOST 1048576: true; the input reads as it did. -/
def fnExactDepthOfUptoRow : OpenClaim := { program := "ytkjgibhckcdneaa", sum := "3970b04a201c7370c46a896618c553064c23b6e5fffe316fa43b2f6e6dc0643a", func := "loop.example/g01183/laws.FnExactDepthOf", spec := "fnExactDepthOf", apart := false, narrowed := true }
def FnExactDepthOfUptoSaid : Prop := fnExactDepthOfUptoRow.holds Try.pinned (OpenSpec.upto fnExactDepthOfSpec)

/-- 'laws.FnExactCountWays', WHERE WHAT IT READS IS OF BULK AT MOST 1048576: true; the input reads as it did. -/
def fnExactCountWaysUptoRow : OpenClaim := { program := "ytkjgibhckcdneaa", sum := "3970b04a201c7370c46a896618c553064c23b6e5fffe316fa43b2f6e6dc0643a", func := "loop.example/g01183/laws.FnExactCountWays", spec := "fnExactCountWays", apart := false, narrowed := true }
def FnExactCountWaysUptoSaid : Prop := fnExactCountWaysUptoRow.holds Try.pinned (OpenSpec.upto fnExactCountWaysSpec)

/-- 'laws.FnExactLeavesOf', WHERE WHAT IT READS IS OF BULK AT MOST 1048576: true; the input reads as it did. -/
def fnExactLeavesOfUptoRow : OpenClaim := { program := "ytkjgibhckcdneaa", sum := "3970b04a201c7370c46a896618c553064c23b6e5fffe316fa43b2f6e6dc0643a", func := "loop.example/g01183/laws.FnExactLeavesOf", spec := "fnExactLeavesOf", apart := false, narrowed := true }
def FnExactLeavesOfUptoSaid : Prop := fnExactLeavesOfUptoRow.holds Try.pinned (OpenSpec.upto fnExactLeavesOfSpec)

/-- 'laws.FnExactWalkOf', WHERE WHAT IT READS IS OF BULK AT MOST 1048576: true; the input reads as it did. -/
def fnExactWalkOfUptoRow : OpenClaim := { program := "ytkjgibhckcdneaa", sum := "3970b04a201c7370c46a896618c553064c23b6e5fffe316fa43b2f6e6dc0643a", func := "loop.example/g01183/laws.FnExactWalkOf", spec := "fnExactWalkOf", recurses := true, apart := false, narrowed := true }
def FnExactWalkOfUptoSaid : Prop := fnExactWalkOfUptoRow.holds Try.pinned (OpenSpec.upto fnExactWalkOfSpec)

/-- 'laws.FnExactAreAlike', WHERE WHAT IT READS IS OF BULK AT MOST 1048576: true; the input reads as it did. -/
def fnExactAreAlikeUptoRow : OpenClaim := { program := "ytkjgibhckcdneaa", sum := "3970b04a201c7370c46a896618c553064c23b6e5fffe316fa43b2f6e6dc0643a", func := "loop.example/g01183/laws.FnExactAreAlike", spec := "fnExactAreAlike", unfollowed := true, recurses := true, apart := false, narrowed := true }
def FnExactAreAlikeUptoSaid : Prop := fnExactAreAlikeUptoRow.holds Try.pinned (OpenSpec.upto fnExactAreAlikeSpec)

/-- 'laws.FnExactWrapError', WHERE WHAT IT READS IS OF BULK AT MOST 1048576: true; the input reads as it did. -/
def fnExactWrapErrorUptoRow : OpenClaim := { program := "ytkjgibhckcdneaa", sum := "3970b04a201c7370c46a896618c553064c23b6e5fffe316fa43b2f6e6dc0643a", func := "loop.example/g01183/laws.FnExactWrapError", spec := "fnExactWrapError", unfollowed := true, recurses := true, apart := false, narrowed := true }
def FnExactWrapErrorUptoSaid : Prop := fnExactWrapErrorUptoRow.holds Try.pinned (OpenSpec.upto fnExactWrapErrorSpec)

/-- 'laws.FnExactJoinErrors', WHERE WHAT IT READS IS OF BULK AT MOST 1048576: true; the input reads as it did. -/
def fnExactJoinErrorsUptoRow : OpenClaim := { program := "ytkjgibhckcdneaa", sum := "3970b04a201c7370c46a896618c553064c23b6e5fffe316fa43b2f6e6dc0643a", func := "loop.example/g01183/laws.FnExactJoinErrors", spec := "fnExactJoinErrors", unfollowed := true, recurses := true, apart := false, narrowed := true }
def FnExactJoinErrorsUptoSaid : Prop := fnExactJoinErrorsUptoRow.holds Try.pinned (OpenSpec.upto fnExactJoinErrorsSpec)

/-- 'laws.FnExactPruneErrors', WHERE WHAT IT READS IS OF BULK AT MOST 1048576: true; the input reads as it did. -/
def fnExactPruneErrorsUptoRow : OpenClaim := { program := "ytkjgibhckcdneaa", sum := "3970b04a201c7370c46a896618c553064c23b6e5fffe316fa43b2f6e6dc0643a", func := "loop.example/g01183/laws.FnExactPruneErrors", spec := "fnExactPruneErrors", unfollowed := true, recurses := true, apart := false, narrowed := true }
def FnExactPruneErrorsUptoSaid : Prop := fnExactPruneErrorsUptoRow.holds Try.pinned (OpenSpec.upto fnExactPruneErrorsSpec)

/-- 'laws.FnExactIsError', WHERE WHAT IT READS IS OF BULK AT MOST 1048576: true; the input reads as it did. -/
def fnExactIsErrorUptoRow : OpenClaim := { program := "ytkjgibhckcdneaa", sum := "3970b04a201c7370c46a896618c553064c23b6e5fffe316fa43b2f6e6dc0643a", func := "loop.example/g01183/laws.FnExactIsError", spec := "fnExactIsError", inPlace := ["internal/reflectlite.TypeOf"], unfollowed := true, recurses := true, apart := false, narrowed := true }
def FnExactIsErrorUptoSaid : Prop := fnExactIsErrorUptoRow.holds Try.pinned (OpenSpec.upto fnExactIsErrorSpec)

end Rows
end Go.Proofs.Ytkjgibhckcdneaa
