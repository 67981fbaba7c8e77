/-
  No cell of these rows narrows 'for every input' (looked for: loops, veiled, ifaces, maps, wideKeys, modest, calm, conditions, laid).
  DERIVED. THE GIVEN ROWS OF THIS SEAT. 11 by the template 'for every input the law returns true; each argument reads behind the call as it read before'; 0 by the template 'total and deterministic' (their statements: YtgfjdfmmkomolaaTotals.lean).
  GIVEN WITH THE SEED: the statements are not yours to turn. If you find one false, say at which input.
  Laid BY PROGRAM, IN A SANDBOX (cutbox-rows.mjs): the forced cells as the released guide's own fill.sh prints them over the translation fff159e69bc27abc… (all of the seat's roots in one cut). By AI agents, Wed Nov 11 2026. No macro, syntax, notation, axiom, sorry.
-/
import Derived.Test.YtgfjdfmmkomolaaChecked
import GoSem.Claim
import GoSem.ClaimJoined
import GoSem.ClaimMapViews
import Derived.JoinedTies
import Derived.KernelRfl
namespace Go.Proofs.Ytgfjdfmmkomolaa
/- THE CELL 'sum', in the pinned program and in every row, IS THE sha256 OF THE DUMP (.gsa) THAT YtgfjdfmmkomolaaProg.lean LOADS. Nothing in Lean hashes anything: it is a label: what it is worth is what the hold of that sum in a sandbox is worth. -/
noncomputable def Try.pinned : Pinned := { name := "ytgfjdfmmkomolaa", sum := "fff159e69bc27abcebad2e031fd8385dca9e8c5d9257096fbf97f4e962e8f47b", checked := Try.checked }
namespace Rows
def none {H : Type} : Left H := { results := [], args := [] }

/-- 'laws.FnExactPutStep': WHATEVER THE INPUT: true; the input reads as it did. -/
def fnExactPutStepSpec : ChangeSpec := { name := "fnExactPutStep", fn := fun _ => fun
  | [d1, d2, d3, d4] => { results := [.lit (.bool true)], args := [d1, d2, d3, d4] }
  | _ => none }
def fnExactPutStepRow : OpenClaim := { program := "ytgfjdfmmkomolaa", sum := "fff159e69bc27abcebad2e031fd8385dca9e8c5d9257096fbf97f4e962e8f47b", func := "loop.example/g01183/laws.FnExactPutStep", spec := "fnExactPutStep", inPlace := ["slices.overlaps[loop.example/g01183/impl.Step]"], apart := false }
def FnExactPutStepSaid : Prop := fnExactPutStepRow.holds Try.pinned (OpenSpec.ofChange fnExactPutStepSpec)

/-- ITS FALSE NEIGHBOUR: 'it returns false'. Refute it at one input. -/
def fnExactPutStepWrong : ChangeSpec := { name := "fnExactPutStep", fn := fun _ => fun
  | [d1, d2, d3, d4] => { results := [.lit (.bool false)], args := [d1, d2, d3, d4] }
  | _ => none }
def FnExactPutStepWrongFalsely : Prop := fnExactPutStepRow.holds Try.pinned (OpenSpec.ofChange fnExactPutStepWrong)

/-- 'laws.FnExactDropStep': WHATEVER THE INPUT: true; the input reads as it did. -/
def fnExactDropStepSpec : ChangeSpec := { name := "fnExactDropStep", fn := fun _ => fun
  | [d1, d2, d3] => { results := [.lit (.bool true)], args := [d1, d2, d3] }
  | _ => none }
def fnExactDropStepRow : OpenClaim := { program := "ytgfjdfmmkomolaa", sum := "fff159e69bc27abcebad2e031fd8385dca9e8c5d9257096fbf97f4e962e8f47b", func := "loop.example/g01183/laws.FnExactDropStep", spec := "fnExactDropStep", apart := false }
def FnExactDropStepSaid : Prop := fnExactDropStepRow.holds Try.pinned (OpenSpec.ofChange fnExactDropStepSpec)

/-- ITS FALSE NEIGHBOUR: 'it returns false'. Refute it at one input. -/
def fnExactDropStepWrong : ChangeSpec := { name := "fnExactDropStep", fn := fun _ => fun
  | [d1, d2, d3] => { results := [.lit (.bool false)], args := [d1, d2, d3] }
  | _ => none }
def FnExactDropStepWrongFalsely : Prop := fnExactDropStepRow.holds Try.pinned (OpenSpec.ofChange fnExactDropStepWrong)

/-- 'laws.FnExactCalledBy': WHATEVER THE INPUT: true; the input reads as it did. -/
def fnExactCalledBySpec : ChangeSpec := { name := "fnExactCalledBy", fn := fun _ => fun
  | [d1, d2] => { results := [.lit (.bool true)], args := [d1, d2] }
  | _ => none }
def fnExactCalledByRow : OpenClaim := { program := "ytgfjdfmmkomolaa", sum := "fff159e69bc27abcebad2e031fd8385dca9e8c5d9257096fbf97f4e962e8f47b", func := "loop.example/g01183/laws.FnExactCalledBy", spec := "fnExactCalledBy", recurses := true, apart := false }
def FnExactCalledBySaid : Prop := fnExactCalledByRow.holds Try.pinned (OpenSpec.ofChange fnExactCalledBySpec)

/-- ITS FALSE NEIGHBOUR: 'it returns false'. Refute it at one input. -/
def fnExactCalledByWrong : ChangeSpec := { name := "fnExactCalledBy", fn := fun _ => fun
  | [d1, d2] => { results := [.lit (.bool false)], args := [d1, d2] }
  | _ => none }
def FnExactCalledByWrongFalsely : Prop := fnExactCalledByRow.holds Try.pinned (OpenSpec.ofChange fnExactCalledByWrong)

/-- 'laws.FnExactReachedFrom': WHATEVER THE INPUT: true; the input reads as it did. -/
def fnExactReachedFromSpec : ChangeSpec := { name := "fnExactReachedFrom", fn := fun _ => fun
  | [d1, d2] => { results := [.lit (.bool true)], args := [d1, d2] }
  | _ => none }
def fnExactReachedFromRow : OpenClaim := { program := "ytgfjdfmmkomolaa", sum := "fff159e69bc27abcebad2e031fd8385dca9e8c5d9257096fbf97f4e962e8f47b", func := "loop.example/g01183/laws.FnExactReachedFrom", spec := "fnExactReachedFrom", recurses := true, apart := false }
def FnExactReachedFromSaid : Prop := fnExactReachedFromRow.holds Try.pinned (OpenSpec.ofChange fnExactReachedFromSpec)

/-- ITS FALSE NEIGHBOUR: 'it returns false'. Refute it at one input. -/
def fnExactReachedFromWrong : ChangeSpec := { name := "fnExactReachedFrom", fn := fun _ => fun
  | [d1, d2] => { results := [.lit (.bool false)], args := [d1, d2] }
  | _ => none }
def FnExactReachedFromWrongFalsely : Prop := fnExactReachedFromRow.holds Try.pinned (OpenSpec.ofChange fnExactReachedFromWrong)

/-- 'laws.FnExactWithDefer': WHATEVER THE INPUT: true; the input reads as it did. -/
def fnExactWithDeferSpec : ChangeSpec := { name := "fnExactWithDefer", fn := fun _ => fun
  | [d1, d2, d3, d4] => { results := [.lit (.bool true)], args := [d1, d2, d3, d4] }
  | _ => none }
def fnExactWithDeferRow : OpenClaim := { program := "ytgfjdfmmkomolaa", sum := "fff159e69bc27abcebad2e031fd8385dca9e8c5d9257096fbf97f4e962e8f47b", func := "loop.example/g01183/laws.FnExactWithDefer", spec := "fnExactWithDefer", inPlace := ["slices.overlaps[loop.example/g01183/impl.Step]"], apart := false }
def FnExactWithDeferSaid : Prop := fnExactWithDeferRow.holds Try.pinned (OpenSpec.ofChange fnExactWithDeferSpec)

/-- ITS FALSE NEIGHBOUR: 'it returns false'. Refute it at one input. -/
def fnExactWithDeferWrong : ChangeSpec := { name := "fnExactWithDefer", fn := fun _ => fun
  | [d1, d2, d3, d4] => { results := [.lit (.bool false)], args := [d1, d2, d3, d4] }
  | _ => none }
def FnExactWithDeferWrongFalsely : Prop := fnExactWithDeferRow.holds Try.pinned (OpenSpec.ofChange fnExactWithDeferWrong)

/-- 'laws.FnExactDeferCalls': WHATEVER THE INPUT: true; the input reads as it did. -/
def fnExactDeferCallsSpec : ChangeSpec := { name := "fnExactDeferCalls", fn := fun _ => fun
  | [d1, d2] => { results := [.lit (.bool true)], args := [d1, d2] }
  | _ => none }
def fnExactDeferCallsRow : OpenClaim := { program := "ytgfjdfmmkomolaa", sum := "fff159e69bc27abcebad2e031fd8385dca9e8c5d9257096fbf97f4e962e8f47b", func := "loop.example/g01183/laws.FnExactDeferCalls", spec := "fnExactDeferCalls", apart := false }
def FnExactDeferCallsSaid : Prop := fnExactDeferCallsRow.holds Try.pinned (OpenSpec.ofChange fnExactDeferCallsSpec)

/-- ITS FALSE NEIGHBOUR: 'it returns false'. Refute it at one input. -/
def fnExactDeferCallsWrong : ChangeSpec := { name := "fnExactDeferCalls", fn := fun _ => fun
  | [d1, d2] => { results := [.lit (.bool false)], args := [d1, d2] }
  | _ => none }
def FnExactDeferCallsWrongFalsely : Prop := fnExactDeferCallsRow.holds Try.pinned (OpenSpec.ofChange fnExactDeferCallsWrong)

/-- 'laws.FnExactStackProgram': WHATEVER THE INPUT: true; the input reads as it did. -/
def fnExactStackProgramSpec : ChangeSpec := { name := "fnExactStackProgram", fn := fun _ => fun
  | [] => { results := [.lit (.bool true)], args := [] }
  | _ => none }
def fnExactStackProgramRow : OpenClaim := { program := "ytgfjdfmmkomolaa", sum := "fff159e69bc27abcebad2e031fd8385dca9e8c5d9257096fbf97f4e962e8f47b", func := "loop.example/g01183/laws.FnExactStackProgram", spec := "fnExactStackProgram", apart := false }
def FnExactStackProgramSaid : Prop := fnExactStackProgramRow.holds Try.pinned (OpenSpec.ofChange fnExactStackProgramSpec)

/-- ITS FALSE NEIGHBOUR: 'it returns false'. Refute it at one input. -/
def fnExactStackProgramWrong : ChangeSpec := { name := "fnExactStackProgram", fn := fun _ => fun
  | [] => { results := [.lit (.bool false)], args := [] }
  | _ => none }
def FnExactStackProgramWrongFalsely : Prop := fnExactStackProgramRow.holds Try.pinned (OpenSpec.ofChange fnExactStackProgramWrong)

/-- 'laws.FnExactRunProgram': WHATEVER THE INPUT: true; the input reads as it did. -/
def fnExactRunProgramSpec : ChangeSpec := { name := "fnExactRunProgram", fn := fun _ => fun
  | [d1, d2, d3, d4] => { results := [.lit (.bool true)], args := [d1, d2, d3, d4] }
  | _ => none }
def fnExactRunProgramRow : OpenClaim := { program := "ytgfjdfmmkomolaa", sum := "fff159e69bc27abcebad2e031fd8385dca9e8c5d9257096fbf97f4e962e8f47b", func := "loop.example/g01183/laws.FnExactRunProgram", spec := "fnExactRunProgram", unfollowed := true, recurses := true, apart := false }
def FnExactRunProgramSaid : Prop := fnExactRunProgramRow.holds Try.pinned (OpenSpec.ofChange fnExactRunProgramSpec)

/-- ITS FALSE NEIGHBOUR: 'it returns false'. Refute it at one input. -/
def fnExactRunProgramWrong : ChangeSpec := { name := "fnExactRunProgram", fn := fun _ => fun
  | [d1, d2, d3, d4] => { results := [.lit (.bool false)], args := [d1, d2, d3, d4] }
  | _ => none }
def FnExactRunProgramWrongFalsely : Prop := fnExactRunProgramRow.holds Try.pinned (OpenSpec.ofChange fnExactRunProgramWrong)

/-- 'laws.FnExactSaidNumbers': WHATEVER THE INPUT: true; the input reads as it did. -/
def fnExactSaidNumbersSpec : ChangeSpec := { name := "fnExactSaidNumbers", fn := fun _ => fun
  | [d1, d2, d3, d4] => { results := [.lit (.bool true)], args := [d1, d2, d3, d4] }
  | _ => none }
def fnExactSaidNumbersRow : OpenClaim := { program := "ytgfjdfmmkomolaa", sum := "fff159e69bc27abcebad2e031fd8385dca9e8c5d9257096fbf97f4e962e8f47b", func := "loop.example/g01183/laws.FnExactSaidNumbers", spec := "fnExactSaidNumbers", unfollowed := true, recurses := true, apart := false }
def FnExactSaidNumbersSaid : Prop := fnExactSaidNumbersRow.holds Try.pinned (OpenSpec.ofChange fnExactSaidNumbersSpec)

/-- ITS FALSE NEIGHBOUR: 'it returns false'. Refute it at one input. -/
def fnExactSaidNumbersWrong : ChangeSpec := { name := "fnExactSaidNumbers", fn := fun _ => fun
  | [d1, d2, d3, d4] => { results := [.lit (.bool false)], args := [d1, d2, d3, d4] }
  | _ => none }
def FnExactSaidNumbersWrongFalsely : Prop := fnExactSaidNumbersRow.holds Try.pinned (OpenSpec.ofChange fnExactSaidNumbersWrong)

/-- 'laws.FnExactFuelOf': WHATEVER THE INPUT: true; the input reads as it did. -/
def fnExactFuelOfSpec : ChangeSpec := { name := "fnExactFuelOf", fn := fun _ => fun
  | [d1, d2, d3] => { results := [.lit (.bool true)], args := [d1, d2, d3] }
  | _ => none }
def fnExactFuelOfRow : OpenClaim := { program := "ytgfjdfmmkomolaa", sum := "fff159e69bc27abcebad2e031fd8385dca9e8c5d9257096fbf97f4e962e8f47b", func := "loop.example/g01183/laws.FnExactFuelOf", spec := "fnExactFuelOf", unfollowed := true, recurses := true, apart := false }
def FnExactFuelOfSaid : Prop := fnExactFuelOfRow.holds Try.pinned (OpenSpec.ofChange fnExactFuelOfSpec)

/-- ITS FALSE NEIGHBOUR: 'it returns false'. Refute it at one input. -/
def fnExactFuelOfWrong : ChangeSpec := { name := "fnExactFuelOf", fn := fun _ => fun
  | [d1, d2, d3] => { results := [.lit (.bool false)], args := [d1, d2, d3] }
  | _ => none }
def FnExactFuelOfWrongFalsely : Prop := fnExactFuelOfRow.holds Try.pinned (OpenSpec.ofChange fnExactFuelOfWrong)

/-- 'laws.FnExactDeepestCall': WHATEVER THE INPUT: true; the input reads as it did. -/
def fnExactDeepestCallSpec : ChangeSpec := { name := "fnExactDeepestCall", fn := fun _ => fun
  | [d1, d2, d3, d4] => { results := [.lit (.bool true)], args := [d1, d2, d3, d4] }
  | _ => none }
def fnExactDeepestCallRow : OpenClaim := { program := "ytgfjdfmmkomolaa", sum := "fff159e69bc27abcebad2e031fd8385dca9e8c5d9257096fbf97f4e962e8f47b", func := "loop.example/g01183/laws.FnExactDeepestCall", spec := "fnExactDeepestCall", unfollowed := true, recurses := true, apart := false }
def FnExactDeepestCallSaid : Prop := fnExactDeepestCallRow.holds Try.pinned (OpenSpec.ofChange fnExactDeepestCallSpec)

/-- ITS FALSE NEIGHBOUR: 'it returns false'. Refute it at one input. -/
def fnExactDeepestCallWrong : ChangeSpec := { name := "fnExactDeepestCall", fn := fun _ => fun
  | [d1, d2, d3, d4] => { results := [.lit (.bool false)], args := [d1, d2, d3, d4] }
  | _ => none }
def FnExactDeepestCallWrongFalsely : Prop := fnExactDeepestCallRow.holds Try.pinned (OpenSpec.ofChange fnExactDeepestCallWrong)

/- THE SECOND FORM. 'bulk': how many values and letters a reading holds, each counted each time it is reached (what is shared counts as often as it is met; a slice's spare places count too). A statement '..UptoSaid' is the law's where the arguments, and the package variables that the reading takes, are together of bulk at most 1048576: NARROWER than '..Said'. Prove '..Said' where nothing that the law and all that it calls make is longer than what came in: it says more and counts as full. Else prove '..UptoSaid'. A law counts once. -/
mutual
def uptoBulk {H : Type} : DataW H → Nat
  | .lit (.string bytes) => bytes.length + 1
  | .lit _ => 1
  | .nil => 1
  | .ptr d => uptoBulk d + 1
  | .slice elems spare => uptoBulkAll elems + uptoBulkAll spare + 1
  | .agg parts => uptoBulkAll parts + 1
  | .iface _ d => uptoBulk d + 1
  | .map entries => uptoBulkEntries entries + 1
  | .held _ => 1
def uptoBulkAll {H : Type} : List (DataW H) → Nat
  | [] => 0
  | d :: r => uptoBulk d + uptoBulkAll r
def uptoBulkEntries {H : Type} : List (Lit × DataW H) → Nat
  | [] => 0
  | x :: r => uptoBulkEntry x + uptoBulkEntries r
def uptoBulkEntry {H : Type} : Lit × DataW H → Nat
  | (.string bytes, d) => bytes.length + uptoBulk d + 1
  | (_, d) => uptoBulk d + 1
 end
def uptoSmall : (H : Type) → List (DataW H) → Bool := fun _ ds => decide (uptoBulkAll ds ≤ 1048576)
def OpenSpec.upto (s : _root_.Go.ChangeSpec) : _root_.Go.OpenSpec := { _root_.Go.OpenSpec.ofChange s with cond := some uptoSmall }

/-- 'laws.FnExactPutStep', WHERE WHAT IT READS IS OF BULK AT MOST 1048576: true; the input reads as it did. -/
def fnExactPutStepUptoRow : OpenClaim := { program := "ytgfjdfmmkomolaa", sum := "fff159e69bc27abcebad2e031fd8385dca9e8c5d9257096fbf97f4e962e8f47b", func := "loop.example/g01183/laws.FnExactPutStep", spec := "fnExactPutStep", inPlace := ["slices.overlaps[loop.example/g01183/impl.Step]"], apart := false, narrowed := true }
def FnExactPutStepUptoSaid : Prop := fnExactPutStepUptoRow.holds Try.pinned (OpenSpec.upto fnExactPutStepSpec)

/-- 'laws.FnExactDropStep', WHERE WHAT IT READS IS OF BULK AT MOST 1048576: true; the input reads as it did. -/
def fnExactDropStepUptoRow : OpenClaim := { program := "ytgfjdfmmkomolaa", sum := "fff159e69bc27abcebad2e031fd8385dca9e8c5d9257096fbf97f4e962e8f47b", func := "loop.example/g01183/laws.FnExactDropStep", spec := "fnExactDropStep", apart := false, narrowed := true }
def FnExactDropStepUptoSaid : Prop := fnExactDropStepUptoRow.holds Try.pinned (OpenSpec.upto fnExactDropStepSpec)

/-- 'laws.FnExactCalledBy', WHERE WHAT IT READS IS OF BULK AT MOST 1048576: true; the input reads as it did. -/
def fnExactCalledByUptoRow : OpenClaim := { program := "ytgfjdfmmkomolaa", sum := "fff159e69bc27abcebad2e031fd8385dca9e8c5d9257096fbf97f4e962e8f47b", func := "loop.example/g01183/laws.FnExactCalledBy", spec := "fnExactCalledBy", recurses := true, apart := false, narrowed := true }
def FnExactCalledByUptoSaid : Prop := fnExactCalledByUptoRow.holds Try.pinned (OpenSpec.upto fnExactCalledBySpec)

/-- 'laws.FnExactReachedFrom', WHERE WHAT IT READS IS OF BULK AT MOST 1048576: true; the input reads as it did. -/
def fnExactReachedFromUptoRow : OpenClaim := { program := "ytgfjdfmmkomolaa", sum := "fff159e69bc27abcebad2e031fd8385dca9e8c5d9257096fbf97f4e962e8f47b", func := "loop.example/g01183/laws.FnExactReachedFrom", spec := "fnExactReachedFrom", recurses := true, apart := false, narrowed := true }
def FnExactReachedFromUptoSaid : Prop := fnExactReachedFromUptoRow.holds Try.pinned (OpenSpec.upto fnExactReachedFromSpec)

/-- 'laws.FnExactWithDefer', WHERE WHAT IT READS IS OF BULK AT MOST 1048576: true; the input reads as it did. -/
def fnExactWithDeferUptoRow : OpenClaim := { program := "ytgfjdfmmkomolaa", sum := "fff159e69bc27abcebad2e031fd8385dca9e8c5d9257096fbf97f4e962e8f47b", func := "loop.example/g01183/laws.FnExactWithDefer", spec := "fnExactWithDefer", inPlace := ["slices.overlaps[loop.example/g01183/impl.Step]"], apart := false, narrowed := true }
def FnExactWithDeferUptoSaid : Prop := fnExactWithDeferUptoRow.holds Try.pinned (OpenSpec.upto fnExactWithDeferSpec)

/-- 'laws.FnExactDeferCalls', WHERE WHAT IT READS IS OF BULK AT MOST 1048576: true; the input reads as it did. -/
def fnExactDeferCallsUptoRow : OpenClaim := { program := "ytgfjdfmmkomolaa", sum := "fff159e69bc27abcebad2e031fd8385dca9e8c5d9257096fbf97f4e962e8f47b", func := "loop.example/g01183/laws.FnExactDeferCalls", spec := "fnExactDeferCalls", apart := false, narrowed := true }
def FnExactDeferCallsUptoSaid : Prop := fnExactDeferCallsUptoRow.holds Try.pinned (OpenSpec.upto fnExactDeferCallsSpec)

/-- 'laws.FnExactStackProgram', WHERE WHAT IT READS IS OF BULK AT MOST 1048576: true; the input reads as it did. -/
def fnExactStackProgramUptoRow : OpenClaim := { program := "ytgfjdfmmkomolaa", sum := "fff159e69bc27abcebad2e031fd8385dca9e8c5d9257096fbf97f4e962e8f47b", func := "loop.example/g01183/laws.FnExactStackProgram", spec := "fnExactStackProgram", apart := false, narrowed := true }
def FnExactStackProgramUptoSaid : Prop := fnExactStackProgramUptoRow.holds Try.pinned (OpenSpec.upto fnExactStackProgramSpec)

/-- 'laws.FnExactRunProgram', WHERE WHAT IT READS IS OF BULK AT MOST 1048576: true; the input reads as it did. -/
def fnExactRunProgramUptoRow : OpenClaim := { program := "ytgfjdfmmkomolaa", sum := "fff159e69bc27abcebad2e031fd8385dca9e8c5d9257096fbf97f4e962e8f47b", func := "loop.example/g01183/laws.FnExactRunProgram", spec := "fnExactRunProgram", unfollowed := true, recurses := true, apart := false, narrowed := true }
def FnExactRunProgramUptoSaid : Prop := fnExactRunProgramUptoRow.holds Try.pinned (OpenSpec.upto fnExactRunProgramSpec)

/-- 'laws.FnExactSaidNumbers', WHERE WHAT IT READS IS OF BULK AT MOST 1048576: true; the input reads as it did. -/
def fnExactSaidNumbersUptoRow : OpenClaim := { program := "ytgfjdfmmkomolaa", sum := "fff159e69bc27abcebad2e031fd8385dca9e8c5d9257096fbf97f4e962e8f47b", func := "loop.example/g01183/laws.FnExactSaidNumbers", spec := "fnExactSaidNumbers", unfollowed := true, recurses := true, apart := false, narrowed := true }
def FnExactSaidNumbersUptoSaid : Prop := fnExactSaidNumbersUptoRow.holds Try.pinned (OpenSpec.upto fnExactSaidNumbersSpec)

/-- 'laws.FnExactFuelOf', WHERE WHAT IT READS IS OF BULK AT MOST 1048576: true; the input reads as it did. -/
def fnExactFuelOfUptoRow : OpenClaim := { program := "ytgfjdfmmkomolaa", sum := "fff159e69bc27abcebad2e031fd8385dca9e8c5d9257096fbf97f4e962e8f47b", func := "loop.example/g01183/laws.FnExactFuelOf", spec := "fnExactFuelOf", unfollowed := true, recurses := true, apart := false, narrowed := true }
def FnExactFuelOfUptoSaid : Prop := fnExactFuelOfUptoRow.holds Try.pinned (OpenSpec.upto fnExactFuelOfSpec)

/-- 'laws.FnExactDeepestCall', WHERE WHAT IT READS IS OF BULK AT MOST 1048576: true; the input reads as it did. -/
def fnExactDeepestCallUptoRow : OpenClaim := { program := "ytgfjdfmmkomolaa", sum := "fff159e69bc27abcebad2e031fd8385dca9e8c5d9257096fbf97f4e962e8f47b", func := "loop.example/g01183/laws.FnExactDeepestCall", spec := "fnExactDeepestCall", unfollowed := true, recurses := true, apart := false, narrowed := true }
def FnExactDeepestCallUptoSaid : Prop := fnExactDeepestCallUptoRow.holds Try.pinned (OpenSpec.upto fnExactDeepestCallSpec)

end Rows
end Go.Proofs.Ytgfjdfmmkomolaa
