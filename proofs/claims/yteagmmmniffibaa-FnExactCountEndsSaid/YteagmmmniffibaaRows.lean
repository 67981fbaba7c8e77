/-
  No cell of these rows narrows 'for every input' (looked for: loops, veiled, ifaces, maps, wideKeys, modest, calm, conditions, laid).
  DERIVED. THE GIVEN ROWS OF THIS SEAT. 11 by the template 'for every input the law returns true; each argument reads behind the call as it read before'; 0 by the template 'total and deterministic' (their statements: YteagmmmniffibaaTotals.lean).
  GIVEN WITH THE SEED: the statements are not yours to turn. If you find one false, say at which input.
  Laid BY PROGRAM, IN A SANDBOX (cutbox-rows.mjs): the forced cells as the released guide's own fill.sh prints them over the translation d7895a83441c012d… (all of the seat's roots in one cut). By AI agents, Wed Nov 11 2026. No macro, syntax, notation, axiom, sorry.
-/
import Derived.Test.YteagmmmniffibaaChecked
import GoSem.Claim
import GoSem.ClaimJoined
import GoSem.ClaimMapViews
import Derived.JoinedTies
import Derived.KernelRfl
namespace Go.Proofs.Yteagmmmniffibaa
/- THE CELL 'sum', in the pinned program and in every row, IS THE sha256 OF THE DUMP (.gsa) THAT YteagmmmniffibaaProg.lean LOADS. Nothing in Lean hashes anything: it is a label: what it is worth is what the hold of that sum in a sandbox is worth. -/
noncomputable def Try.pinned : Pinned := { name := "yteagmmmniffibaa", sum := "d7895a83441c012d557842aa00ac21523b66db52a8a535f14c3501aed3fa9b1d", checked := Try.checked }
namespace Rows
def none {H : Type} : Left H := { results := [], args := [] }

/-- 'laws.FnExactRunProgram': WHATEVER THE INPUT: true; the input reads as it did. -/
def fnExactRunProgramSpec : ChangeSpec := { name := "fnExactRunProgram", fn := fun _ => fun
  | [d1, d2, d3, d4] => { results := [.lit (.bool true)], args := [d1, d2, d3, d4] }
  | _ => none }
def fnExactRunProgramRow : OpenClaim := { program := "yteagmmmniffibaa", sum := "d7895a83441c012d557842aa00ac21523b66db52a8a535f14c3501aed3fa9b1d", func := "loop.example/g01183/laws.FnExactRunProgram", spec := "fnExactRunProgram", unfollowed := true, recurses := true, apart := false }
def FnExactRunProgramSaid : Prop := fnExactRunProgramRow.holds Try.pinned (OpenSpec.ofChange fnExactRunProgramSpec)

/-- ITS FALSE NEIGHBOUR: 'it returns false'. Refute it at one input. -/
def fnExactRunProgramWrong : ChangeSpec := { name := "fnExactRunProgram", fn := fun _ => fun
  | [d1, d2, d3, d4] => { results := [.lit (.bool false)], args := [d1, d2, d3, d4] }
  | _ => none }
def FnExactRunProgramWrongFalsely : Prop := fnExactRunProgramRow.holds Try.pinned (OpenSpec.ofChange fnExactRunProgramWrong)

/-- 'laws.FnExactSaidNumbers': WHATEVER THE INPUT: true; the input reads as it did. -/
def fnExactSaidNumbersSpec : ChangeSpec := { name := "fnExactSaidNumbers", fn := fun _ => fun
  | [d1, d2, d3, d4] => { results := [.lit (.bool true)], args := [d1, d2, d3, d4] }
  | _ => none }
def fnExactSaidNumbersRow : OpenClaim := { program := "yteagmmmniffibaa", sum := "d7895a83441c012d557842aa00ac21523b66db52a8a535f14c3501aed3fa9b1d", func := "loop.example/g01183/laws.FnExactSaidNumbers", spec := "fnExactSaidNumbers", unfollowed := true, recurses := true, apart := false }
def FnExactSaidNumbersSaid : Prop := fnExactSaidNumbersRow.holds Try.pinned (OpenSpec.ofChange fnExactSaidNumbersSpec)

/-- ITS FALSE NEIGHBOUR: 'it returns false'. Refute it at one input. -/
def fnExactSaidNumbersWrong : ChangeSpec := { name := "fnExactSaidNumbers", fn := fun _ => fun
  | [d1, d2, d3, d4] => { results := [.lit (.bool false)], args := [d1, d2, d3, d4] }
  | _ => none }
def FnExactSaidNumbersWrongFalsely : Prop := fnExactSaidNumbersRow.holds Try.pinned (OpenSpec.ofChange fnExactSaidNumbersWrong)

/-- 'laws.FnExactFuelOf': WHATEVER THE INPUT: true; the input reads as it did. -/
def fnExactFuelOfSpec : ChangeSpec := { name := "fnExactFuelOf", fn := fun _ => fun
  | [d1, d2, d3] => { results := [.lit (.bool true)], args := [d1, d2, d3] }
  | _ => none }
def fnExactFuelOfRow : OpenClaim := { program := "yteagmmmniffibaa", sum := "d7895a83441c012d557842aa00ac21523b66db52a8a535f14c3501aed3fa9b1d", func := "loop.example/g01183/laws.FnExactFuelOf", spec := "fnExactFuelOf", unfollowed := true, recurses := true, apart := false }
def FnExactFuelOfSaid : Prop := fnExactFuelOfRow.holds Try.pinned (OpenSpec.ofChange fnExactFuelOfSpec)

/-- ITS FALSE NEIGHBOUR: 'it returns false'. Refute it at one input. -/
def fnExactFuelOfWrong : ChangeSpec := { name := "fnExactFuelOf", fn := fun _ => fun
  | [d1, d2, d3] => { results := [.lit (.bool false)], args := [d1, d2, d3] }
  | _ => none }
def FnExactFuelOfWrongFalsely : Prop := fnExactFuelOfRow.holds Try.pinned (OpenSpec.ofChange fnExactFuelOfWrong)

/-- 'laws.FnExactDeepestCall': WHATEVER THE INPUT: true; the input reads as it did. -/
def fnExactDeepestCallSpec : ChangeSpec := { name := "fnExactDeepestCall", fn := fun _ => fun
  | [d1, d2, d3, d4] => { results := [.lit (.bool true)], args := [d1, d2, d3, d4] }
  | _ => none }
def fnExactDeepestCallRow : OpenClaim := { program := "yteagmmmniffibaa", sum := "d7895a83441c012d557842aa00ac21523b66db52a8a535f14c3501aed3fa9b1d", func := "loop.example/g01183/laws.FnExactDeepestCall", spec := "fnExactDeepestCall", unfollowed := true, recurses := true, apart := false }
def FnExactDeepestCallSaid : Prop := fnExactDeepestCallRow.holds Try.pinned (OpenSpec.ofChange fnExactDeepestCallSpec)

/-- ITS FALSE NEIGHBOUR: 'it returns false'. Refute it at one input. -/
def fnExactDeepestCallWrong : ChangeSpec := { name := "fnExactDeepestCall", fn := fun _ => fun
  | [d1, d2, d3, d4] => { results := [.lit (.bool false)], args := [d1, d2, d3, d4] }
  | _ => none }
def FnExactDeepestCallWrongFalsely : Prop := fnExactDeepestCallRow.holds Try.pinned (OpenSpec.ofChange fnExactDeepestCallWrong)

/-- 'laws.FnExactCallTree': WHATEVER THE INPUT: true; the input reads as it did. -/
def fnExactCallTreeSpec : ChangeSpec := { name := "fnExactCallTree", fn := fun _ => fun
  | [d1, d2, d3, d4] => { results := [.lit (.bool true)], args := [d1, d2, d3, d4] }
  | _ => none }
def fnExactCallTreeRow : OpenClaim := { program := "yteagmmmniffibaa", sum := "d7895a83441c012d557842aa00ac21523b66db52a8a535f14c3501aed3fa9b1d", func := "loop.example/g01183/laws.FnExactCallTree", spec := "fnExactCallTree", unfollowed := true, recurses := true, apart := false }
def FnExactCallTreeSaid : Prop := fnExactCallTreeRow.holds Try.pinned (OpenSpec.ofChange fnExactCallTreeSpec)

/-- ITS FALSE NEIGHBOUR: 'it returns false'. Refute it at one input. -/
def fnExactCallTreeWrong : ChangeSpec := { name := "fnExactCallTree", fn := fun _ => fun
  | [d1, d2, d3, d4] => { results := [.lit (.bool false)], args := [d1, d2, d3, d4] }
  | _ => none }
def FnExactCallTreeWrongFalsely : Prop := fnExactCallTreeRow.holds Try.pinned (OpenSpec.ofChange fnExactCallTreeWrong)

/-- 'laws.FnExactOwnersOf': WHATEVER THE INPUT: true; the input reads as it did. -/
def fnExactOwnersOfSpec : ChangeSpec := { name := "fnExactOwnersOf", fn := fun _ => fun
  | [d1, d2, d3, d4] => { results := [.lit (.bool true)], args := [d1, d2, d3, d4] }
  | _ => none }
def fnExactOwnersOfRow : OpenClaim := { program := "yteagmmmniffibaa", sum := "d7895a83441c012d557842aa00ac21523b66db52a8a535f14c3501aed3fa9b1d", func := "loop.example/g01183/laws.FnExactOwnersOf", spec := "fnExactOwnersOf", unfollowed := true, recurses := true, apart := false }
def FnExactOwnersOfSaid : Prop := fnExactOwnersOfRow.holds Try.pinned (OpenSpec.ofChange fnExactOwnersOfSpec)

/-- ITS FALSE NEIGHBOUR: 'it returns false'. Refute it at one input. -/
def fnExactOwnersOfWrong : ChangeSpec := { name := "fnExactOwnersOf", fn := fun _ => fun
  | [d1, d2, d3, d4] => { results := [.lit (.bool false)], args := [d1, d2, d3, d4] }
  | _ => none }
def FnExactOwnersOfWrongFalsely : Prop := fnExactOwnersOfRow.holds Try.pinned (OpenSpec.ofChange fnExactOwnersOfWrong)

/-- 'laws.FnExactDeferredBy': WHATEVER THE INPUT: true; the input reads as it did. -/
def fnExactDeferredBySpec : ChangeSpec := { name := "fnExactDeferredBy", fn := fun _ => fun
  | [d1, d2, d3, d4, d5] => { results := [.lit (.bool true)], args := [d1, d2, d3, d4, d5] }
  | _ => none }
def fnExactDeferredByRow : OpenClaim := { program := "yteagmmmniffibaa", sum := "d7895a83441c012d557842aa00ac21523b66db52a8a535f14c3501aed3fa9b1d", func := "loop.example/g01183/laws.FnExactDeferredBy", spec := "fnExactDeferredBy", unfollowed := true, recurses := true, apart := false }
def FnExactDeferredBySaid : Prop := fnExactDeferredByRow.holds Try.pinned (OpenSpec.ofChange fnExactDeferredBySpec)

/-- ITS FALSE NEIGHBOUR: 'it returns false'. Refute it at one input. -/
def fnExactDeferredByWrong : ChangeSpec := { name := "fnExactDeferredBy", fn := fun _ => fun
  | [d1, d2, d3, d4, d5] => { results := [.lit (.bool false)], args := [d1, d2, d3, d4, d5] }
  | _ => none }
def FnExactDeferredByWrongFalsely : Prop := fnExactDeferredByRow.holds Try.pinned (OpenSpec.ofChange fnExactDeferredByWrong)

/-- 'laws.FnExactRunBy': WHATEVER THE INPUT: true; the input reads as it did. -/
def fnExactRunBySpec : ChangeSpec := { name := "fnExactRunBy", fn := fun _ => fun
  | [d1, d2, d3, d4, d5] => { results := [.lit (.bool true)], args := [d1, d2, d3, d4, d5] }
  | _ => none }
def fnExactRunByRow : OpenClaim := { program := "yteagmmmniffibaa", sum := "d7895a83441c012d557842aa00ac21523b66db52a8a535f14c3501aed3fa9b1d", func := "loop.example/g01183/laws.FnExactRunBy", spec := "fnExactRunBy", unfollowed := true, recurses := true, apart := false }
def FnExactRunBySaid : Prop := fnExactRunByRow.holds Try.pinned (OpenSpec.ofChange fnExactRunBySpec)

/-- ITS FALSE NEIGHBOUR: 'it returns false'. Refute it at one input. -/
def fnExactRunByWrong : ChangeSpec := { name := "fnExactRunBy", fn := fun _ => fun
  | [d1, d2, d3, d4, d5] => { results := [.lit (.bool false)], args := [d1, d2, d3, d4, d5] }
  | _ => none }
def FnExactRunByWrongFalsely : Prop := fnExactRunByRow.holds Try.pinned (OpenSpec.ofChange fnExactRunByWrong)

/-- 'laws.FnExactCountEnds': WHATEVER THE INPUT: true; the input reads as it did. -/
def fnExactCountEndsSpec : ChangeSpec := { name := "fnExactCountEnds", fn := fun _ => fun
  | [d1, d2, d3, d4] => { results := [.lit (.bool true)], args := [d1, d2, d3, d4] }
  | _ => none }
def fnExactCountEndsRow : OpenClaim := { program := "yteagmmmniffibaa", sum := "d7895a83441c012d557842aa00ac21523b66db52a8a535f14c3501aed3fa9b1d", func := "loop.example/g01183/laws.FnExactCountEnds", spec := "fnExactCountEnds", unfollowed := true, recurses := true, apart := false }
def FnExactCountEndsSaid : Prop := fnExactCountEndsRow.holds Try.pinned (OpenSpec.ofChange fnExactCountEndsSpec)

/-- ITS FALSE NEIGHBOUR: 'it returns false'. Refute it at one input. -/
def fnExactCountEndsWrong : ChangeSpec := { name := "fnExactCountEnds", fn := fun _ => fun
  | [d1, d2, d3, d4] => { results := [.lit (.bool false)], args := [d1, d2, d3, d4] }
  | _ => none }
def FnExactCountEndsWrongFalsely : Prop := fnExactCountEndsRow.holds Try.pinned (OpenSpec.ofChange fnExactCountEndsWrong)

/-- 'laws.FnExactCalledBy': WHATEVER THE INPUT: true; the input reads as it did. -/
def fnExactCalledBySpec : ChangeSpec := { name := "fnExactCalledBy", fn := fun _ => fun
  | [d1, d2] => { results := [.lit (.bool true)], args := [d1, d2] }
  | _ => none }
def fnExactCalledByRow : OpenClaim := { program := "yteagmmmniffibaa", sum := "d7895a83441c012d557842aa00ac21523b66db52a8a535f14c3501aed3fa9b1d", func := "loop.example/g01183/laws.FnExactCalledBy", spec := "fnExactCalledBy", recurses := true, apart := false }
def FnExactCalledBySaid : Prop := fnExactCalledByRow.holds Try.pinned (OpenSpec.ofChange fnExactCalledBySpec)

/-- ITS FALSE NEIGHBOUR: 'it returns false'. Refute it at one input. -/
def fnExactCalledByWrong : ChangeSpec := { name := "fnExactCalledBy", fn := fun _ => fun
  | [d1, d2] => { results := [.lit (.bool false)], args := [d1, d2] }
  | _ => none }
def FnExactCalledByWrongFalsely : Prop := fnExactCalledByRow.holds Try.pinned (OpenSpec.ofChange fnExactCalledByWrong)

/-- 'laws.FnExactReachedFrom': WHATEVER THE INPUT: true; the input reads as it did. -/
def fnExactReachedFromSpec : ChangeSpec := { name := "fnExactReachedFrom", fn := fun _ => fun
  | [d1, d2] => { results := [.lit (.bool true)], args := [d1, d2] }
  | _ => none }
def fnExactReachedFromRow : OpenClaim := { program := "yteagmmmniffibaa", sum := "d7895a83441c012d557842aa00ac21523b66db52a8a535f14c3501aed3fa9b1d", func := "loop.example/g01183/laws.FnExactReachedFrom", spec := "fnExactReachedFrom", recurses := true, apart := false }
def FnExactReachedFromSaid : Prop := fnExactReachedFromRow.holds Try.pinned (OpenSpec.ofChange fnExactReachedFromSpec)

/-- ITS FALSE NEIGHBOUR: 'it returns false'. Refute it at one input. -/
def fnExactReachedFromWrong : ChangeSpec := { name := "fnExactReachedFrom", fn := fun _ => fun
  | [d1, d2] => { results := [.lit (.bool false)], args := [d1, d2] }
  | _ => none }
def FnExactReachedFromWrongFalsely : Prop := fnExactReachedFromRow.holds Try.pinned (OpenSpec.ofChange fnExactReachedFromWrong)

/- THE SECOND FORM. 'bulk': how many values and letters a reading holds, each counted each time it is reached (what is shared counts as often as it is met; a slice's spare places count too). A statement '..UptoSaid' is the law's where the arguments, and the package variables that the reading takes, are together of bulk at most 1048576: NARROWER than '..Said'. Prove '..Said' where nothing that the law and all that it calls make is longer than what came in: it says more and counts as full. Else prove '..UptoSaid'. A law counts once. -/
mutual
def uptoBulk {H : Type} : DataW H → Nat
  | .lit (.string bytes) => bytes.length + 1
  | .lit _ => 1
  | .nil => 1
  | .ptr d => uptoBulk d + 1
  | .slice elems spare => uptoBulkAll elems + uptoBulkAll spare + 1
  | .agg parts => uptoBulkAll parts + 1
  | .iface _ d => uptoBulk d + 1
  | .map entries => uptoBulkEntries entries + 1
  | .held _ => 1
def uptoBulkAll {H : Type} : List (DataW H) → Nat
  | [] => 0
  | d :: r => uptoBulk d + uptoBulkAll r
def uptoBulkEntries {H : Type} : List (Lit × DataW H) → Nat
  | [] => 0
  | x :: r => uptoBulkEntry x + uptoBulkEntries r
def uptoBulkEntry {H : Type} : Lit × DataW H → Nat
  | (.string bytes, d) => bytes.length + uptoBulk d + 1
  | (_, d) => uptoBulk d + 1
 end
def uptoSmall : (H : Type) → List (DataW H) → Bool := fun _ ds => decide (uptoBulkAll ds ≤ 1048576)
def OpenSpec.upto (s : _root_.Go.ChangeSpec) : _root_.Go.OpenSpec := { _root_.Go.OpenSpec.ofChange s with cond := some uptoSmall }

/-- 'laws.FnExactRunProgram', WHERE WHAT IT READS IS OF BULK AT MOST 1048576: true; the input reads as it did. -/
def fnExactRunProgramUptoRow : OpenClaim := { program := "yteagmmmniffibaa", sum := "d7895a83441c012d557842aa00ac21523b66db52a8a535f14c3501aed3fa9b1d", func := "loop.example/g01183/laws.FnExactRunProgram", spec := "fnExactRunProgram", unfollowed := true, recurses := true, apart := false, narrowed := true }
def FnExactRunProgramUptoSaid : Prop := fnExactRunProgramUptoRow.holds Try.pinned (OpenSpec.upto fnExactRunProgramSpec)

/-- 'laws.FnExactSaidNumbers', WHERE WHAT IT READS IS OF BULK AT MOST 1048576: true; the input reads as it did. -/
def fnExactSaidNumbersUptoRow : OpenClaim := { program := "yteagmmmniffibaa", sum := "d7895a83441c012d557842aa00ac21523b66db52a8a535f14c3501aed3fa9b1d", func := "loop.example/g01183/laws.FnExactSaidNumbers", spec := "fnExactSaidNumbers", unfollowed := true, recurses := true, apart := false, narrowed := true }
def FnExactSaidNumbersUptoSaid : Prop := fnExactSaidNumbersUptoRow.holds Try.pinned (OpenSpec.upto fnExactSaidNumbersSpec)

/-- 'laws.FnExactFuelOf', WHERE WHAT IT READS IS OF BULK AT MOST 1048576: true; the input reads as it did. -/
def fnExactFuelOfUptoRow : OpenClaim := { program := "yteagmmmniffibaa", sum := "d7895a83441c012d557842aa00ac21523b66db52a8a535f14c3501aed3fa9b1d", func := "loop.example/g01183/laws.FnExactFuelOf", spec := "fnExactFuelOf", unfollowed := true, recurses := true, apart := false, narrowed := true }
def FnExactFuelOfUptoSaid : Prop := fnExactFuelOfUptoRow.holds Try.pinned (OpenSpec.upto fnExactFuelOfSpec)

/-- 'laws.FnExactDeepestCall', WHERE WHAT IT READS IS OF BULK AT MOST 1048576: true; the input reads as it did. -/
def fnExactDeepestCallUptoRow : OpenClaim := { program := "yteagmmmniffibaa", sum := "d7895a83441c012d557842aa00ac21523b66db52a8a535f14c3501aed3fa9b1d", func := "loop.example/g01183/laws.FnExactDeepestCall", spec := "fnExactDeepestCall", unfollowed := true, recurses := true, apart := false, narrowed := true }
def FnExactDeepestCallUptoSaid : Prop := fnExactDeepestCallUptoRow.holds Try.pinned (OpenSpec.upto fnExactDeepestCallSpec)

/-- 'laws.FnExactCallTree', WHERE WHAT IT READS IS OF BULK AT MOST 1048576: true; the input reads as it did. -/
def fnExactCallTreeUptoRow : OpenClaim := { program := "yteagmmmniffibaa", sum := "d7895a83441c012d557842aa00ac21523b66db52a8a535f14c3501aed3fa9b1d", func := "loop.example/g01183/laws.FnExactCallTree", spec := "fnExactCallTree", unfollowed := true, recurses := true, apart := false, narrowed := true }
def FnExactCallTreeUptoSaid : Prop := fnExactCallTreeUptoRow.holds Try.pinned (OpenSpec.upto fnExactCallTreeSpec)

/-- 'laws.FnExactOwnersOf', WHERE WHAT IT READS IS OF BULK AT MOST 1048576: true; the input reads as it did. -/
def fnExactOwnersOfUptoRow : OpenClaim := { program := "yteagmmmniffibaa", sum := "d7895a83441c012d557842aa00ac21523b66db52a8a535f14c3501aed3fa9b1d", func := "loop.example/g01183/laws.FnExactOwnersOf", spec := "fnExactOwnersOf", unfollowed := true, recurses := true, apart := false, narrowed := true }
def FnExactOwnersOfUptoSaid : Prop := fnExactOwnersOfUptoRow.holds Try.pinned (OpenSpec.upto fnExactOwnersOfSpec)

/-- 'laws.FnExactDeferredBy', WHERE WHAT IT READS IS OF BULK AT MOST 1048576: true; the input reads as it did. -/
def fnExactDeferredByUptoRow : OpenClaim := { program := "yteagmmmniffibaa", sum := "d7895a83441c012d557842aa00ac21523b66db52a8a535f14c3501aed3fa9b1d", func := "loop.example/g01183/laws.FnExactDeferredBy", spec := "fnExactDeferredBy", unfollowed := true, recurses := true, apart := false, narrowed := true }
def FnExactDeferredByUptoSaid : Prop := fnExactDeferredByUptoRow.holds Try.pinned (OpenSpec.upto fnExactDeferredBySpec)

/-- 'laws.FnExactRunBy', WHERE WHAT IT READS IS OF BULK AT MOST 1048576: true; the input reads as it did. -/
def fnExactRunByUptoRow : OpenClaim := { program := "yteagmmmniffibaa", sum := "d7895a83441c012d557842aa00ac21523b66db52a8a535f14c3501aed3fa9b1d", func := "loop.example/g01183/laws.FnExactRunBy", spec := "fnExactRunBy", unfollowed := true, recurses := true, apart := false, narrowed := true }
def FnExactRunByUptoSaid : Prop := fnExactRunByUptoRow.holds Try.pinned (OpenSpec.upto fnExactRunBySpec)

/-- 'laws.FnExactCountEnds', WHERE WHAT IT READS IS OF BULK AT MOST 1048576: true; the input reads as it did. -/
def fnExactCountEndsUptoRow : OpenClaim := { program := "yteagmmmniffibaa", sum := "d7895a83441c012d557842aa00ac21523b66db52a8a535f14c3501aed3fa9b1d", func := "loop.example/g01183/laws.FnExactCountEnds", spec := "fnExactCountEnds", unfollowed := true, recurses := true, apart := false, narrowed := true }
def FnExactCountEndsUptoSaid : Prop := fnExactCountEndsUptoRow.holds Try.pinned (OpenSpec.upto fnExactCountEndsSpec)

/-- 'laws.FnExactCalledBy', WHERE WHAT IT READS IS OF BULK AT MOST 1048576: true; the input reads as it did. -/
def fnExactCalledByUptoRow : OpenClaim := { program := "yteagmmmniffibaa", sum := "d7895a83441c012d557842aa00ac21523b66db52a8a535f14c3501aed3fa9b1d", func := "loop.example/g01183/laws.FnExactCalledBy", spec := "fnExactCalledBy", recurses := true, apart := false, narrowed := true }
def FnExactCalledByUptoSaid : Prop := fnExactCalledByUptoRow.holds Try.pinned (OpenSpec.upto fnExactCalledBySpec)

/-- 'laws.FnExactReachedFrom', WHERE WHAT IT READS IS OF BULK AT MOST 1048576: true; the input reads as it did. -/
def fnExactReachedFromUptoRow : OpenClaim := { program := "yteagmmmniffibaa", sum := "d7895a83441c012d557842aa00ac21523b66db52a8a535f14c3501aed3fa9b1d", func := "loop.example/g01183/laws.FnExactReachedFrom", spec := "fnExactReachedFrom", recurses := true, apart := false, narrowed := true }
def FnExactReachedFromUptoSaid : Prop := fnExactReachedFromUptoRow.holds Try.pinned (OpenSpec.upto fnExactReachedFromSpec)

end Rows
end Go.Proofs.Yteagmmmniffibaa
