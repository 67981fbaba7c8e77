/-
  No cell of these rows narrows 'for every input' (looked for: loops, veiled, ifaces, maps, wideKeys, modest, calm, conditions, laid).
  DERIVED. THE GIVEN ROWS OF THIS SEAT. 6 by the template 'for every input the law returns true; each argument reads behind the call as it read before'; 0 by the template 'total and deterministic' (their statements: YtikdcnlbjpabjabTotals.lean).
  GIVEN WITH THE SEED: the statements are not yours to turn. If you find one false, say at which input.
  Laid BY PROGRAM, IN A SANDBOX (cutbox-rows.mjs): the forced cells as the released guide's own fill.sh prints them over the translation f933aee7bcd45552… (all of the seat's roots in one cut). By AI agents, Wed Nov 11 2026. No macro, syntax, notation, axiom, sorry.
-/
import Derived.Test.YtikdcnlbjpabjabChecked
import GoSem.Claim
import GoSem.ClaimJoined
import GoSem.ClaimMapViews
import Derived.JoinedTies
import Derived.KernelRfl
namespace Go.Proofs.Ytikdcnlbjpabjab
/- THE CELL 'sum', in the pinned program and in every row, IS THE sha256 OF THE DUMP (.gsa) THAT YtikdcnlbjpabjabProg.lean LOADS. Nothing in Lean hashes anything: it is a label: what it is worth is what the hold of that sum in a sandbox is worth. -/
noncomputable def Try.pinned : Pinned := { name := "ytikdcnlbjpabjab", sum := "f933aee7bcd45552e4610e3eec09afd007645c8acff53f1708d16cddcd2fb175", checked := Try.checked }
namespace Rows
def none {H : Type} : Left H := { results := [], args := [] }

/-- 'laws.FnExactLeakingArgs': WHATEVER THE INPUT: true; the input reads as it did. -/
def fnExactLeakingArgsSpec : ChangeSpec := { name := "fnExactLeakingArgs", fn := fun _ => fun
  | [d1, d2, d3, d4, d5] => { results := [.lit (.bool true)], args := [d1, d2, d3, d4, d5] }
  | _ => none }
def fnExactLeakingArgsRow : OpenClaim := { program := "ytikdcnlbjpabjab", sum := "f933aee7bcd45552e4610e3eec09afd007645c8acff53f1708d16cddcd2fb175", func := "loop.example/g01183/laws.FnExactLeakingArgs", spec := "fnExactLeakingArgs", unfollowed := true, recurses := true, apart := false }
def FnExactLeakingArgsSaid : Prop := fnExactLeakingArgsRow.holds Try.pinned (OpenSpec.ofChange fnExactLeakingArgsSpec)

/-- ITS FALSE NEIGHBOUR: 'it returns false'. Refute it at one input. -/
def fnExactLeakingArgsWrong : ChangeSpec := { name := "fnExactLeakingArgs", fn := fun _ => fun
  | [d1, d2, d3, d4, d5] => { results := [.lit (.bool false)], args := [d1, d2, d3, d4, d5] }
  | _ => none }
def FnExactLeakingArgsWrongFalsely : Prop := fnExactLeakingArgsRow.holds Try.pinned (OpenSpec.ofChange fnExactLeakingArgsWrong)

/-- 'laws.FnExactCleanupProgram': WHATEVER THE INPUT: true; the input reads as it did. -/
def fnExactCleanupProgramSpec : ChangeSpec := { name := "fnExactCleanupProgram", fn := fun _ => fun
  | [d1, d2] => { results := [.lit (.bool true)], args := [d1, d2] }
  | _ => none }
def fnExactCleanupProgramRow : OpenClaim := { program := "ytikdcnlbjpabjab", sum := "f933aee7bcd45552e4610e3eec09afd007645c8acff53f1708d16cddcd2fb175", func := "loop.example/g01183/laws.FnExactCleanupProgram", spec := "fnExactCleanupProgram", apart := false }
def FnExactCleanupProgramSaid : Prop := fnExactCleanupProgramRow.holds Try.pinned (OpenSpec.ofChange fnExactCleanupProgramSpec)

/-- ITS FALSE NEIGHBOUR: 'it returns false'. Refute it at one input. -/
def fnExactCleanupProgramWrong : ChangeSpec := { name := "fnExactCleanupProgram", fn := fun _ => fun
  | [d1, d2] => { results := [.lit (.bool false)], args := [d1, d2] }
  | _ => none }
def FnExactCleanupProgramWrongFalsely : Prop := fnExactCleanupProgramRow.holds Try.pinned (OpenSpec.ofChange fnExactCleanupProgramWrong)

/-- 'laws.FnExactCleanupFails': WHATEVER THE INPUT: true; the input reads as it did. -/
def fnExactCleanupFailsSpec : ChangeSpec := { name := "fnExactCleanupFails", fn := fun _ => fun
  | [d1, d2, d3, d4] => { results := [.lit (.bool true)], args := [d1, d2, d3, d4] }
  | _ => none }
def fnExactCleanupFailsRow : OpenClaim := { program := "ytikdcnlbjpabjab", sum := "f933aee7bcd45552e4610e3eec09afd007645c8acff53f1708d16cddcd2fb175", func := "loop.example/g01183/laws.FnExactCleanupFails", spec := "fnExactCleanupFails", unfollowed := true, recurses := true, apart := false }
def FnExactCleanupFailsSaid : Prop := fnExactCleanupFailsRow.holds Try.pinned (OpenSpec.ofChange fnExactCleanupFailsSpec)

/-- ITS FALSE NEIGHBOUR: 'it returns false'. Refute it at one input. -/
def fnExactCleanupFailsWrong : ChangeSpec := { name := "fnExactCleanupFails", fn := fun _ => fun
  | [d1, d2, d3, d4] => { results := [.lit (.bool false)], args := [d1, d2, d3, d4] }
  | _ => none }
def FnExactCleanupFailsWrongFalsely : Prop := fnExactCleanupFailsRow.holds Try.pinned (OpenSpec.ofChange fnExactCleanupFailsWrong)

/-- 'laws.FnExactPanickingArgs': WHATEVER THE INPUT: true; the input reads as it did. -/
def fnExactPanickingArgsSpec : ChangeSpec := { name := "fnExactPanickingArgs", fn := fun _ => fun
  | [d1, d2, d3, d4, d5] => { results := [.lit (.bool true)], args := [d1, d2, d3, d4, d5] }
  | _ => none }
def fnExactPanickingArgsRow : OpenClaim := { program := "ytikdcnlbjpabjab", sum := "f933aee7bcd45552e4610e3eec09afd007645c8acff53f1708d16cddcd2fb175", func := "loop.example/g01183/laws.FnExactPanickingArgs", spec := "fnExactPanickingArgs", unfollowed := true, recurses := true, apart := false }
def FnExactPanickingArgsSaid : Prop := fnExactPanickingArgsRow.holds Try.pinned (OpenSpec.ofChange fnExactPanickingArgsSpec)

/-- ITS FALSE NEIGHBOUR: 'it returns false'. Refute it at one input. -/
def fnExactPanickingArgsWrong : ChangeSpec := { name := "fnExactPanickingArgs", fn := fun _ => fun
  | [d1, d2, d3, d4, d5] => { results := [.lit (.bool false)], args := [d1, d2, d3, d4, d5] }
  | _ => none }
def FnExactPanickingArgsWrongFalsely : Prop := fnExactPanickingArgsRow.holds Try.pinned (OpenSpec.ofChange fnExactPanickingArgsWrong)

/-- 'laws.FnExactPanicValues': WHATEVER THE INPUT: true; the input reads as it did. -/
def fnExactPanicValuesSpec : ChangeSpec := { name := "fnExactPanicValues", fn := fun _ => fun
  | [d1, d2, d3, d4, d5] => { results := [.lit (.bool true)], args := [d1, d2, d3, d4, d5] }
  | _ => none }
def fnExactPanicValuesRow : OpenClaim := { program := "ytikdcnlbjpabjab", sum := "f933aee7bcd45552e4610e3eec09afd007645c8acff53f1708d16cddcd2fb175", func := "loop.example/g01183/laws.FnExactPanicValues", spec := "fnExactPanicValues", unfollowed := true, recurses := true, apart := false }
def FnExactPanicValuesSaid : Prop := fnExactPanicValuesRow.holds Try.pinned (OpenSpec.ofChange fnExactPanicValuesSpec)

/-- ITS FALSE NEIGHBOUR: 'it returns false'. Refute it at one input. -/
def fnExactPanicValuesWrong : ChangeSpec := { name := "fnExactPanicValues", fn := fun _ => fun
  | [d1, d2, d3, d4, d5] => { results := [.lit (.bool false)], args := [d1, d2, d3, d4, d5] }
  | _ => none }
def FnExactPanicValuesWrongFalsely : Prop := fnExactPanicValuesRow.holds Try.pinned (OpenSpec.ofChange fnExactPanicValuesWrong)

/-- 'laws.FnGuardPoints': WHATEVER THE INPUT: true; the input reads as it did. -/
def fnGuardPointsSpec : ChangeSpec := { name := "fnGuardPoints", fn := fun _ => fun
  | [d] => { results := [.lit (.bool true)], args := [d] }
  | _ => none }
def fnGuardPointsRow : OpenClaim := { program := "ytikdcnlbjpabjab", sum := "f933aee7bcd45552e4610e3eec09afd007645c8acff53f1708d16cddcd2fb175", func := "loop.example/g01183/laws.FnGuardPoints", spec := "fnGuardPoints", inPlace := ["slices.overlaps[loop.example/g01183/impl.Step]"], unfollowed := true, recurses := true, apart := false }
def FnGuardPointsSaid : Prop := fnGuardPointsRow.holds Try.pinned (OpenSpec.ofChange fnGuardPointsSpec)

/-- ITS FALSE NEIGHBOUR: 'it returns false'. Refute it at one input. -/
def fnGuardPointsWrong : ChangeSpec := { name := "fnGuardPoints", fn := fun _ => fun
  | [d] => { results := [.lit (.bool false)], args := [d] }
  | _ => none }
def FnGuardPointsWrongFalsely : Prop := fnGuardPointsRow.holds Try.pinned (OpenSpec.ofChange fnGuardPointsWrong)

/- THE SECOND FORM. 'bulk': how many values and letters a reading holds, each counted each time it is reached (what is shared counts as often as it is met; a slice's spare places count too). A statement '..UptoSaid' is the law's where the arguments, and the package variables that the reading takes, are together of bulk at most 1048576: NARROWER than '..Said'. Prove '..Said' where nothing that the law and all that it calls make is longer than what came in: it says more and counts as full. Else prove '..UptoSaid'. A law counts once. -/
mutual
def uptoBulk {H : Type} : DataW H → Nat
  | .lit (.string bytes) => bytes.length + 1
  | .lit _ => 1
  | .nil => 1
  | .ptr d => uptoBulk d + 1
  | .slice elems spare => uptoBulkAll elems + uptoBulkAll spare + 1
  | .agg parts => uptoBulkAll parts + 1
  | .iface _ d => uptoBulk d + 1
  | .map entries => uptoBulkEntries entries + 1
  | .held _ => 1
def uptoBulkAll {H : Type} : List (DataW H) → Nat
  | [] => 0
  | d :: r => uptoBulk d + uptoBulkAll r
def uptoBulkEntries {H : Type} : List (Lit × DataW H) → Nat
  | [] => 0
  | x :: r => uptoBulkEntry x + uptoBulkEntries r
def uptoBulkEntry {H : Type} : Lit × DataW H → Nat
  | (.string bytes, d) => bytes.length + uptoBulk d + 1
  | (_, d) => uptoBulk d + 1
 end
def uptoSmall : (H : Type) → List (DataW H) → Bool := fun _ ds => decide (uptoBulkAll ds ≤ 1048576)
def OpenSpec.upto (s : _root_.Go.ChangeSpec) : _root_.Go.OpenSpec := { _root_.Go.OpenSpec.ofChange s with cond := some uptoSmall }

/-- 'laws.FnExactLeakingArgs', WHERE WHAT IT READS IS OF BULK AT MOST 1048576: true; the input reads as it did. -/
def fnExactLeakingArgsUptoRow : OpenClaim := { program := "ytikdcnlbjpabjab", sum := "f933aee7bcd45552e4610e3eec09afd007645c8acff53f1708d16cddcd2fb175", func := "loop.example/g01183/laws.FnExactLeakingArgs", spec := "fnExactLeakingArgs", unfollowed := true, recurses := true, apart := false, narrowed := true }
def FnExactLeakingArgsUptoSaid : Prop := fnExactLeakingArgsUptoRow.holds Try.pinned (OpenSpec.upto fnExactLeakingArgsSpec)

/-- 'laws.FnExactCleanupProgram', WHERE WHAT IT READS IS OF BULK AT MOST 1048576: true; the input reads as it did. -/
def fnExactCleanupProgramUptoRow : OpenClaim := { program := "ytikdcnlbjpabjab", sum := "f933aee7bcd45552e4610e3eec09afd007645c8acff53f1708d16cddcd2fb175", func := "loop.example/g01183/laws.FnExactCleanupProgram", spec := "fnExactCleanupProgram", apart := false, narrowed := true }
def FnExactCleanupProgramUptoSaid : Prop := fnExactCleanupProgramUptoRow.holds Try.pinned (OpenSpec.upto fnExactCleanupProgramSpec)

/-- 'laws.FnExactCleanupFails', WHERE WHAT IT READS IS OF BULK AT MOST 1048576: true; the input reads as it did. -/
def fnExactCleanupFailsUptoRow : OpenClaim := { program := "ytikdcnlbjpabjab", sum := "f933aee7bcd45552e4610e3eec09afd007645c8acff53f1708d16cddcd2fb175", func := "loop.example/g01183/laws.FnExactCleanupFails", spec := "fnExactCleanupFails", unfollowed := true, recurses := true, apart := false, narrowed := true }
def FnExactCleanupFailsUptoSaid : Prop := fnExactCleanupFailsUptoRow.holds Try.pinned (OpenSpec.upto fnExactCleanupFailsSpec)

/-- 'laws.FnExactPanickingArgs', WHERE WHAT IT READS IS OF BULK AT MOST 1048576: true; the input reads as it did. -/
def fnExactPanickingArgsUptoRow : OpenClaim := { program := "ytikdcnlbjpabjab", sum := "f933aee7bcd45552e4610e3eec09afd007645c8acff53f1708d16cddcd2fb175", func := "loop.example/g01183/laws.FnExactPanickingArgs", spec := "fnExactPanickingArgs", unfollowed := true, recurses := true, apart := false, narrowed := true }
def FnExactPanickingArgsUptoSaid : Prop := fnExactPanickingArgsUptoRow.holds Try.pinned (OpenSpec.upto fnExactPanickingArgsSpec)

/-- 'laws.FnExactPanicValues', WHERE WHAT IT READS IS OF BULK AT MOST 1048576: true; the input reads as it did. -/
def fnExactPanicValuesUptoRow : OpenClaim := { program := "ytikdcnlbjpabjab", sum := "f933aee7bcd45552e4610e3eec09afd007645c8acff53f1708d16cddcd2fb175", func := "loop.example/g01183/laws.FnExactPanicValues", spec := "fnExactPanicValues", unfollowed := true, recurses := true, apart := false, narrowed := true }
def FnExactPanicValuesUptoSaid : Prop := fnExactPanicValuesUptoRow.holds Try.pinned (OpenSpec.upto fnExactPanicValuesSpec)

/-- 'laws.FnGuardPoints', WHERE WHAT IT READS IS OF BULK AT MOST 1048576: true; the input reads as it did. -/
def fnGuardPointsUptoRow : OpenClaim := { program := "ytikdcnlbjpabjab", sum := "f933aee7bcd45552e4610e3eec09afd007645c8acff53f1708d16cddcd2fb175", func := "loop.example/g01183/laws.FnGuardPoints", spec := "fnGuardPoints", inPlace := ["slices.overlaps[loop.example/g01183/impl.Step]"], unfollowed := true, recurses := true, apart := false, narrowed := true }
def FnGuardPointsUptoSaid : Prop := fnGuardPointsUptoRow.holds Try.pinned (OpenSpec.upto fnGuardPointsSpec)

end Rows
end Go.Proofs.Ytikdcnlbjpabjab
