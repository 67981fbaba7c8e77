/-
  No cell of these rows narrows 'for every input' (looked for: loops, veiled, ifaces, maps, wideKeys, modest, calm, conditions, laid).
  DERIVED. THE GIVEN ROWS OF THIS SEAT. 11 by the template 'for every input the law returns true; each argument reads behind the call as it read before'; 0 by the template 'total and deterministic' (their statements: YtmfapjjgcjkkcaaTotals.lean).
  GIVEN WITH THE SEED: the statements are not yours to turn. If you find one false, say at which input.
  Laid BY PROGRAM, IN A SANDBOX (cutbox-rows.mjs): the forced cells as the released guide's own fill.sh prints them over the translation 127750310e652854… (all of the seat's roots in one cut). By AI agents, Wed Nov 11 2026. No macro, syntax, notation, axiom, sorry.
-/
import Derived.Test.YtmfapjjgcjkkcaaChecked
import GoSem.Claim
import GoSem.ClaimJoined
import GoSem.ClaimMapViews
import Derived.JoinedTies
import Derived.KernelRfl
namespace Go.Proofs.Ytmfapjjgcjkkcaa
/- THE CELL 'sum', in the pinned program and in every row, IS THE sha256 OF THE DUMP (.gsa) THAT YtmfapjjgcjkkcaaProg.lean LOADS. Nothing in Lean hashes anything: it is a label: what it is worth is what the hold of that sum in a sandbox is worth. -/
noncomputable def Try.pinned : Pinned := { name := "ytmfapjjgcjkkcaa", sum := "127750310e65285441aa9227ff0b7dfa726844dd80b4035c22620763c5214ccf", checked := Try.checked }
namespace Rows
def none {H : Type} : Left H := { results := [], args := [] }

/-- 'laws.FnExactResultsOf': WHATEVER THE INPUT: true; the input reads as it did. -/
def fnExactResultsOfSpec : ChangeSpec := { name := "fnExactResultsOf", fn := fun _ => fun
  | [d1, d2, d3, d4] => { results := [.lit (.bool true)], args := [d1, d2, d3, d4] }
  | _ => none }
def fnExactResultsOfRow : OpenClaim := { program := "ytmfapjjgcjkkcaa", sum := "127750310e65285441aa9227ff0b7dfa726844dd80b4035c22620763c5214ccf", func := "loop.example/g01183/laws.FnExactResultsOf", spec := "fnExactResultsOf", unfollowed := true, recurses := true, apart := false }
def FnExactResultsOfSaid : Prop := fnExactResultsOfRow.holds Try.pinned (OpenSpec.ofChange fnExactResultsOfSpec)

/-- ITS FALSE NEIGHBOUR: 'it returns false'. Refute it at one input. -/
def fnExactResultsOfWrong : ChangeSpec := { name := "fnExactResultsOf", fn := fun _ => fun
  | [d1, d2, d3, d4] => { results := [.lit (.bool false)], args := [d1, d2, d3, d4] }
  | _ => none }
def FnExactResultsOfWrongFalsely : Prop := fnExactResultsOfRow.holds Try.pinned (OpenSpec.ofChange fnExactResultsOfWrong)

/-- 'laws.FnExactDepthsOf': WHATEVER THE INPUT: true; the input reads as it did. -/
def fnExactDepthsOfSpec : ChangeSpec := { name := "fnExactDepthsOf", fn := fun _ => fun
  | [d1, d2, d3, d4] => { results := [.lit (.bool true)], args := [d1, d2, d3, d4] }
  | _ => none }
def fnExactDepthsOfRow : OpenClaim := { program := "ytmfapjjgcjkkcaa", sum := "127750310e65285441aa9227ff0b7dfa726844dd80b4035c22620763c5214ccf", func := "loop.example/g01183/laws.FnExactDepthsOf", spec := "fnExactDepthsOf", unfollowed := true, recurses := true, apart := false }
def FnExactDepthsOfSaid : Prop := fnExactDepthsOfRow.holds Try.pinned (OpenSpec.ofChange fnExactDepthsOfSpec)

/-- ITS FALSE NEIGHBOUR: 'it returns false'. Refute it at one input. -/
def fnExactDepthsOfWrong : ChangeSpec := { name := "fnExactDepthsOf", fn := fun _ => fun
  | [d1, d2, d3, d4] => { results := [.lit (.bool false)], args := [d1, d2, d3, d4] }
  | _ => none }
def FnExactDepthsOfWrongFalsely : Prop := fnExactDepthsOfRow.holds Try.pinned (OpenSpec.ofChange fnExactDepthsOfWrong)

/-- 'laws.FnExactPanicFates': WHATEVER THE INPUT: true; the input reads as it did. -/
def fnExactPanicFatesSpec : ChangeSpec := { name := "fnExactPanicFates", fn := fun _ => fun
  | [d1, d2, d3, d4] => { results := [.lit (.bool true)], args := [d1, d2, d3, d4] }
  | _ => none }
def fnExactPanicFatesRow : OpenClaim := { program := "ytmfapjjgcjkkcaa", sum := "127750310e65285441aa9227ff0b7dfa726844dd80b4035c22620763c5214ccf", func := "loop.example/g01183/laws.FnExactPanicFates", spec := "fnExactPanicFates", unfollowed := true, recurses := true, apart := false }
def FnExactPanicFatesSaid : Prop := fnExactPanicFatesRow.holds Try.pinned (OpenSpec.ofChange fnExactPanicFatesSpec)

/-- ITS FALSE NEIGHBOUR: 'it returns false'. Refute it at one input. -/
def fnExactPanicFatesWrong : ChangeSpec := { name := "fnExactPanicFates", fn := fun _ => fun
  | [d1, d2, d3, d4] => { results := [.lit (.bool false)], args := [d1, d2, d3, d4] }
  | _ => none }
def FnExactPanicFatesWrongFalsely : Prop := fnExactPanicFatesRow.holds Try.pinned (OpenSpec.ofChange fnExactPanicFatesWrong)

/-- 'laws.FnExactUnwoundBy': WHATEVER THE INPUT: true; the input reads as it did. -/
def fnExactUnwoundBySpec : ChangeSpec := { name := "fnExactUnwoundBy", fn := fun _ => fun
  | [d1, d2, d3, d4, d5] => { results := [.lit (.bool true)], args := [d1, d2, d3, d4, d5] }
  | _ => none }
def fnExactUnwoundByRow : OpenClaim := { program := "ytmfapjjgcjkkcaa", sum := "127750310e65285441aa9227ff0b7dfa726844dd80b4035c22620763c5214ccf", func := "loop.example/g01183/laws.FnExactUnwoundBy", spec := "fnExactUnwoundBy", unfollowed := true, recurses := true, apart := false }
def FnExactUnwoundBySaid : Prop := fnExactUnwoundByRow.holds Try.pinned (OpenSpec.ofChange fnExactUnwoundBySpec)

/-- ITS FALSE NEIGHBOUR: 'it returns false'. Refute it at one input. -/
def fnExactUnwoundByWrong : ChangeSpec := { name := "fnExactUnwoundBy", fn := fun _ => fun
  | [d1, d2, d3, d4, d5] => { results := [.lit (.bool false)], args := [d1, d2, d3, d4, d5] }
  | _ => none }
def FnExactUnwoundByWrongFalsely : Prop := fnExactUnwoundByRow.holds Try.pinned (OpenSpec.ofChange fnExactUnwoundByWrong)

/-- 'laws.FnExactRecoveredBy': WHATEVER THE INPUT: true; the input reads as it did. -/
def fnExactRecoveredBySpec : ChangeSpec := { name := "fnExactRecoveredBy", fn := fun _ => fun
  | [d1, d2, d3, d4] => { results := [.lit (.bool true)], args := [d1, d2, d3, d4] }
  | _ => none }
def fnExactRecoveredByRow : OpenClaim := { program := "ytmfapjjgcjkkcaa", sum := "127750310e65285441aa9227ff0b7dfa726844dd80b4035c22620763c5214ccf", func := "loop.example/g01183/laws.FnExactRecoveredBy", spec := "fnExactRecoveredBy", unfollowed := true, recurses := true, apart := false }
def FnExactRecoveredBySaid : Prop := fnExactRecoveredByRow.holds Try.pinned (OpenSpec.ofChange fnExactRecoveredBySpec)

/-- ITS FALSE NEIGHBOUR: 'it returns false'. Refute it at one input. -/
def fnExactRecoveredByWrong : ChangeSpec := { name := "fnExactRecoveredBy", fn := fun _ => fun
  | [d1, d2, d3, d4] => { results := [.lit (.bool false)], args := [d1, d2, d3, d4] }
  | _ => none }
def FnExactRecoveredByWrongFalsely : Prop := fnExactRecoveredByRow.holds Try.pinned (OpenSpec.ofChange fnExactRecoveredByWrong)

/-- 'laws.FnExactReplacedBy': WHATEVER THE INPUT: true; the input reads as it did. -/
def fnExactReplacedBySpec : ChangeSpec := { name := "fnExactReplacedBy", fn := fun _ => fun
  | [d1, d2, d3, d4] => { results := [.lit (.bool true)], args := [d1, d2, d3, d4] }
  | _ => none }
def fnExactReplacedByRow : OpenClaim := { program := "ytmfapjjgcjkkcaa", sum := "127750310e65285441aa9227ff0b7dfa726844dd80b4035c22620763c5214ccf", func := "loop.example/g01183/laws.FnExactReplacedBy", spec := "fnExactReplacedBy", unfollowed := true, recurses := true, apart := false }
def FnExactReplacedBySaid : Prop := fnExactReplacedByRow.holds Try.pinned (OpenSpec.ofChange fnExactReplacedBySpec)

/-- ITS FALSE NEIGHBOUR: 'it returns false'. Refute it at one input. -/
def fnExactReplacedByWrong : ChangeSpec := { name := "fnExactReplacedBy", fn := fun _ => fun
  | [d1, d2, d3, d4] => { results := [.lit (.bool false)], args := [d1, d2, d3, d4] }
  | _ => none }
def FnExactReplacedByWrongFalsely : Prop := fnExactReplacedByRow.holds Try.pinned (OpenSpec.ofChange fnExactReplacedByWrong)

/-- 'laws.FnExactPanicChain': WHATEVER THE INPUT: true; the input reads as it did. -/
def fnExactPanicChainSpec : ChangeSpec := { name := "fnExactPanicChain", fn := fun _ => fun
  | [d1, d2, d3, d4] => { results := [.lit (.bool true)], args := [d1, d2, d3, d4] }
  | _ => none }
def fnExactPanicChainRow : OpenClaim := { program := "ytmfapjjgcjkkcaa", sum := "127750310e65285441aa9227ff0b7dfa726844dd80b4035c22620763c5214ccf", func := "loop.example/g01183/laws.FnExactPanicChain", spec := "fnExactPanicChain", unfollowed := true, recurses := true, apart := false }
def FnExactPanicChainSaid : Prop := fnExactPanicChainRow.holds Try.pinned (OpenSpec.ofChange fnExactPanicChainSpec)

/-- ITS FALSE NEIGHBOUR: 'it returns false'. Refute it at one input. -/
def fnExactPanicChainWrong : ChangeSpec := { name := "fnExactPanicChain", fn := fun _ => fun
  | [d1, d2, d3, d4] => { results := [.lit (.bool false)], args := [d1, d2, d3, d4] }
  | _ => none }
def FnExactPanicChainWrongFalsely : Prop := fnExactPanicChainRow.holds Try.pinned (OpenSpec.ofChange fnExactPanicChainWrong)

/-- 'laws.FnExactPanicDepths': WHATEVER THE INPUT: true; the input reads as it did. -/
def fnExactPanicDepthsSpec : ChangeSpec := { name := "fnExactPanicDepths", fn := fun _ => fun
  | [d1, d2, d3, d4] => { results := [.lit (.bool true)], args := [d1, d2, d3, d4] }
  | _ => none }
def fnExactPanicDepthsRow : OpenClaim := { program := "ytmfapjjgcjkkcaa", sum := "127750310e65285441aa9227ff0b7dfa726844dd80b4035c22620763c5214ccf", func := "loop.example/g01183/laws.FnExactPanicDepths", spec := "fnExactPanicDepths", unfollowed := true, recurses := true, apart := false }
def FnExactPanicDepthsSaid : Prop := fnExactPanicDepthsRow.holds Try.pinned (OpenSpec.ofChange fnExactPanicDepthsSpec)

/-- ITS FALSE NEIGHBOUR: 'it returns false'. Refute it at one input. -/
def fnExactPanicDepthsWrong : ChangeSpec := { name := "fnExactPanicDepths", fn := fun _ => fun
  | [d1, d2, d3, d4] => { results := [.lit (.bool false)], args := [d1, d2, d3, d4] }
  | _ => none }
def FnExactPanicDepthsWrongFalsely : Prop := fnExactPanicDepthsRow.holds Try.pinned (OpenSpec.ofChange fnExactPanicDepthsWrong)

/-- 'laws.FnExactPanickingArgs': WHATEVER THE INPUT: true; the input reads as it did. -/
def fnExactPanickingArgsSpec : ChangeSpec := { name := "fnExactPanickingArgs", fn := fun _ => fun
  | [d1, d2, d3, d4, d5] => { results := [.lit (.bool true)], args := [d1, d2, d3, d4, d5] }
  | _ => none }
def fnExactPanickingArgsRow : OpenClaim := { program := "ytmfapjjgcjkkcaa", sum := "127750310e65285441aa9227ff0b7dfa726844dd80b4035c22620763c5214ccf", func := "loop.example/g01183/laws.FnExactPanickingArgs", spec := "fnExactPanickingArgs", unfollowed := true, recurses := true, apart := false }
def FnExactPanickingArgsSaid : Prop := fnExactPanickingArgsRow.holds Try.pinned (OpenSpec.ofChange fnExactPanickingArgsSpec)

/-- ITS FALSE NEIGHBOUR: 'it returns false'. Refute it at one input. -/
def fnExactPanickingArgsWrong : ChangeSpec := { name := "fnExactPanickingArgs", fn := fun _ => fun
  | [d1, d2, d3, d4, d5] => { results := [.lit (.bool false)], args := [d1, d2, d3, d4, d5] }
  | _ => none }
def FnExactPanickingArgsWrongFalsely : Prop := fnExactPanickingArgsRow.holds Try.pinned (OpenSpec.ofChange fnExactPanickingArgsWrong)

/-- 'laws.FnExactPanicValues': WHATEVER THE INPUT: true; the input reads as it did. -/
def fnExactPanicValuesSpec : ChangeSpec := { name := "fnExactPanicValues", fn := fun _ => fun
  | [d1, d2, d3, d4, d5] => { results := [.lit (.bool true)], args := [d1, d2, d3, d4, d5] }
  | _ => none }
def fnExactPanicValuesRow : OpenClaim := { program := "ytmfapjjgcjkkcaa", sum := "127750310e65285441aa9227ff0b7dfa726844dd80b4035c22620763c5214ccf", func := "loop.example/g01183/laws.FnExactPanicValues", spec := "fnExactPanicValues", unfollowed := true, recurses := true, apart := false }
def FnExactPanicValuesSaid : Prop := fnExactPanicValuesRow.holds Try.pinned (OpenSpec.ofChange fnExactPanicValuesSpec)

/-- ITS FALSE NEIGHBOUR: 'it returns false'. Refute it at one input. -/
def fnExactPanicValuesWrong : ChangeSpec := { name := "fnExactPanicValues", fn := fun _ => fun
  | [d1, d2, d3, d4, d5] => { results := [.lit (.bool false)], args := [d1, d2, d3, d4, d5] }
  | _ => none }
def FnExactPanicValuesWrongFalsely : Prop := fnExactPanicValuesRow.holds Try.pinned (OpenSpec.ofChange fnExactPanicValuesWrong)

/-- 'laws.FnExactOpenPanics': WHATEVER THE INPUT: true; the input reads as it did. -/
def fnExactOpenPanicsSpec : ChangeSpec := { name := "fnExactOpenPanics", fn := fun _ => fun
  | [d1, d2, d3, d4] => { results := [.lit (.bool true)], args := [d1, d2, d3, d4] }
  | _ => none }
def fnExactOpenPanicsRow : OpenClaim := { program := "ytmfapjjgcjkkcaa", sum := "127750310e65285441aa9227ff0b7dfa726844dd80b4035c22620763c5214ccf", func := "loop.example/g01183/laws.FnExactOpenPanics", spec := "fnExactOpenPanics", unfollowed := true, recurses := true, apart := false }
def FnExactOpenPanicsSaid : Prop := fnExactOpenPanicsRow.holds Try.pinned (OpenSpec.ofChange fnExactOpenPanicsSpec)

/-- ITS FALSE NEIGHBOUR: 'it returns false'. Refute it at one input. -/
def fnExactOpenPanicsWrong : ChangeSpec := { name := "fnExactOpenPanics", fn := fun _ => fun
  | [d1, d2, d3, d4] => { results := [.lit (.bool false)], args := [d1, d2, d3, d4] }
  | _ => none }
def FnExactOpenPanicsWrongFalsely : Prop := fnExactOpenPanicsRow.holds Try.pinned (OpenSpec.ofChange fnExactOpenPanicsWrong)

/- THE SECOND FORM. 'bulk': how many values and letters a reading holds, each counted each time it is reached (what is shared counts as often as it is met; a slice's spare places count too). A statement '..UptoSaid' is the law's where the arguments, and the package variables that the reading takes, are together of bulk at most 1048576: NARROWER than '..Said'. Prove '..Said' where nothing that the law and all that it calls make is longer than what came in: it says more and counts as full. Else prove '..UptoSaid'. A law counts once. -/
mutual
def uptoBulk {H : Type} : DataW H → Nat
  | .lit (.string bytes) => bytes.length + 1
  | .lit _ => 1
  | .nil => 1
  | .ptr d => uptoBulk d + 1
  | .slice elems spare => uptoBulkAll elems + uptoBulkAll spare + 1
  | .agg parts => uptoBulkAll parts + 1
  | .iface _ d => uptoBulk d + 1
  | .map entries => uptoBulkEntries entries + 1
  | .held _ => 1
def uptoBulkAll {H : Type} : List (DataW H) → Nat
  | [] => 0
  | d :: r => uptoBulk d + uptoBulkAll r
def uptoBulkEntries {H : Type} : List (Lit × DataW H) → Nat
  | [] => 0
  | x :: r => uptoBulkEntry x + uptoBulkEntries r
def uptoBulkEntry {H : Type} : Lit × DataW H → Nat
  | (.string bytes, d) => bytes.length + uptoBulk d + 1
  | (_, d) => uptoBulk d + 1
 end
def uptoSmall : (H : Type) → List (DataW H) → Bool := fun _ ds => decide (uptoBulkAll ds ≤ 1048576)
def OpenSpec.upto (s : _root_.Go.ChangeSpec) : _root_.Go.OpenSpec := { _root_.Go.OpenSpec.ofChange s with cond := some uptoSmall }

/-- 'laws.FnExactResultsOf', WHERE WHAT IT READS IS OF BULK AT MOST 1048576: true; the input reads as it did. -/
def fnExactResultsOfUptoRow : OpenClaim := { program := "ytmfapjjgcjkkcaa", sum := "127750310e65285441aa9227ff0b7dfa726844dd80b4035c22620763c5214ccf", func := "loop.example/g01183/laws.FnExactResultsOf", spec := "fnExactResultsOf", unfollowed := true, recurses := true, apart := false, narrowed := true }
def FnExactResultsOfUptoSaid : Prop := fnExactResultsOfUptoRow.holds Try.pinned (OpenSpec.upto fnExactResultsOfSpec)

/-- 'laws.FnExactDepthsOf', WHERE WHAT IT READS IS OF BULK AT MOST 1048576: true; the input reads as it did. -/
def fnExactDepthsOfUptoRow : OpenClaim := { program := "ytmfapjjgcjkkcaa", sum := "127750310e65285441aa9227ff0b7dfa726844dd80b4035c22620763c5214ccf", func := "loop.example/g01183/laws.FnExactDepthsOf", spec := "fnExactDepthsOf", unfollowed := true, recurses := true, apart := false, narrowed := true }
def FnExactDepthsOfUptoSaid : Prop := fnExactDepthsOfUptoRow.holds Try.pinned (OpenSpec.upto fnExactDepthsOfSpec)

/-- 'laws.FnExactPanicFates', WHERE WHAT IT READS IS OF BULK AT MOST 1048576: true; the input reads as it did. -/
def fnExactPanicFatesUptoRow : OpenClaim := { program := "ytmfapjjgcjkkcaa", sum := "127750310e65285441aa9227ff0b7dfa726844dd80b4035c22620763c5214ccf", func := "loop.example/g01183/laws.FnExactPanicFates", spec := "fnExactPanicFates", unfollowed := true, recurses := true, apart := false, narrowed := true }
def FnExactPanicFatesUptoSaid : Prop := fnExactPanicFatesUptoRow.holds Try.pinned (OpenSpec.upto fnExactPanicFatesSpec)

/-- 'laws.FnExactUnwoundBy', WHERE WHAT IT READS IS OF BULK AT MOST 1048576: true; the input reads as it did. -/
def fnExactUnwoundByUptoRow : OpenClaim := { program := "ytmfapjjgcjkkcaa", sum := "127750310e65285441aa9227ff0b7dfa726844dd80b4035c22620763c5214ccf", func := "loop.example/g01183/laws.FnExactUnwoundBy", spec := "fnExactUnwoundBy", unfollowed := true, recurses := true, apart := false, narrowed := true }
def FnExactUnwoundByUptoSaid : Prop := fnExactUnwoundByUptoRow.holds Try.pinned (OpenSpec.upto fnExactUnwoundBySpec)

/-- 'laws.FnExactRecoveredBy', WHERE WHAT IT READS IS OF BULK AT MOST 1048576: true; the input reads as it did. -/
def fnExactRecoveredByUptoRow : OpenClaim := { program := "ytmfapjjgcjkkcaa", sum := "127750310e65285441aa9227ff0b7dfa726844dd80b4035c22620763c5214ccf", func := "loop.example/g01183/laws.FnExactRecoveredBy", spec := "fnExactRecoveredBy", unfollowed := true, recurses := true, apart := false, narrowed := true }
def FnExactRecoveredByUptoSaid : Prop := fnExactRecoveredByUptoRow.holds Try.pinned (OpenSpec.upto fnExactRecoveredBySpec)

/-- 'laws.FnExactReplacedBy', WHERE WHAT IT READS IS OF BULK AT MOST 1048576: true; the input reads as it did. -/
def fnExactReplacedByUptoRow : OpenClaim := { program := "ytmfapjjgcjkkcaa", sum := "127750310e65285441aa9227ff0b7dfa726844dd80b4035c22620763c5214ccf", func := "loop.example/g01183/laws.FnExactReplacedBy", spec := "fnExactReplacedBy", unfollowed := true, recurses := true, apart := false, narrowed := true }
def FnExactReplacedByUptoSaid : Prop := fnExactReplacedByUptoRow.holds Try.pinned (OpenSpec.upto fnExactReplacedBySpec)

/-- 'laws.FnExactPanicChain', WHERE WHAT IT READS IS OF BULK AT MOST 1048576: true; the input reads as it did. -/
def fnExactPanicChainUptoRow : OpenClaim := { program := "ytmfapjjgcjkkcaa", sum := "127750310e65285441aa9227ff0b7dfa726844dd80b4035c22620763c5214ccf", func := "loop.example/g01183/laws.FnExactPanicChain", spec := "fnExactPanicChain", unfollowed := true, recurses := true, apart := false, narrowed := true }
def FnExactPanicChainUptoSaid : Prop := fnExactPanicChainUptoRow.holds Try.pinned (OpenSpec.upto fnExactPanicChainSpec)

/-- 'laws.FnExactPanicDepths', WHERE WHAT IT READS IS OF BULK AT MOST 1048576: true; the input reads as it did. -/
def fnExactPanicDepthsUptoRow : OpenClaim := { program := "ytmfapjjgcjkkcaa", sum := "127750310e65285441aa9227ff0b7dfa726844dd80b4035c22620763c5214ccf", func := "loop.example/g01183/laws.FnExactPanicDepths", spec := "fnExactPanicDepths", unfollowed := true, recurses := true, apart := false, narrowed := true }
def FnExactPanicDepthsUptoSaid : Prop := fnExactPanicDepthsUptoRow.holds Try.pinned (OpenSpec.upto fnExactPanicDepthsSpec)

/-- 'laws.FnExactPanickingArgs', WHERE WHAT IT READS IS OF BULK AT MOST 1048576: true; the input reads as it did. -/
def fnExactPanickingArgsUptoRow : OpenClaim := { program := "ytmfapjjgcjkkcaa", sum := "127750310e65285441aa9227ff0b7dfa726844dd80b4035c22620763c5214ccf", func := "loop.example/g01183/laws.FnExactPanickingArgs", spec := "fnExactPanickingArgs", unfollowed := true, recurses := true, apart := false, narrowed := true }
def FnExactPanickingArgsUptoSaid : Prop := fnExactPanickingArgsUptoRow.holds Try.pinned (OpenSpec.upto fnExactPanickingArgsSpec)

/-- 'laws.FnExactPanicValues', WHERE WHAT IT READS IS OF BULK AT MOST 1048576: true; the input reads as it did. -/
def fnExactPanicValuesUptoRow : OpenClaim := { program := "ytmfapjjgcjkkcaa", sum := "127750310e65285441aa9227ff0b7dfa726844dd80b4035c22620763c5214ccf", func := "loop.example/g01183/laws.FnExactPanicValues", spec := "fnExactPanicValues", unfollowed := true, recurses := true, apart := false, narrowed := true }
def FnExactPanicValuesUptoSaid : Prop := fnExactPanicValuesUptoRow.holds Try.pinned (OpenSpec.upto fnExactPanicValuesSpec)

/-- 'laws.FnExactOpenPanics', WHERE WHAT IT READS IS OF BULK AT MOST 1048576: true; the input reads as it did. -/
def fnExactOpenPanicsUptoRow : OpenClaim := { program := "ytmfapjjgcjkkcaa", sum := "127750310e65285441aa9227ff0b7dfa726844dd80b4035c22620763c5214ccf", func := "loop.example/g01183/laws.FnExactOpenPanics", spec := "fnExactOpenPanics", unfollowed := true, recurses := true, apart := false, narrowed := true }
def FnExactOpenPanicsUptoSaid : Prop := fnExactOpenPanicsUptoRow.holds Try.pinned (OpenSpec.upto fnExactOpenPanicsSpec)

end Rows
end Go.Proofs.Ytmfapjjgcjkkcaa
