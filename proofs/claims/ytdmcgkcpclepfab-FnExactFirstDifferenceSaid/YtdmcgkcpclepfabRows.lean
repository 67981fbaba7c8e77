/-
  No cell of these rows narrows 'for every input' (looked for: loops, veiled, ifaces, maps, wideKeys, modest, calm, conditions, laid).
  DERIVED. THE GIVEN ROWS OF THIS SEAT. 5 by the template 'for every input the law returns true; each argument reads behind the call as it read before'; 0 by the template 'total and deterministic' (their statements: YtdmcgkcpclepfabTotals.lean).
  GIVEN WITH THE SEED: the statements are not yours to turn. If you find one false, say at which input.
  Laid BY PROGRAM, IN A SANDBOX (cutbox-rows.mjs): the forced cells as the released guide's own fill.sh prints them over the translation 8bec02b0abd9f6d8… (all of the seat's roots in one cut). By AI agents, Wed Nov 11 2026. No macro, syntax, notation, axiom, sorry.
-/
import Derived.Test.YtdmcgkcpclepfabChecked
import GoSem.Claim
import GoSem.ClaimJoined
import GoSem.ClaimMapViews
import Derived.JoinedTies
import Derived.KernelRfl
namespace Go.Proofs.Ytdmcgkcpclepfab
/- THE CELL 'sum', in the pinned program and in every row, IS THE sha256 OF THE DUMP (.gsa) THAT YtdmcgkcpclepfabProg.lean LOADS. Nothing in Lean hashes anything: it is a label: what it is worth is what the hold of that sum in a sandbox is worth. -/
noncomputable def Try.pinned : Pinned := { name := "ytdmcgkcpclepfab", sum := "8bec02b0abd9f6d8d25725d7154ecacf844ab4ed6ba6060bf8080e2035643fe4", checked := Try.checked }
namespace Rows
def none {H : Type} : Left H := { results := [], args := [] }

/-- 'laws.FnExactSameRuns': WHATEVER THE INPUT: true; the input reads as it did. -/
def fnExactSameRunsSpec : ChangeSpec := { name := "fnExactSameRuns", fn := fun _ => fun
  | [d1, d2, d3, d4, d5, d6] => { results := [.lit (.bool true)], args := [d1, d2, d3, d4, d5, d6] }
  | _ => none }
def fnExactSameRunsRow : OpenClaim := { program := "ytdmcgkcpclepfab", sum := "8bec02b0abd9f6d8d25725d7154ecacf844ab4ed6ba6060bf8080e2035643fe4", func := "loop.example/g01183/laws.FnExactSameRuns", spec := "fnExactSameRuns", unfollowed := true, recurses := true, apart := false }
def FnExactSameRunsSaid : Prop := fnExactSameRunsRow.holds Try.pinned (OpenSpec.ofChange fnExactSameRunsSpec)

/-- ITS FALSE NEIGHBOUR: 'it returns false'. Refute it at one input. -/
def fnExactSameRunsWrong : ChangeSpec := { name := "fnExactSameRuns", fn := fun _ => fun
  | [d1, d2, d3, d4, d5, d6] => { results := [.lit (.bool false)], args := [d1, d2, d3, d4, d5, d6] }
  | _ => none }
def FnExactSameRunsWrongFalsely : Prop := fnExactSameRunsRow.holds Try.pinned (OpenSpec.ofChange fnExactSameRunsWrong)

/-- 'laws.FnExactFirstDifference': WHATEVER THE INPUT: true; the input reads as it did. -/
def fnExactFirstDifferenceSpec : ChangeSpec := { name := "fnExactFirstDifference", fn := fun _ => fun
  | [d1, d2, d3, d4, d5, d6] => { results := [.lit (.bool true)], args := [d1, d2, d3, d4, d5, d6] }
  | _ => none }
def fnExactFirstDifferenceRow : OpenClaim := { program := "ytdmcgkcpclepfab", sum := "8bec02b0abd9f6d8d25725d7154ecacf844ab4ed6ba6060bf8080e2035643fe4", func := "loop.example/g01183/laws.FnExactFirstDifference", spec := "fnExactFirstDifference", unfollowed := true, recurses := true, apart := false }
def FnExactFirstDifferenceSaid : Prop := fnExactFirstDifferenceRow.holds Try.pinned (OpenSpec.ofChange fnExactFirstDifferenceSpec)

/-- ITS FALSE NEIGHBOUR: 'it returns false'. Refute it at one input. -/
def fnExactFirstDifferenceWrong : ChangeSpec := { name := "fnExactFirstDifference", fn := fun _ => fun
  | [d1, d2, d3, d4, d5, d6] => { results := [.lit (.bool false)], args := [d1, d2, d3, d4, d5, d6] }
  | _ => none }
def FnExactFirstDifferenceWrongFalsely : Prop := fnExactFirstDifferenceRow.holds Try.pinned (OpenSpec.ofChange fnExactFirstDifferenceWrong)

/-- 'laws.FnExactCarryOut': WHATEVER THE INPUT: true; the input reads as it did. -/
def fnExactCarryOutSpec : ChangeSpec := { name := "fnExactCarryOut", fn := fun _ => fun
  | [d1, d2, d3, d4] => { results := [.lit (.bool true)], args := [d1, d2, d3, d4] }
  | _ => none }
def fnExactCarryOutRow : OpenClaim := { program := "ytdmcgkcpclepfab", sum := "8bec02b0abd9f6d8d25725d7154ecacf844ab4ed6ba6060bf8080e2035643fe4", func := "loop.example/g01183/laws.FnExactCarryOut", spec := "fnExactCarryOut", unfollowed := true, recurses := true, apart := false }
def FnExactCarryOutSaid : Prop := fnExactCarryOutRow.holds Try.pinned (OpenSpec.ofChange fnExactCarryOutSpec)

/-- ITS FALSE NEIGHBOUR: 'it returns false'. Refute it at one input. -/
def fnExactCarryOutWrong : ChangeSpec := { name := "fnExactCarryOut", fn := fun _ => fun
  | [d1, d2, d3, d4] => { results := [.lit (.bool false)], args := [d1, d2, d3, d4] }
  | _ => none }
def FnExactCarryOutWrongFalsely : Prop := fnExactCarryOutRow.holds Try.pinned (OpenSpec.ofChange fnExactCarryOutWrong)

/-- 'laws.FnExactStuckDeeds': WHATEVER THE INPUT: true; the input reads as it did. -/
def fnExactStuckDeedsSpec : ChangeSpec := { name := "fnExactStuckDeeds", fn := fun _ => fun
  | [d1, d2, d3, d4] => { results := [.lit (.bool true)], args := [d1, d2, d3, d4] }
  | _ => none }
def fnExactStuckDeedsRow : OpenClaim := { program := "ytdmcgkcpclepfab", sum := "8bec02b0abd9f6d8d25725d7154ecacf844ab4ed6ba6060bf8080e2035643fe4", func := "loop.example/g01183/laws.FnExactStuckDeeds", spec := "fnExactStuckDeeds", unfollowed := true, recurses := true, apart := false }
def FnExactStuckDeedsSaid : Prop := fnExactStuckDeedsRow.holds Try.pinned (OpenSpec.ofChange fnExactStuckDeedsSpec)

/-- ITS FALSE NEIGHBOUR: 'it returns false'. Refute it at one input. -/
def fnExactStuckDeedsWrong : ChangeSpec := { name := "fnExactStuckDeeds", fn := fun _ => fun
  | [d1, d2, d3, d4] => { results := [.lit (.bool false)], args := [d1, d2, d3, d4] }
  | _ => none }
def FnExactStuckDeedsWrongFalsely : Prop := fnExactStuckDeedsRow.holds Try.pinned (OpenSpec.ofChange fnExactStuckDeedsWrong)

/-- 'laws.FnExactSaidNumbers': WHATEVER THE INPUT: true; the input reads as it did. -/
def fnExactSaidNumbersSpec : ChangeSpec := { name := "fnExactSaidNumbers", fn := fun _ => fun
  | [d1, d2, d3, d4] => { results := [.lit (.bool true)], args := [d1, d2, d3, d4] }
  | _ => none }
def fnExactSaidNumbersRow : OpenClaim := { program := "ytdmcgkcpclepfab", sum := "8bec02b0abd9f6d8d25725d7154ecacf844ab4ed6ba6060bf8080e2035643fe4", func := "loop.example/g01183/laws.FnExactSaidNumbers", spec := "fnExactSaidNumbers", unfollowed := true, recurses := true, apart := false }
def FnExactSaidNumbersSaid : Prop := fnExactSaidNumbersRow.holds Try.pinned (OpenSpec.ofChange fnExactSaidNumbersSpec)

/-- ITS FALSE NEIGHBOUR: 'it returns false'. Refute it at one input. -/
def fnExactSaidNumbersWrong : ChangeSpec := { name := "fnExactSaidNumbers", fn := fun _ => fun
  | [d1, d2, d3, d4] => { results := [.lit (.bool false)], args := [d1, d2, d3, d4] }
  | _ => none }
def FnExactSaidNumbersWrongFalsely : Prop := fnExactSaidNumbersRow.holds Try.pinned (OpenSpec.ofChange fnExactSaidNumbersWrong)

/- THE SECOND FORM. 'bulk': how many values and letters a reading holds, each counted each time it is reached (what is shared counts as often as it is met; a slice's spare places count too). A statement '..UptoSaid' is the law's where the arguments, and the package variables that the reading takes, are together of bulk at most 1048576: NARROWER than '..Said'. Prove '..Said' where nothing that the law and all that it calls make is longer than what came in: it says more and counts as full. Else prove '..UptoSaid'. A law counts once. -/
mutual
def uptoBulk {H : Type} : DataW H → Nat
  | .lit (.string bytes) => bytes.length + 1
  | .lit _ => 1
  | .nil => 1
  | .ptr d => uptoBulk d + 1
  | .slice elems spare => uptoBulkAll elems + uptoBulkAll spare + 1
  | .agg parts => uptoBulkAll parts + 1
  | .iface _ d => uptoBulk d + 1
  | .map entries => uptoBulkEntries entries + 1
  | .held _ => 1
def uptoBulkAll {H : Type} : List (DataW H) → Nat
  | [] => 0
  | d :: r => uptoBulk d + uptoBulkAll r
def uptoBulkEntries {H : Type} : List (Lit × DataW H) → Nat
  | [] => 0
  | x :: r => uptoBulkEntry x + uptoBulkEntries r
def uptoBulkEntry {H : Type} : Lit × DataW H → Nat
  | (.string bytes, d) => bytes.length + uptoBulk d + 1
  | (_, d) => uptoBulk d + 1
 end
def uptoSmall : (H : Type) → List (DataW H) → Bool := fun _ ds => decide (uptoBulkAll ds ≤ 1048576)
def OpenSpec.upto (s : _root_.Go.ChangeSpec) : _root_.Go.OpenSpec := { _root_.Go.OpenSpec.ofChange s with cond := some uptoSmall }

/-- 'laws.FnExactSameRuns', WHERE WHAT IT READS IS OF BULK AT MOST 1048576: true; the input reads as it did. -/
def fnExactSameRunsUptoRow : OpenClaim := { program := "ytdmcgkcpclepfab", sum := "8bec02b0abd9f6d8d25725d7154ecacf844ab4ed6ba6060bf8080e2035643fe4", func := "loop.example/g01183/laws.FnExactSameRuns", spec := "fnExactSameRuns", unfollowed := true, recurses := true, apart := false, narrowed := true }
def FnExactSameRunsUptoSaid : Prop := fnExactSameRunsUptoRow.holds Try.pinned (OpenSpec.upto fnExactSameRunsSpec)

/-- 'laws.FnExactFirstDifference', WHERE WHAT IT READS IS OF BULK AT MOST 1048576: true; the input reads as it did. -/
def fnExactFirstDifferenceUptoRow : OpenClaim := { program := "ytdmcgkcpclepfab", sum := "8bec02b0abd9f6d8d25725d7154ecacf844ab4ed6ba6060bf8080e2035643fe4", func := "loop.example/g01183/laws.FnExactFirstDifference", spec := "fnExactFirstDifference", unfollowed := true, recurses := true, apart := false, narrowed := true }
def FnExactFirstDifferenceUptoSaid : Prop := fnExactFirstDifferenceUptoRow.holds Try.pinned (OpenSpec.upto fnExactFirstDifferenceSpec)

/-- 'laws.FnExactCarryOut', WHERE WHAT IT READS IS OF BULK AT MOST 1048576: true; the input reads as it did. -/
def fnExactCarryOutUptoRow : OpenClaim := { program := "ytdmcgkcpclepfab", sum := "8bec02b0abd9f6d8d25725d7154ecacf844ab4ed6ba6060bf8080e2035643fe4", func := "loop.example/g01183/laws.FnExactCarryOut", spec := "fnExactCarryOut", unfollowed := true, recurses := true, apart := false, narrowed := true }
def FnExactCarryOutUptoSaid : Prop := fnExactCarryOutUptoRow.holds Try.pinned (OpenSpec.upto fnExactCarryOutSpec)

/-- 'laws.FnExactStuckDeeds', WHERE WHAT IT READS IS OF BULK AT MOST 1048576: true; the input reads as it did. -/
def fnExactStuckDeedsUptoRow : OpenClaim := { program := "ytdmcgkcpclepfab", sum := "8bec02b0abd9f6d8d25725d7154ecacf844ab4ed6ba6060bf8080e2035643fe4", func := "loop.example/g01183/laws.FnExactStuckDeeds", spec := "fnExactStuckDeeds", unfollowed := true, recurses := true, apart := false, narrowed := true }
def FnExactStuckDeedsUptoSaid : Prop := fnExactStuckDeedsUptoRow.holds Try.pinned (OpenSpec.upto fnExactStuckDeedsSpec)

/-- 'laws.FnExactSaidNumbers', WHERE WHAT IT READS IS OF BULK AT MOST 1048576: true; the input reads as it did. -/
def fnExactSaidNumbersUptoRow : OpenClaim := { program := "ytdmcgkcpclepfab", sum := "8bec02b0abd9f6d8d25725d7154ecacf844ab4ed6ba6060bf8080e2035643fe4", func := "loop.example/g01183/laws.FnExactSaidNumbers", spec := "fnExactSaidNumbers", unfollowed := true, recurses := true, apart := false, narrowed := true }
def FnExactSaidNumbersUptoSaid : Prop := fnExactSaidNumbersUptoRow.holds Try.pinned (OpenSpec.upto fnExactSaidNumbersSpec)

end Rows
end Go.Proofs.Ytdmcgkcpclepfab
