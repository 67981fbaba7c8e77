/-
  No cell of these rows narrows 'for every input' (looked for: loops, veiled, ifaces, maps, wideKeys, modest, calm, conditions, laid).
  DERIVED. THE GIVEN ROWS OF THIS SEAT. 12 by the template 'for every input the law returns true; each argument reads behind the call as it read before'; 0 by the template 'total and deterministic' (their statements: YtibadkjdchdnjaaTotals.lean).
  GIVEN WITH THE SEED: the statements are not yours to turn. If you find one false, say at which input.
  Laid BY PROGRAM, IN A SANDBOX (cutbox-rows.mjs): the forced cells as the released guide's own fill.sh prints them over the translation 18ade803b7d10e65… (all of the seat's roots in one cut). By AI agents, Wed Nov 11 2026. No macro, syntax, notation, axiom, sorry.
-/
import Derived.Test.YtibadkjdchdnjaaChecked
import GoSem.Claim
import GoSem.ClaimJoined
import GoSem.ClaimMapViews
import Derived.JoinedTies
import Derived.KernelRfl
namespace Go.Proofs.Ytibadkjdchdnjaa
/- THE CELL 'sum', in the pinned program and in every row, IS THE sha256 OF THE DUMP (.gsa) THAT YtibadkjdchdnjaaProg.lean LOADS. Nothing in Lean hashes anything: it is a label: what it is worth is what the hold of that sum in a sandbox is worth. -/
noncomputable def Try.pinned : Pinned := { name := "ytibadkjdchdnjaa", sum := "18ade803b7d10e6531709c3741bf97819196425aa1515fcba29dd159eda8b818", checked := Try.checked }
namespace Rows
def none {H : Type} : Left H := { results := [], args := [] }

/-- 'laws.FnExactIsPolicy': WHATEVER THE INPUT: true; the input reads as it did. -/
def fnExactIsPolicySpec : ChangeSpec := { name := "fnExactIsPolicy", fn := fun _ => fun
  | [d] => { results := [.lit (.bool true)], args := [d] }
  | _ => none }
def fnExactIsPolicyRow : OpenClaim := { program := "ytibadkjdchdnjaa", sum := "18ade803b7d10e6531709c3741bf97819196425aa1515fcba29dd159eda8b818", func := "loop.example/g01183/laws.FnExactIsPolicy", spec := "fnExactIsPolicy", apart := false }
def FnExactIsPolicySaid : Prop := fnExactIsPolicyRow.holds Try.pinned (OpenSpec.ofChange fnExactIsPolicySpec)

/-- ITS FALSE NEIGHBOUR: 'it returns false'. Refute it at one input. -/
def fnExactIsPolicyWrong : ChangeSpec := { name := "fnExactIsPolicy", fn := fun _ => fun
  | [d] => { results := [.lit (.bool false)], args := [d] }
  | _ => none }
def FnExactIsPolicyWrongFalsely : Prop := fnExactIsPolicyRow.holds Try.pinned (OpenSpec.ofChange fnExactIsPolicyWrong)

/-- 'laws.FnExactWaitsOf': WHATEVER THE INPUT: true; the input reads as it did. -/
def fnExactWaitsOfSpec : ChangeSpec := { name := "fnExactWaitsOf", fn := fun _ => fun
  | [d] => { results := [.lit (.bool true)], args := [d] }
  | _ => none }
def fnExactWaitsOfRow : OpenClaim := { program := "ytibadkjdchdnjaa", sum := "18ade803b7d10e6531709c3741bf97819196425aa1515fcba29dd159eda8b818", func := "loop.example/g01183/laws.FnExactWaitsOf", spec := "fnExactWaitsOf", apart := false }
def FnExactWaitsOfSaid : Prop := fnExactWaitsOfRow.holds Try.pinned (OpenSpec.ofChange fnExactWaitsOfSpec)

/-- ITS FALSE NEIGHBOUR: 'it returns false'. Refute it at one input. -/
def fnExactWaitsOfWrong : ChangeSpec := { name := "fnExactWaitsOf", fn := fun _ => fun
  | [d] => { results := [.lit (.bool false)], args := [d] }
  | _ => none }
def FnExactWaitsOfWrongFalsely : Prop := fnExactWaitsOfRow.holds Try.pinned (OpenSpec.ofChange fnExactWaitsOfWrong)

/-- 'laws.FnExactRetryRun': WHATEVER THE INPUT: true; the input reads as it did. -/
def fnExactRetryRunSpec : ChangeSpec := { name := "fnExactRetryRun", fn := fun _ => fun
  | [d1, d2, d3, d4, d5] => { results := [.lit (.bool true)], args := [d1, d2, d3, d4, d5] }
  | _ => none }
def fnExactRetryRunRow : OpenClaim := { program := "ytibadkjdchdnjaa", sum := "18ade803b7d10e6531709c3741bf97819196425aa1515fcba29dd159eda8b818", func := "loop.example/g01183/laws.FnExactRetryRun", spec := "fnExactRetryRun", unfollowed := true, recurses := true, apart := false }
def FnExactRetryRunSaid : Prop := fnExactRetryRunRow.holds Try.pinned (OpenSpec.ofChange fnExactRetryRunSpec)

/-- ITS FALSE NEIGHBOUR: 'it returns false'. Refute it at one input. -/
def fnExactRetryRunWrong : ChangeSpec := { name := "fnExactRetryRun", fn := fun _ => fun
  | [d1, d2, d3, d4, d5] => { results := [.lit (.bool false)], args := [d1, d2, d3, d4, d5] }
  | _ => none }
def FnExactRetryRunWrongFalsely : Prop := fnExactRetryRunRow.holds Try.pinned (OpenSpec.ofChange fnExactRetryRunWrong)

/-- 'laws.FnExactFirstGood': WHATEVER THE INPUT: true; the input reads as it did. -/
def fnExactFirstGoodSpec : ChangeSpec := { name := "fnExactFirstGood", fn := fun _ => fun
  | [d1, d2, d3, d4, d5] => { results := [.lit (.bool true)], args := [d1, d2, d3, d4, d5] }
  | _ => none }
def fnExactFirstGoodRow : OpenClaim := { program := "ytibadkjdchdnjaa", sum := "18ade803b7d10e6531709c3741bf97819196425aa1515fcba29dd159eda8b818", func := "loop.example/g01183/laws.FnExactFirstGood", spec := "fnExactFirstGood", unfollowed := true, recurses := true, apart := false }
def FnExactFirstGoodSaid : Prop := fnExactFirstGoodRow.holds Try.pinned (OpenSpec.ofChange fnExactFirstGoodSpec)

/-- ITS FALSE NEIGHBOUR: 'it returns false'. Refute it at one input. -/
def fnExactFirstGoodWrong : ChangeSpec := { name := "fnExactFirstGood", fn := fun _ => fun
  | [d1, d2, d3, d4, d5] => { results := [.lit (.bool false)], args := [d1, d2, d3, d4, d5] }
  | _ => none }
def FnExactFirstGoodWrongFalsely : Prop := fnExactFirstGoodRow.holds Try.pinned (OpenSpec.ofChange fnExactFirstGoodWrong)

/-- 'laws.FnExactTriesNeeded': WHATEVER THE INPUT: true; the input reads as it did. -/
def fnExactTriesNeededSpec : ChangeSpec := { name := "fnExactTriesNeeded", fn := fun _ => fun
  | [d1, d2, d3, d4] => { results := [.lit (.bool true)], args := [d1, d2, d3, d4] }
  | _ => none }
def fnExactTriesNeededRow : OpenClaim := { program := "ytibadkjdchdnjaa", sum := "18ade803b7d10e6531709c3741bf97819196425aa1515fcba29dd159eda8b818", func := "loop.example/g01183/laws.FnExactTriesNeeded", spec := "fnExactTriesNeeded", unfollowed := true, recurses := true, apart := false }
def FnExactTriesNeededSaid : Prop := fnExactTriesNeededRow.holds Try.pinned (OpenSpec.ofChange fnExactTriesNeededSpec)

/-- ITS FALSE NEIGHBOUR: 'it returns false'. Refute it at one input. -/
def fnExactTriesNeededWrong : ChangeSpec := { name := "fnExactTriesNeeded", fn := fun _ => fun
  | [d1, d2, d3, d4] => { results := [.lit (.bool false)], args := [d1, d2, d3, d4] }
  | _ => none }
def FnExactTriesNeededWrongFalsely : Prop := fnExactTriesNeededRow.holds Try.pinned (OpenSpec.ofChange fnExactTriesNeededWrong)

/-- 'laws.FnExactCarryOut': WHATEVER THE INPUT: true; the input reads as it did. -/
def fnExactCarryOutSpec : ChangeSpec := { name := "fnExactCarryOut", fn := fun _ => fun
  | [d1, d2, d3, d4] => { results := [.lit (.bool true)], args := [d1, d2, d3, d4] }
  | _ => none }
def fnExactCarryOutRow : OpenClaim := { program := "ytibadkjdchdnjaa", sum := "18ade803b7d10e6531709c3741bf97819196425aa1515fcba29dd159eda8b818", func := "loop.example/g01183/laws.FnExactCarryOut", spec := "fnExactCarryOut", unfollowed := true, recurses := true, apart := false }
def FnExactCarryOutSaid : Prop := fnExactCarryOutRow.holds Try.pinned (OpenSpec.ofChange fnExactCarryOutSpec)

/-- ITS FALSE NEIGHBOUR: 'it returns false'. Refute it at one input. -/
def fnExactCarryOutWrong : ChangeSpec := { name := "fnExactCarryOut", fn := fun _ => fun
  | [d1, d2, d3, d4] => { results := [.lit (.bool false)], args := [d1, d2, d3, d4] }
  | _ => none }
def FnExactCarryOutWrongFalsely : Prop := fnExactCarryOutRow.holds Try.pinned (OpenSpec.ofChange fnExactCarryOutWrong)

/-- 'laws.FnExactStuckDeeds': WHATEVER THE INPUT: true; the input reads as it did. -/
def fnExactStuckDeedsSpec : ChangeSpec := { name := "fnExactStuckDeeds", fn := fun _ => fun
  | [d1, d2, d3, d4] => { results := [.lit (.bool true)], args := [d1, d2, d3, d4] }
  | _ => none }
def fnExactStuckDeedsRow : OpenClaim := { program := "ytibadkjdchdnjaa", sum := "18ade803b7d10e6531709c3741bf97819196425aa1515fcba29dd159eda8b818", func := "loop.example/g01183/laws.FnExactStuckDeeds", spec := "fnExactStuckDeeds", unfollowed := true, recurses := true, apart := false }
def FnExactStuckDeedsSaid : Prop := fnExactStuckDeedsRow.holds Try.pinned (OpenSpec.ofChange fnExactStuckDeedsSpec)

/-- ITS FALSE NEIGHBOUR: 'it returns false'. Refute it at one input. -/
def fnExactStuckDeedsWrong : ChangeSpec := { name := "fnExactStuckDeeds", fn := fun _ => fun
  | [d1, d2, d3, d4] => { results := [.lit (.bool false)], args := [d1, d2, d3, d4] }
  | _ => none }
def FnExactStuckDeedsWrongFalsely : Prop := fnExactStuckDeedsRow.holds Try.pinned (OpenSpec.ofChange fnExactStuckDeedsWrong)

/-- 'laws.FnExactKeepRunning': WHATEVER THE INPUT: true; the input reads as it did. -/
def fnExactKeepRunningSpec : ChangeSpec := { name := "fnExactKeepRunning", fn := fun _ => fun
  | [d1, d2, d3, d4, d5] => { results := [.lit (.bool true)], args := [d1, d2, d3, d4, d5] }
  | _ => none }
def fnExactKeepRunningRow : OpenClaim := { program := "ytibadkjdchdnjaa", sum := "18ade803b7d10e6531709c3741bf97819196425aa1515fcba29dd159eda8b818", func := "loop.example/g01183/laws.FnExactKeepRunning", spec := "fnExactKeepRunning", unfollowed := true, recurses := true, apart := false }
def FnExactKeepRunningSaid : Prop := fnExactKeepRunningRow.holds Try.pinned (OpenSpec.ofChange fnExactKeepRunningSpec)

/-- ITS FALSE NEIGHBOUR: 'it returns false'. Refute it at one input. -/
def fnExactKeepRunningWrong : ChangeSpec := { name := "fnExactKeepRunning", fn := fun _ => fun
  | [d1, d2, d3, d4, d5] => { results := [.lit (.bool false)], args := [d1, d2, d3, d4, d5] }
  | _ => none }
def FnExactKeepRunningWrongFalsely : Prop := fnExactKeepRunningRow.holds Try.pinned (OpenSpec.ofChange fnExactKeepRunningWrong)

/-- 'laws.FnExactFailTimes': WHATEVER THE INPUT: true; the input reads as it did. -/
def fnExactFailTimesSpec : ChangeSpec := { name := "fnExactFailTimes", fn := fun _ => fun
  | [d1, d2, d3, d4, d5] => { results := [.lit (.bool true)], args := [d1, d2, d3, d4, d5] }
  | _ => none }
def fnExactFailTimesRow : OpenClaim := { program := "ytibadkjdchdnjaa", sum := "18ade803b7d10e6531709c3741bf97819196425aa1515fcba29dd159eda8b818", func := "loop.example/g01183/laws.FnExactFailTimes", spec := "fnExactFailTimes", unfollowed := true, recurses := true, apart := false }
def FnExactFailTimesSaid : Prop := fnExactFailTimesRow.holds Try.pinned (OpenSpec.ofChange fnExactFailTimesSpec)

/-- ITS FALSE NEIGHBOUR: 'it returns false'. Refute it at one input. -/
def fnExactFailTimesWrong : ChangeSpec := { name := "fnExactFailTimes", fn := fun _ => fun
  | [d1, d2, d3, d4, d5] => { results := [.lit (.bool false)], args := [d1, d2, d3, d4, d5] }
  | _ => none }
def FnExactFailTimesWrongFalsely : Prop := fnExactFailTimesRow.holds Try.pinned (OpenSpec.ofChange fnExactFailTimesWrong)

/-- 'laws.FnExactLeastLimit': WHATEVER THE INPUT: true; the input reads as it did. -/
def fnExactLeastLimitSpec : ChangeSpec := { name := "fnExactLeastLimit", fn := fun _ => fun
  | [d1, d2, d3, d4, d5] => { results := [.lit (.bool true)], args := [d1, d2, d3, d4, d5] }
  | _ => none }
def fnExactLeastLimitRow : OpenClaim := { program := "ytibadkjdchdnjaa", sum := "18ade803b7d10e6531709c3741bf97819196425aa1515fcba29dd159eda8b818", func := "loop.example/g01183/laws.FnExactLeastLimit", spec := "fnExactLeastLimit", unfollowed := true, recurses := true, apart := false }
def FnExactLeastLimitSaid : Prop := fnExactLeastLimitRow.holds Try.pinned (OpenSpec.ofChange fnExactLeastLimitSpec)

/-- ITS FALSE NEIGHBOUR: 'it returns false'. Refute it at one input. -/
def fnExactLeastLimitWrong : ChangeSpec := { name := "fnExactLeastLimit", fn := fun _ => fun
  | [d1, d2, d3, d4, d5] => { results := [.lit (.bool false)], args := [d1, d2, d3, d4, d5] }
  | _ => none }
def FnExactLeastLimitWrongFalsely : Prop := fnExactLeastLimitRow.holds Try.pinned (OpenSpec.ofChange fnExactLeastLimitWrong)

/-- 'laws.FnExactRunProgram': WHATEVER THE INPUT: true; the input reads as it did. -/
def fnExactRunProgramSpec : ChangeSpec := { name := "fnExactRunProgram", fn := fun _ => fun
  | [d1, d2, d3, d4] => { results := [.lit (.bool true)], args := [d1, d2, d3, d4] }
  | _ => none }
def fnExactRunProgramRow : OpenClaim := { program := "ytibadkjdchdnjaa", sum := "18ade803b7d10e6531709c3741bf97819196425aa1515fcba29dd159eda8b818", func := "loop.example/g01183/laws.FnExactRunProgram", spec := "fnExactRunProgram", unfollowed := true, recurses := true, apart := false }
def FnExactRunProgramSaid : Prop := fnExactRunProgramRow.holds Try.pinned (OpenSpec.ofChange fnExactRunProgramSpec)

/-- ITS FALSE NEIGHBOUR: 'it returns false'. Refute it at one input. -/
def fnExactRunProgramWrong : ChangeSpec := { name := "fnExactRunProgram", fn := fun _ => fun
  | [d1, d2, d3, d4] => { results := [.lit (.bool false)], args := [d1, d2, d3, d4] }
  | _ => none }
def FnExactRunProgramWrongFalsely : Prop := fnExactRunProgramRow.holds Try.pinned (OpenSpec.ofChange fnExactRunProgramWrong)

/-- 'laws.FnExactSaidNumbers': WHATEVER THE INPUT: true; the input reads as it did. -/
def fnExactSaidNumbersSpec : ChangeSpec := { name := "fnExactSaidNumbers", fn := fun _ => fun
  | [d1, d2, d3, d4] => { results := [.lit (.bool true)], args := [d1, d2, d3, d4] }
  | _ => none }
def fnExactSaidNumbersRow : OpenClaim := { program := "ytibadkjdchdnjaa", sum := "18ade803b7d10e6531709c3741bf97819196425aa1515fcba29dd159eda8b818", func := "loop.example/g01183/laws.FnExactSaidNumbers", spec := "fnExactSaidNumbers", unfollowed := true, recurses := true, apart := false }
def FnExactSaidNumbersSaid : Prop := fnExactSaidNumbersRow.holds Try.pinned (OpenSpec.ofChange fnExactSaidNumbersSpec)

/-- ITS FALSE NEIGHBOUR: 'it returns false'. Refute it at one input. -/
def fnExactSaidNumbersWrong : ChangeSpec := { name := "fnExactSaidNumbers", fn := fun _ => fun
  | [d1, d2, d3, d4] => { results := [.lit (.bool false)], args := [d1, d2, d3, d4] }
  | _ => none }
def FnExactSaidNumbersWrongFalsely : Prop := fnExactSaidNumbersRow.holds Try.pinned (OpenSpec.ofChange fnExactSaidNumbersWrong)

/- THE SECOND FORM. 'bulk': how many values and letters a reading holds, each counted each time it is reached (what is shared counts as often as it is met; a slice's spare places count too). A statement '..UptoSaid' is the law's where the arguments, and the package variables that the reading takes, are together of bulk at most 1048576: NARROWER than '..Said'. Prove '..Said' where nothing that the law and all that it calls make is longer than what came in: it says more and counts as full. Else prove '..UptoSaid'. A law counts once. -/
mutual
def uptoBulk {H : Type} : DataW H → Nat
  | .lit (.string bytes) => bytes.length + 1
  | .lit _ => 1
  | .nil => 1
  | .ptr d => uptoBulk d + 1
  | .slice elems spare => uptoBulkAll elems + uptoBulkAll spare + 1
  | .agg parts => uptoBulkAll parts + 1
  | .iface _ d => uptoBulk d + 1
  | .map entries => uptoBulkEntries entries + 1
  | .held _ => 1
def uptoBulkAll {H : Type} : List (DataW H) → Nat
  | [] => 0
  | d :: r => uptoBulk d + uptoBulkAll r
def uptoBulkEntries {H : Type} : List (Lit × DataW H) → Nat
  | [] => 0
  | x :: r => uptoBulkEntry x + uptoBulkEntries r
def uptoBulkEntry {H : Type} : Lit × DataW H → Nat
  | (.string bytes, d) => bytes.length + uptoBulk d + 1
  | (_, d) => uptoBulk d + 1
 end
def uptoSmall : (H : Type) → List (DataW H) → Bool := fun _ ds => decide (uptoBulkAll ds ≤ 1048576)
def OpenSpec.upto (s : _root_.Go.ChangeSpec) : _root_.Go.OpenSpec := { _root_.Go.OpenSpec.ofChange s with cond := some uptoSmall }

/-- 'laws.FnExactIsPolicy', WHERE WHAT IT READS IS OF BULK AT MOST 1048576: true; the input reads as it did. -/
def fnExactIsPolicyUptoRow : OpenClaim := { program := "ytibadkjdchdnjaa", sum := "18ade803b7d10e6531709c3741bf97819196425aa1515fcba29dd159eda8b818", func := "loop.example/g01183/laws.FnExactIsPolicy", spec := "fnExactIsPolicy", apart := false, narrowed := true }
def FnExactIsPolicyUptoSaid : Prop := fnExactIsPolicyUptoRow.holds Try.pinned (OpenSpec.upto fnExactIsPolicySpec)

/-- 'laws.FnExactWaitsOf', WHERE WHAT IT READS IS OF BULK AT MOST 1048576: true; the input reads as it did. -/
def fnExactWaitsOfUptoRow : OpenClaim := { program := "ytibadkjdchdnjaa", sum := "18ade803b7d10e6531709c3741bf97819196425aa1515fcba29dd159eda8b818", func := "loop.example/g01183/laws.FnExactWaitsOf", spec := "fnExactWaitsOf", apart := false, narrowed := true }
def FnExactWaitsOfUptoSaid : Prop := fnExactWaitsOfUptoRow.holds Try.pinned (OpenSpec.upto fnExactWaitsOfSpec)

/-- 'laws.FnExactRetryRun', WHERE WHAT IT READS IS OF BULK AT MOST 1048576: true; the input reads as it did. -/
def fnExactRetryRunUptoRow : OpenClaim := { program := "ytibadkjdchdnjaa", sum := "18ade803b7d10e6531709c3741bf97819196425aa1515fcba29dd159eda8b818", func := "loop.example/g01183/laws.FnExactRetryRun", spec := "fnExactRetryRun", unfollowed := true, recurses := true, apart := false, narrowed := true }
def FnExactRetryRunUptoSaid : Prop := fnExactRetryRunUptoRow.holds Try.pinned (OpenSpec.upto fnExactRetryRunSpec)

/-- 'laws.FnExactFirstGood', WHERE WHAT IT READS IS OF BULK AT MOST 1048576: true; the input reads as it did. -/
def fnExactFirstGoodUptoRow : OpenClaim := { program := "ytibadkjdchdnjaa", sum := "18ade803b7d10e6531709c3741bf97819196425aa1515fcba29dd159eda8b818", func := "loop.example/g01183/laws.FnExactFirstGood", spec := "fnExactFirstGood", unfollowed := true, recurses := true, apart := false, narrowed := true }
def FnExactFirstGoodUptoSaid : Prop := fnExactFirstGoodUptoRow.holds Try.pinned (OpenSpec.upto fnExactFirstGoodSpec)

/-- 'laws.FnExactTriesNeeded', WHERE WHAT IT READS IS OF BULK AT MOST 1048576: true; the input reads as it did. -/
def fnExactTriesNeededUptoRow : OpenClaim := { program := "ytibadkjdchdnjaa", sum := "18ade803b7d10e6531709c3741bf97819196425aa1515fcba29dd159eda8b818", func := "loop.example/g01183/laws.FnExactTriesNeeded", spec := "fnExactTriesNeeded", unfollowed := true, recurses := true, apart := false, narrowed := true }
def FnExactTriesNeededUptoSaid : Prop := fnExactTriesNeededUptoRow.holds Try.pinned (OpenSpec.upto fnExactTriesNeededSpec)

/-- 'laws.FnExactCarryOut', WHERE WHAT IT READS IS OF BULK AT MOST 1048576: true; the input reads as it did. -/
def fnExactCarryOutUptoRow : OpenClaim := { program := "ytibadkjdchdnjaa", sum := "18ade803b7d10e6531709c3741bf97819196425aa1515fcba29dd159eda8b818", func := "loop.example/g01183/laws.FnExactCarryOut", spec := "fnExactCarryOut", unfollowed := true, recurses := true, apart := false, narrowed := true }
def FnExactCarryOutUptoSaid : Prop := fnExactCarryOutUptoRow.holds Try.pinned (OpenSpec.upto fnExactCarryOutSpec)

/-- 'laws.FnExactStuckDeeds', WHERE WHAT IT READS IS OF BULK AT MOST 1048576: true; the input reads as it did. -/
def fnExactStuckDeedsUptoRow : OpenClaim := { program := "ytibadkjdchdnjaa", sum := "18ade803b7d10e6531709c3741bf97819196425aa1515fcba29dd159eda8b818", func := "loop.example/g01183/laws.FnExactStuckDeeds", spec := "fnExactStuckDeeds", unfollowed := true, recurses := true, apart := false, narrowed := true }
def FnExactStuckDeedsUptoSaid : Prop := fnExactStuckDeedsUptoRow.holds Try.pinned (OpenSpec.upto fnExactStuckDeedsSpec)

/-- 'laws.FnExactKeepRunning', WHERE WHAT IT READS IS OF BULK AT MOST 1048576: true; the input reads as it did. -/
def fnExactKeepRunningUptoRow : OpenClaim := { program := "ytibadkjdchdnjaa", sum := "18ade803b7d10e6531709c3741bf97819196425aa1515fcba29dd159eda8b818", func := "loop.example/g01183/laws.FnExactKeepRunning", spec := "fnExactKeepRunning", unfollowed := true, recurses := true, apart := false, narrowed := true }
def FnExactKeepRunningUptoSaid : Prop := fnExactKeepRunningUptoRow.holds Try.pinned (OpenSpec.upto fnExactKeepRunningSpec)

/-- 'laws.FnExactFailTimes', WHERE WHAT IT READS IS OF BULK AT MOST 1048576: true; the input reads as it did. -/
def fnExactFailTimesUptoRow : OpenClaim := { program := "ytibadkjdchdnjaa", sum := "18ade803b7d10e6531709c3741bf97819196425aa1515fcba29dd159eda8b818", func := "loop.example/g01183/laws.FnExactFailTimes", spec := "fnExactFailTimes", unfollowed := true, recurses := true, apart := false, narrowed := true }
def FnExactFailTimesUptoSaid : Prop := fnExactFailTimesUptoRow.holds Try.pinned (OpenSpec.upto fnExactFailTimesSpec)

/-- 'laws.FnExactLeastLimit', WHERE WHAT IT READS IS OF BULK AT MOST 1048576: true; the input reads as it did. -/
def fnExactLeastLimitUptoRow : OpenClaim := { program := "ytibadkjdchdnjaa", sum := "18ade803b7d10e6531709c3741bf97819196425aa1515fcba29dd159eda8b818", func := "loop.example/g01183/laws.FnExactLeastLimit", spec := "fnExactLeastLimit", unfollowed := true, recurses := true, apart := false, narrowed := true }
def FnExactLeastLimitUptoSaid : Prop := fnExactLeastLimitUptoRow.holds Try.pinned (OpenSpec.upto fnExactLeastLimitSpec)

/-- 'laws.FnExactRunProgram', WHERE WHAT IT READS IS OF BULK AT MOST 1048576: true; the input reads as it did. -/
def fnExactRunProgramUptoRow : OpenClaim := { program := "ytibadkjdchdnjaa", sum := "18ade803b7d10e6531709c3741bf97819196425aa1515fcba29dd159eda8b818", func := "loop.example/g01183/laws.FnExactRunProgram", spec := "fnExactRunProgram", unfollowed := true, recurses := true, apart := false, narrowed := true }
def FnExactRunProgramUptoSaid : Prop := fnExactRunProgramUptoRow.holds Try.pinned (OpenSpec.upto fnExactRunProgramSpec)

/-- 'laws.FnExactSaidNumbers', WHERE WHAT IT READS IS OF BULK AT MOST 1048576: true; the input reads as it did. -/
def fnExactSaidNumbersUptoRow : OpenClaim := { program := "ytibadkjdchdnjaa", sum := "18ade803b7d10e6531709c3741bf97819196425aa1515fcba29dd159eda8b818", func := "loop.example/g01183/laws.FnExactSaidNumbers", spec := "fnExactSaidNumbers", unfollowed := true, recurses := true, apart := false, narrowed := true }
def FnExactSaidNumbersUptoSaid : Prop := fnExactSaidNumbersUptoRow.holds Try.pinned (OpenSpec.upto fnExactSaidNumbersSpec)

end Rows
end Go.Proofs.Ytibadkjdchdnjaa
