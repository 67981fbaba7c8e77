/-
  No cell of these rows narrows 'for every input' (looked for: loops, veiled, ifaces, maps, wideKeys, modest, calm, conditions, laid).
  DERIVED. THE GIVEN ROWS OF THIS SEAT. 12 by the template 'for every input the law returns true; each argument reads behind the call as it read before'; 0 by the template 'total and deterministic' (their statements: YtdmcgkcpclepfaaTotals.lean).
  GIVEN WITH THE SEED: the statements are not yours to turn. If you find one false, say at which input.
  Laid BY PROGRAM, IN A SANDBOX (cutbox-rows.mjs): the forced cells as the released guide's own fill.sh prints them over the translation 99dd7b83dba43348… (all of the seat's roots in one cut). By AI agents, Wed Nov 11 2026. No macro, syntax, notation, axiom, sorry.
-/
import Derived.Test.YtdmcgkcpclepfaaChecked
import GoSem.Claim
import GoSem.ClaimJoined
import GoSem.ClaimMapViews
import Derived.JoinedTies
import Derived.KernelRfl
namespace Go.Proofs.Ytdmcgkcpclepfaa
/- THE CELL 'sum', in the pinned program and in every row, IS THE sha256 OF THE DUMP (.gsa) THAT YtdmcgkcpclepfaaProg.lean LOADS. Nothing in Lean hashes anything: it is a label: what it is worth is what the hold of that sum in a sandbox is worth. -/
noncomputable def Try.pinned : Pinned := { name := "ytdmcgkcpclepfaa", sum := "99dd7b83dba4334821c99e19682cfc80cc68b04b26a6316e8661f8bec2069095", checked := Try.checked }
namespace Rows
def none {H : Type} : Left H := { results := [], args := [] }

/-- 'laws.FnExactReadsOf': WHATEVER THE INPUT: true; the input reads as it did. -/
def fnExactReadsOfSpec : ChangeSpec := { name := "fnExactReadsOf", fn := fun _ => fun
  | [d1, d2, d3] => { results := [.lit (.bool true)], args := [d1, d2, d3] }
  | _ => none }
def fnExactReadsOfRow : OpenClaim := { program := "ytdmcgkcpclepfaa", sum := "99dd7b83dba4334821c99e19682cfc80cc68b04b26a6316e8661f8bec2069095", func := "loop.example/g01183/laws.FnExactReadsOf", spec := "fnExactReadsOf", unfollowed := true, recurses := true, apart := false }
def FnExactReadsOfSaid : Prop := fnExactReadsOfRow.holds Try.pinned (OpenSpec.ofChange fnExactReadsOfSpec)

/-- ITS FALSE NEIGHBOUR: 'it returns false'. Refute it at one input. -/
def fnExactReadsOfWrong : ChangeSpec := { name := "fnExactReadsOf", fn := fun _ => fun
  | [d1, d2, d3] => { results := [.lit (.bool false)], args := [d1, d2, d3] }
  | _ => none }
def FnExactReadsOfWrongFalsely : Prop := fnExactReadsOfRow.holds Try.pinned (OpenSpec.ofChange fnExactReadsOfWrong)

/-- 'laws.FnExactWritesOf': WHATEVER THE INPUT: true; the input reads as it did. -/
def fnExactWritesOfSpec : ChangeSpec := { name := "fnExactWritesOf", fn := fun _ => fun
  | [d1, d2, d3] => { results := [.lit (.bool true)], args := [d1, d2, d3] }
  | _ => none }
def fnExactWritesOfRow : OpenClaim := { program := "ytdmcgkcpclepfaa", sum := "99dd7b83dba4334821c99e19682cfc80cc68b04b26a6316e8661f8bec2069095", func := "loop.example/g01183/laws.FnExactWritesOf", spec := "fnExactWritesOf", unfollowed := true, recurses := true, apart := false }
def FnExactWritesOfSaid : Prop := fnExactWritesOfRow.holds Try.pinned (OpenSpec.ofChange fnExactWritesOfSpec)

/-- ITS FALSE NEIGHBOUR: 'it returns false'. Refute it at one input. -/
def fnExactWritesOfWrong : ChangeSpec := { name := "fnExactWritesOf", fn := fun _ => fun
  | [d1, d2, d3] => { results := [.lit (.bool false)], args := [d1, d2, d3] }
  | _ => none }
def FnExactWritesOfWrongFalsely : Prop := fnExactWritesOfRow.holds Try.pinned (OpenSpec.ofChange fnExactWritesOfWrong)

/-- 'laws.FnExactCanExchange': WHATEVER THE INPUT: true; the input reads as it did. -/
def fnExactCanExchangeSpec : ChangeSpec := { name := "fnExactCanExchange", fn := fun _ => fun
  | [d1, d2, d3] => { results := [.lit (.bool true)], args := [d1, d2, d3] }
  | _ => none }
def fnExactCanExchangeRow : OpenClaim := { program := "ytdmcgkcpclepfaa", sum := "99dd7b83dba4334821c99e19682cfc80cc68b04b26a6316e8661f8bec2069095", func := "loop.example/g01183/laws.FnExactCanExchange", spec := "fnExactCanExchange", unfollowed := true, recurses := true, apart := false }
def FnExactCanExchangeSaid : Prop := fnExactCanExchangeRow.holds Try.pinned (OpenSpec.ofChange fnExactCanExchangeSpec)

/-- ITS FALSE NEIGHBOUR: 'it returns false'. Refute it at one input. -/
def fnExactCanExchangeWrong : ChangeSpec := { name := "fnExactCanExchange", fn := fun _ => fun
  | [d1, d2, d3] => { results := [.lit (.bool false)], args := [d1, d2, d3] }
  | _ => none }
def FnExactCanExchangeWrongFalsely : Prop := fnExactCanExchangeRow.holds Try.pinned (OpenSpec.ofChange fnExactCanExchangeWrong)

/-- 'laws.FnExactExchangeSteps': WHATEVER THE INPUT: true; the input reads as it did. -/
def fnExactExchangeStepsSpec : ChangeSpec := { name := "fnExactExchangeSteps", fn := fun _ => fun
  | [d1, d2, d3] => { results := [.lit (.bool true)], args := [d1, d2, d3] }
  | _ => none }
def fnExactExchangeStepsRow : OpenClaim := { program := "ytdmcgkcpclepfaa", sum := "99dd7b83dba4334821c99e19682cfc80cc68b04b26a6316e8661f8bec2069095", func := "loop.example/g01183/laws.FnExactExchangeSteps", spec := "fnExactExchangeSteps", apart := false }
def FnExactExchangeStepsSaid : Prop := fnExactExchangeStepsRow.holds Try.pinned (OpenSpec.ofChange fnExactExchangeStepsSpec)

/-- ITS FALSE NEIGHBOUR: 'it returns false'. Refute it at one input. -/
def fnExactExchangeStepsWrong : ChangeSpec := { name := "fnExactExchangeSteps", fn := fun _ => fun
  | [d1, d2, d3] => { results := [.lit (.bool false)], args := [d1, d2, d3] }
  | _ => none }
def FnExactExchangeStepsWrongFalsely : Prop := fnExactExchangeStepsRow.holds Try.pinned (OpenSpec.ofChange fnExactExchangeStepsWrong)

/-- 'laws.FnExactInlineEmpty': WHATEVER THE INPUT: true; the input reads as it did. -/
def fnExactInlineEmptySpec : ChangeSpec := { name := "fnExactInlineEmpty", fn := fun _ => fun
  | [d1, d2] => { results := [.lit (.bool true)], args := [d1, d2] }
  | _ => none }
def fnExactInlineEmptyRow : OpenClaim := { program := "ytdmcgkcpclepfaa", sum := "99dd7b83dba4334821c99e19682cfc80cc68b04b26a6316e8661f8bec2069095", func := "loop.example/g01183/laws.FnExactInlineEmpty", spec := "fnExactInlineEmpty", apart := false }
def FnExactInlineEmptySaid : Prop := fnExactInlineEmptyRow.holds Try.pinned (OpenSpec.ofChange fnExactInlineEmptySpec)

/-- ITS FALSE NEIGHBOUR: 'it returns false'. Refute it at one input. -/
def fnExactInlineEmptyWrong : ChangeSpec := { name := "fnExactInlineEmpty", fn := fun _ => fun
  | [d1, d2] => { results := [.lit (.bool false)], args := [d1, d2] }
  | _ => none }
def FnExactInlineEmptyWrongFalsely : Prop := fnExactInlineEmptyRow.holds Try.pinned (OpenSpec.ofChange fnExactInlineEmptyWrong)

/-- 'laws.FnExactRenumberFunctions': WHATEVER THE INPUT: true; the input reads as it did. -/
def fnExactRenumberFunctionsSpec : ChangeSpec := { name := "fnExactRenumberFunctions", fn := fun _ => fun
  | [d1, d2] => { results := [.lit (.bool true)], args := [d1, d2] }
  | _ => none }
def fnExactRenumberFunctionsRow : OpenClaim := { program := "ytdmcgkcpclepfaa", sum := "99dd7b83dba4334821c99e19682cfc80cc68b04b26a6316e8661f8bec2069095", func := "loop.example/g01183/laws.FnExactRenumberFunctions", spec := "fnExactRenumberFunctions", unfollowed := true, recurses := true, apart := false }
def FnExactRenumberFunctionsSaid : Prop := fnExactRenumberFunctionsRow.holds Try.pinned (OpenSpec.ofChange fnExactRenumberFunctionsSpec)

/-- ITS FALSE NEIGHBOUR: 'it returns false'. Refute it at one input. -/
def fnExactRenumberFunctionsWrong : ChangeSpec := { name := "fnExactRenumberFunctions", fn := fun _ => fun
  | [d1, d2] => { results := [.lit (.bool false)], args := [d1, d2] }
  | _ => none }
def FnExactRenumberFunctionsWrongFalsely : Prop := fnExactRenumberFunctionsRow.holds Try.pinned (OpenSpec.ofChange fnExactRenumberFunctionsWrong)

/-- 'laws.FnExactKeepReached': WHATEVER THE INPUT: true; the input reads as it did. -/
def fnExactKeepReachedSpec : ChangeSpec := { name := "fnExactKeepReached", fn := fun _ => fun
  | [d1, d2] => { results := [.lit (.bool true)], args := [d1, d2] }
  | _ => none }
def fnExactKeepReachedRow : OpenClaim := { program := "ytdmcgkcpclepfaa", sum := "99dd7b83dba4334821c99e19682cfc80cc68b04b26a6316e8661f8bec2069095", func := "loop.example/g01183/laws.FnExactKeepReached", spec := "fnExactKeepReached", recurses := true, apart := false }
def FnExactKeepReachedSaid : Prop := fnExactKeepReachedRow.holds Try.pinned (OpenSpec.ofChange fnExactKeepReachedSpec)

/-- ITS FALSE NEIGHBOUR: 'it returns false'. Refute it at one input. -/
def fnExactKeepReachedWrong : ChangeSpec := { name := "fnExactKeepReached", fn := fun _ => fun
  | [d1, d2] => { results := [.lit (.bool false)], args := [d1, d2] }
  | _ => none }
def FnExactKeepReachedWrongFalsely : Prop := fnExactKeepReachedRow.holds Try.pinned (OpenSpec.ofChange fnExactKeepReachedWrong)

/-- 'laws.FnExactDropUnreached': WHATEVER THE INPUT: true; the input reads as it did. -/
def fnExactDropUnreachedSpec : ChangeSpec := { name := "fnExactDropUnreached", fn := fun _ => fun
  | [d1, d2] => { results := [.lit (.bool true)], args := [d1, d2] }
  | _ => none }
def fnExactDropUnreachedRow : OpenClaim := { program := "ytdmcgkcpclepfaa", sum := "99dd7b83dba4334821c99e19682cfc80cc68b04b26a6316e8661f8bec2069095", func := "loop.example/g01183/laws.FnExactDropUnreached", spec := "fnExactDropUnreached", unfollowed := true, recurses := true, apart := false }
def FnExactDropUnreachedSaid : Prop := fnExactDropUnreachedRow.holds Try.pinned (OpenSpec.ofChange fnExactDropUnreachedSpec)

/-- ITS FALSE NEIGHBOUR: 'it returns false'. Refute it at one input. -/
def fnExactDropUnreachedWrong : ChangeSpec := { name := "fnExactDropUnreached", fn := fun _ => fun
  | [d1, d2] => { results := [.lit (.bool false)], args := [d1, d2] }
  | _ => none }
def FnExactDropUnreachedWrongFalsely : Prop := fnExactDropUnreachedRow.holds Try.pinned (OpenSpec.ofChange fnExactDropUnreachedWrong)

/-- 'laws.FnExactIdleRecovers': WHATEVER THE INPUT: true; the input reads as it did. -/
def fnExactIdleRecoversSpec : ChangeSpec := { name := "fnExactIdleRecovers", fn := fun _ => fun
  | [d1, d2] => { results := [.lit (.bool true)], args := [d1, d2] }
  | _ => none }
def fnExactIdleRecoversRow : OpenClaim := { program := "ytdmcgkcpclepfaa", sum := "99dd7b83dba4334821c99e19682cfc80cc68b04b26a6316e8661f8bec2069095", func := "loop.example/g01183/laws.FnExactIdleRecovers", spec := "fnExactIdleRecovers", unfollowed := true, recurses := true, apart := false }
def FnExactIdleRecoversSaid : Prop := fnExactIdleRecoversRow.holds Try.pinned (OpenSpec.ofChange fnExactIdleRecoversSpec)

/-- ITS FALSE NEIGHBOUR: 'it returns false'. Refute it at one input. -/
def fnExactIdleRecoversWrong : ChangeSpec := { name := "fnExactIdleRecovers", fn := fun _ => fun
  | [d1, d2] => { results := [.lit (.bool false)], args := [d1, d2] }
  | _ => none }
def FnExactIdleRecoversWrongFalsely : Prop := fnExactIdleRecoversRow.holds Try.pinned (OpenSpec.ofChange fnExactIdleRecoversWrong)

/-- 'laws.FnExactTellingGuard': WHATEVER THE INPUT: true; the input reads as it did. -/
def fnExactTellingGuardSpec : ChangeSpec := { name := "fnExactTellingGuard", fn := fun _ => fun
  | [d1, d2] => { results := [.lit (.bool true)], args := [d1, d2] }
  | _ => none }
def fnExactTellingGuardRow : OpenClaim := { program := "ytdmcgkcpclepfaa", sum := "99dd7b83dba4334821c99e19682cfc80cc68b04b26a6316e8661f8bec2069095", func := "loop.example/g01183/laws.FnExactTellingGuard", spec := "fnExactTellingGuard", inPlace := ["slices.overlaps[loop.example/g01183/impl.Step]"], unfollowed := true, recurses := true, apart := false }
def FnExactTellingGuardSaid : Prop := fnExactTellingGuardRow.holds Try.pinned (OpenSpec.ofChange fnExactTellingGuardSpec)

/-- ITS FALSE NEIGHBOUR: 'it returns false'. Refute it at one input. -/
def fnExactTellingGuardWrong : ChangeSpec := { name := "fnExactTellingGuard", fn := fun _ => fun
  | [d1, d2] => { results := [.lit (.bool false)], args := [d1, d2] }
  | _ => none }
def FnExactTellingGuardWrongFalsely : Prop := fnExactTellingGuardRow.holds Try.pinned (OpenSpec.ofChange fnExactTellingGuardWrong)

/-- 'laws.FnExactSwallowingGuard': WHATEVER THE INPUT: true; the input reads as it did. -/
def fnExactSwallowingGuardSpec : ChangeSpec := { name := "fnExactSwallowingGuard", fn := fun _ => fun
  | [d1, d2] => { results := [.lit (.bool true)], args := [d1, d2] }
  | _ => none }
def fnExactSwallowingGuardRow : OpenClaim := { program := "ytdmcgkcpclepfaa", sum := "99dd7b83dba4334821c99e19682cfc80cc68b04b26a6316e8661f8bec2069095", func := "loop.example/g01183/laws.FnExactSwallowingGuard", spec := "fnExactSwallowingGuard", inPlace := ["slices.overlaps[loop.example/g01183/impl.Step]"], unfollowed := true, recurses := true, apart := false }
def FnExactSwallowingGuardSaid : Prop := fnExactSwallowingGuardRow.holds Try.pinned (OpenSpec.ofChange fnExactSwallowingGuardSpec)

/-- ITS FALSE NEIGHBOUR: 'it returns false'. Refute it at one input. -/
def fnExactSwallowingGuardWrong : ChangeSpec := { name := "fnExactSwallowingGuard", fn := fun _ => fun
  | [d1, d2] => { results := [.lit (.bool false)], args := [d1, d2] }
  | _ => none }
def FnExactSwallowingGuardWrongFalsely : Prop := fnExactSwallowingGuardRow.holds Try.pinned (OpenSpec.ofChange fnExactSwallowingGuardWrong)

/-- 'laws.FnExactThrowingGuard': WHATEVER THE INPUT: true; the input reads as it did. -/
def fnExactThrowingGuardSpec : ChangeSpec := { name := "fnExactThrowingGuard", fn := fun _ => fun
  | [d1, d2] => { results := [.lit (.bool true)], args := [d1, d2] }
  | _ => none }
def fnExactThrowingGuardRow : OpenClaim := { program := "ytdmcgkcpclepfaa", sum := "99dd7b83dba4334821c99e19682cfc80cc68b04b26a6316e8661f8bec2069095", func := "loop.example/g01183/laws.FnExactThrowingGuard", spec := "fnExactThrowingGuard", inPlace := ["slices.overlaps[loop.example/g01183/impl.Step]"], unfollowed := true, recurses := true, apart := false }
def FnExactThrowingGuardSaid : Prop := fnExactThrowingGuardRow.holds Try.pinned (OpenSpec.ofChange fnExactThrowingGuardSpec)

/-- ITS FALSE NEIGHBOUR: 'it returns false'. Refute it at one input. -/
def fnExactThrowingGuardWrong : ChangeSpec := { name := "fnExactThrowingGuard", fn := fun _ => fun
  | [d1, d2] => { results := [.lit (.bool false)], args := [d1, d2] }
  | _ => none }
def FnExactThrowingGuardWrongFalsely : Prop := fnExactThrowingGuardRow.holds Try.pinned (OpenSpec.ofChange fnExactThrowingGuardWrong)

/- THE SECOND FORM. 'bulk': how many values and letters a reading holds, each counted each time it is reached (what is shared counts as often as it is met; a slice's spare places count too). A statement '..UptoSaid' is the law's where the arguments, and the package variables that the reading takes, are together of bulk at most 1048576: NARROWER than '..Said'. Prove '..Said' where nothing that the law and all that it calls make is longer than what came in: it says more and counts as full. Else prove '..UptoSaid'. A law counts once. -/
mutual
def uptoBulk {H : Type} : DataW H → Nat
  | .lit (.string bytes) => bytes.length + 1
  | .lit _ => 1
  | .nil => 1
  | .ptr d => uptoBulk d + 1
  | .slice elems spare => uptoBulkAll elems + uptoBulkAll spare + 1
  | .agg parts => uptoBulkAll parts + 1
  | .iface _ d => uptoBulk d + 1
  | .map entries => uptoBulkEntries entries + 1
  | .held _ => 1
def uptoBulkAll {H : Type} : List (DataW H) → Nat
  | [] => 0
  | d :: r => uptoBulk d + uptoBulkAll r
def uptoBulkEntries {H : Type} : List (Lit × DataW H) → Nat
  | [] => 0
  | x :: r => uptoBulkEntry x + uptoBulkEntries r
def uptoBulkEntry {H : Type} : Lit × DataW H → Nat
  | (.string bytes, d) => bytes.length + uptoBulk d + 1
  | (_, d) => uptoBulk d + 1
 end
def uptoSmall : (H : Type) → List (DataW H) → Bool := fun _ ds => decide (uptoBulkAll ds ≤ 1048576)
def OpenSpec.upto (s : _root_.Go.ChangeSpec) : _root_.Go.OpenSpec := { _root_.Go.OpenSpec.ofChange s with cond := some uptoSmall }

/-- 'laws.FnExactReadsOf', WHERE WHAT IT READS IS OF BULK AT MOST 1048576: true; the input reads as it did. -/
def fnExactReadsOfUptoRow : OpenClaim := { program := "ytdmcgkcpclepfaa", sum := "99dd7b83dba4334821c99e19682cfc80cc68b04b26a6316e8661f8bec2069095", func := "loop.example/g01183/laws.FnExactReadsOf", spec := "fnExactReadsOf", unfollowed := true, recurses := true, apart := false, narrowed := true }
def FnExactReadsOfUptoSaid : Prop := fnExactReadsOfUptoRow.holds Try.pinned (OpenSpec.upto fnExactReadsOfSpec)

/-- 'laws.FnExactWritesOf', WHERE WHAT IT READS IS OF BULK AT MOST 1048576: true; the input reads as it did. -/
def fnExactWritesOfUptoRow : OpenClaim := { program := "ytdmcgkcpclepfaa", sum := "99dd7b83dba4334821c99e19682cfc80cc68b04b26a6316e8661f8bec2069095", func := "loop.example/g01183/laws.FnExactWritesOf", spec := "fnExactWritesOf", unfollowed := true, recurses := true, apart := false, narrowed := true }
def FnExactWritesOfUptoSaid : Prop := fnExactWritesOfUptoRow.holds Try.pinned (OpenSpec.upto fnExactWritesOfSpec)

/-- 'laws.FnExactCanExchange', WHERE WHAT IT READS IS OF BULK AT MOST 1048576: true; the input reads as it did. -/
def fnExactCanExchangeUptoRow : OpenClaim := { program := "ytdmcgkcpclepfaa", sum := "99dd7b83dba4334821c99e19682cfc80cc68b04b26a6316e8661f8bec2069095", func := "loop.example/g01183/laws.FnExactCanExchange", spec := "fnExactCanExchange", unfollowed := true, recurses := true, apart := false, narrowed := true }
def FnExactCanExchangeUptoSaid : Prop := fnExactCanExchangeUptoRow.holds Try.pinned (OpenSpec.upto fnExactCanExchangeSpec)

/-- 'laws.FnExactExchangeSteps', WHERE WHAT IT READS IS OF BULK AT MOST 1048576: true; the input reads as it did. -/
def fnExactExchangeStepsUptoRow : OpenClaim := { program := "ytdmcgkcpclepfaa", sum := "99dd7b83dba4334821c99e19682cfc80cc68b04b26a6316e8661f8bec2069095", func := "loop.example/g01183/laws.FnExactExchangeSteps", spec := "fnExactExchangeSteps", apart := false, narrowed := true }
def FnExactExchangeStepsUptoSaid : Prop := fnExactExchangeStepsUptoRow.holds Try.pinned (OpenSpec.upto fnExactExchangeStepsSpec)

/-- 'laws.FnExactInlineEmpty', WHERE WHAT IT READS IS OF BULK AT MOST 1048576: true; the input reads as it did. -/
def fnExactInlineEmptyUptoRow : OpenClaim := { program := "ytdmcgkcpclepfaa", sum := "99dd7b83dba4334821c99e19682cfc80cc68b04b26a6316e8661f8bec2069095", func := "loop.example/g01183/laws.FnExactInlineEmpty", spec := "fnExactInlineEmpty", apart := false, narrowed := true }
def FnExactInlineEmptyUptoSaid : Prop := fnExactInlineEmptyUptoRow.holds Try.pinned (OpenSpec.upto fnExactInlineEmptySpec)

/-- 'laws.FnExactRenumberFunctions', WHERE WHAT IT READS IS OF BULK AT MOST 1048576: true; the input reads as it did. -/
def fnExactRenumberFunctionsUptoRow : OpenClaim := { program := "ytdmcgkcpclepfaa", sum := "99dd7b83dba4334821c99e19682cfc80cc68b04b26a6316e8661f8bec2069095", func := "loop.example/g01183/laws.FnExactRenumberFunctions", spec := "fnExactRenumberFunctions", unfollowed := true, recurses := true, apart := false, narrowed := true }
def FnExactRenumberFunctionsUptoSaid : Prop := fnExactRenumberFunctionsUptoRow.holds Try.pinned (OpenSpec.upto fnExactRenumberFunctionsSpec)

/-- 'laws.FnExactKeepReached', WHERE WHAT IT READS IS OF BULK AT MOST 1048576: true; the input reads as it did. -/
def fnExactKeepReachedUptoRow : OpenClaim := { program := "ytdmcgkcpclepfaa", sum := "99dd7b83dba4334821c99e19682cfc80cc68b04b26a6316e8661f8bec2069095", func := "loop.example/g01183/laws.FnExactKeepReached", spec := "fnExactKeepReached", recurses := true, apart := false, narrowed := true }
def FnExactKeepReachedUptoSaid : Prop := fnExactKeepReachedUptoRow.holds Try.pinned (OpenSpec.upto fnExactKeepReachedSpec)

/-- 'laws.FnExactDropUnreached', WHERE WHAT IT READS IS OF BULK AT MOST 1048576: true; the input reads as it did. -/
def fnExactDropUnreachedUptoRow : OpenClaim := { program := "ytdmcgkcpclepfaa", sum := "99dd7b83dba4334821c99e19682cfc80cc68b04b26a6316e8661f8bec2069095", func := "loop.example/g01183/laws.FnExactDropUnreached", spec := "fnExactDropUnreached", unfollowed := true, recurses := true, apart := false, narrowed := true }
def FnExactDropUnreachedUptoSaid : Prop := fnExactDropUnreachedUptoRow.holds Try.pinned (OpenSpec.upto fnExactDropUnreachedSpec)

/-- 'laws.FnExactIdleRecovers', WHERE WHAT IT READS IS OF BULK AT MOST 1048576: true; the input reads as it did. -/
def fnExactIdleRecoversUptoRow : OpenClaim := { program := "ytdmcgkcpclepfaa", sum := "99dd7b83dba4334821c99e19682cfc80cc68b04b26a6316e8661f8bec2069095", func := "loop.example/g01183/laws.FnExactIdleRecovers", spec := "fnExactIdleRecovers", unfollowed := true, recurses := true, apart := false, narrowed := true }
def FnExactIdleRecoversUptoSaid : Prop := fnExactIdleRecoversUptoRow.holds Try.pinned (OpenSpec.upto fnExactIdleRecoversSpec)

/-- 'laws.FnExactTellingGuard', WHERE WHAT IT READS IS OF BULK AT MOST 1048576: true; the input reads as it did. -/
def fnExactTellingGuardUptoRow : OpenClaim := { program := "ytdmcgkcpclepfaa", sum := "99dd7b83dba4334821c99e19682cfc80cc68b04b26a6316e8661f8bec2069095", func := "loop.example/g01183/laws.FnExactTellingGuard", spec := "fnExactTellingGuard", inPlace := ["slices.overlaps[loop.example/g01183/impl.Step]"], unfollowed := true, recurses := true, apart := false, narrowed := true }
def FnExactTellingGuardUptoSaid : Prop := fnExactTellingGuardUptoRow.holds Try.pinned (OpenSpec.upto fnExactTellingGuardSpec)

/-- 'laws.FnExactSwallowingGuard', WHERE WHAT IT READS IS OF BULK AT MOST 1048576: true; the input reads as it did. -/
def fnExactSwallowingGuardUptoRow : OpenClaim := { program := "ytdmcgkcpclepfaa", sum := "99dd7b83dba4334821c99e19682cfc80cc68b04b26a6316e8661f8bec2069095", func := "loop.example/g01183/laws.FnExactSwallowingGuard", spec := "fnExactSwallowingGuard", inPlace := ["slices.overlaps[loop.example/g01183/impl.Step]"], unfollowed := true, recurses := true, apart := false, narrowed := true }
def FnExactSwallowingGuardUptoSaid : Prop := fnExactSwallowingGuardUptoRow.holds Try.pinned (OpenSpec.upto fnExactSwallowingGuardSpec)

/-- 'laws.FnExactThrowingGuard', WHERE WHAT IT READS IS OF BULK AT MOST 1048576: true; the input reads as it did. -/
def fnExactThrowingGuardUptoRow : OpenClaim := { program := "ytdmcgkcpclepfaa", sum := "99dd7b83dba4334821c99e19682cfc80cc68b04b26a6316e8661f8bec2069095", func := "loop.example/g01183/laws.FnExactThrowingGuard", spec := "fnExactThrowingGuard", inPlace := ["slices.overlaps[loop.example/g01183/impl.Step]"], unfollowed := true, recurses := true, apart := false, narrowed := true }
def FnExactThrowingGuardUptoSaid : Prop := fnExactThrowingGuardUptoRow.holds Try.pinned (OpenSpec.upto fnExactThrowingGuardSpec)

end Rows
end Go.Proofs.Ytdmcgkcpclepfaa
