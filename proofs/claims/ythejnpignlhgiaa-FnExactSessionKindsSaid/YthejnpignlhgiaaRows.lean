/-
  No cell of these rows narrows 'for every input' (looked for: loops, veiled, ifaces, maps, wideKeys, modest, calm, conditions, laid).
  DERIVED. THE GIVEN ROWS OF THIS SEAT. 12 by the template 'for every input the law returns true; each argument reads behind the call as it read before'; 0 by the template 'total and deterministic' (their statements: YthejnpignlhgiaaTotals.lean).
  GIVEN WITH THE SEED: the statements are not yours to turn. If you find one false, say at which input.
  Laid BY PROGRAM, IN A SANDBOX (cutbox-rows.mjs): the forced cells as the released guide's own fill.sh prints them over the translation 677b213e1955dbfe… (all of the seat's roots in one cut). By AI agents, Wed Nov 11 2026. No macro, syntax, notation, axiom, sorry.
-/
import Derived.Test.YthejnpignlhgiaaChecked
import GoSem.Claim
import GoSem.ClaimJoined
import GoSem.ClaimMapViews
import Derived.JoinedTies
import Derived.KernelRfl
namespace Go.Proofs.Ythejnpignlhgiaa
/- THE CELL 'sum', in the pinned program and in every row, IS THE sha256 OF THE DUMP (.gsa) THAT YthejnpignlhgiaaProg.lean LOADS. Nothing in Lean hashes anything: it is a label: what it is worth is what the hold of that sum in a sandbox is worth. -/
noncomputable def Try.pinned : Pinned := { name := "ythejnpignlhgiaa", sum := "677b213e1955dbfed66e14a357099387c4e5845600e09b1d248d781226b936e9", checked := Try.checked }
namespace Rows
def none {H : Type} : Left H := { results := [], args := [] }

/-- 'laws.FnExactIsSession': WHATEVER THE INPUT: true; the input reads as it did. -/
def fnExactIsSessionSpec : ChangeSpec := { name := "fnExactIsSession", fn := fun _ => fun
  | [d1, d2] => { results := [.lit (.bool true)], args := [d1, d2] }
  | _ => none }
def fnExactIsSessionRow : OpenClaim := { program := "ythejnpignlhgiaa", sum := "677b213e1955dbfed66e14a357099387c4e5845600e09b1d248d781226b936e9", func := "loop.example/g01183/laws.FnExactIsSession", spec := "fnExactIsSession", apart := false }
def FnExactIsSessionSaid : Prop := fnExactIsSessionRow.holds Try.pinned (OpenSpec.ofChange fnExactIsSessionSpec)

/-- ITS FALSE NEIGHBOUR: 'it returns false'. Refute it at one input. -/
def fnExactIsSessionWrong : ChangeSpec := { name := "fnExactIsSession", fn := fun _ => fun
  | [d1, d2] => { results := [.lit (.bool false)], args := [d1, d2] }
  | _ => none }
def FnExactIsSessionWrongFalsely : Prop := fnExactIsSessionRow.holds Try.pinned (OpenSpec.ofChange fnExactIsSessionWrong)

/-- 'laws.FnExactCodeOf': WHATEVER THE INPUT: true; the input reads as it did. -/
def fnExactCodeOfSpec : ChangeSpec := { name := "fnExactCodeOf", fn := fun _ => fun
  | [d1, d2, d3, d4] => { results := [.lit (.bool true)], args := [d1, d2, d3, d4] }
  | _ => none }
def fnExactCodeOfRow : OpenClaim := { program := "ythejnpignlhgiaa", sum := "677b213e1955dbfed66e14a357099387c4e5845600e09b1d248d781226b936e9", func := "loop.example/g01183/laws.FnExactCodeOf", spec := "fnExactCodeOf", unfollowed := true, recurses := true, apart := false }
def FnExactCodeOfSaid : Prop := fnExactCodeOfRow.holds Try.pinned (OpenSpec.ofChange fnExactCodeOfSpec)

/-- ITS FALSE NEIGHBOUR: 'it returns false'. Refute it at one input. -/
def fnExactCodeOfWrong : ChangeSpec := { name := "fnExactCodeOf", fn := fun _ => fun
  | [d1, d2, d3, d4] => { results := [.lit (.bool false)], args := [d1, d2, d3, d4] }
  | _ => none }
def FnExactCodeOfWrongFalsely : Prop := fnExactCodeOfRow.holds Try.pinned (OpenSpec.ofChange fnExactCodeOfWrong)

/-- 'laws.FnExactExitPath': WHATEVER THE INPUT: true; the input reads as it did. -/
def fnExactExitPathSpec : ChangeSpec := { name := "fnExactExitPath", fn := fun _ => fun
  | [d1, d2, d3, d4] => { results := [.lit (.bool true)], args := [d1, d2, d3, d4] }
  | _ => none }
def fnExactExitPathRow : OpenClaim := { program := "ythejnpignlhgiaa", sum := "677b213e1955dbfed66e14a357099387c4e5845600e09b1d248d781226b936e9", func := "loop.example/g01183/laws.FnExactExitPath", spec := "fnExactExitPath", unfollowed := true, recurses := true, apart := false }
def FnExactExitPathSaid : Prop := fnExactExitPathRow.holds Try.pinned (OpenSpec.ofChange fnExactExitPathSpec)

/-- ITS FALSE NEIGHBOUR: 'it returns false'. Refute it at one input. -/
def fnExactExitPathWrong : ChangeSpec := { name := "fnExactExitPath", fn := fun _ => fun
  | [d1, d2, d3, d4] => { results := [.lit (.bool false)], args := [d1, d2, d3, d4] }
  | _ => none }
def FnExactExitPathWrongFalsely : Prop := fnExactExitPathRow.holds Try.pinned (OpenSpec.ofChange fnExactExitPathWrong)

/-- 'laws.FnExactExitingArgs': WHATEVER THE INPUT: true; the input reads as it did. -/
def fnExactExitingArgsSpec : ChangeSpec := { name := "fnExactExitingArgs", fn := fun _ => fun
  | [d1, d2, d3, d4, d5] => { results := [.lit (.bool true)], args := [d1, d2, d3, d4, d5] }
  | _ => none }
def fnExactExitingArgsRow : OpenClaim := { program := "ythejnpignlhgiaa", sum := "677b213e1955dbfed66e14a357099387c4e5845600e09b1d248d781226b936e9", func := "loop.example/g01183/laws.FnExactExitingArgs", spec := "fnExactExitingArgs", unfollowed := true, recurses := true, apart := false }
def FnExactExitingArgsSaid : Prop := fnExactExitingArgsRow.holds Try.pinned (OpenSpec.ofChange fnExactExitingArgsSpec)

/-- ITS FALSE NEIGHBOUR: 'it returns false'. Refute it at one input. -/
def fnExactExitingArgsWrong : ChangeSpec := { name := "fnExactExitingArgs", fn := fun _ => fun
  | [d1, d2, d3, d4, d5] => { results := [.lit (.bool false)], args := [d1, d2, d3, d4, d5] }
  | _ => none }
def FnExactExitingArgsWrongFalsely : Prop := fnExactExitingArgsRow.holds Try.pinned (OpenSpec.ofChange fnExactExitingArgsWrong)

/-- 'laws.FnExactRunFrom': WHATEVER THE INPUT: true; the input reads as it did. -/
def fnExactRunFromSpec : ChangeSpec := { name := "fnExactRunFrom", fn := fun _ => fun
  | [d1, d2, d3, d4, d5] => { results := [.lit (.bool true)], args := [d1, d2, d3, d4, d5] }
  | _ => none }
def fnExactRunFromRow : OpenClaim := { program := "ythejnpignlhgiaa", sum := "677b213e1955dbfed66e14a357099387c4e5845600e09b1d248d781226b936e9", func := "loop.example/g01183/laws.FnExactRunFrom", spec := "fnExactRunFrom", unfollowed := true, recurses := true, apart := false }
def FnExactRunFromSaid : Prop := fnExactRunFromRow.holds Try.pinned (OpenSpec.ofChange fnExactRunFromSpec)

/-- ITS FALSE NEIGHBOUR: 'it returns false'. Refute it at one input. -/
def fnExactRunFromWrong : ChangeSpec := { name := "fnExactRunFrom", fn := fun _ => fun
  | [d1, d2, d3, d4, d5] => { results := [.lit (.bool false)], args := [d1, d2, d3, d4, d5] }
  | _ => none }
def FnExactRunFromWrongFalsely : Prop := fnExactRunFromRow.holds Try.pinned (OpenSpec.ofChange fnExactRunFromWrong)

/-- 'laws.FnExactSessionKinds': WHATEVER THE INPUT: true; the input reads as it did. -/
def fnExactSessionKindsSpec : ChangeSpec := { name := "fnExactSessionKinds", fn := fun _ => fun
  | [d1, d2, d3] => { results := [.lit (.bool true)], args := [d1, d2, d3] }
  | _ => none }
def fnExactSessionKindsRow : OpenClaim := { program := "ythejnpignlhgiaa", sum := "677b213e1955dbfed66e14a357099387c4e5845600e09b1d248d781226b936e9", func := "loop.example/g01183/laws.FnExactSessionKinds", spec := "fnExactSessionKinds", unfollowed := true, recurses := true, apart := false }
def FnExactSessionKindsSaid : Prop := fnExactSessionKindsRow.holds Try.pinned (OpenSpec.ofChange fnExactSessionKindsSpec)

/-- ITS FALSE NEIGHBOUR: 'it returns false'. Refute it at one input. -/
def fnExactSessionKindsWrong : ChangeSpec := { name := "fnExactSessionKinds", fn := fun _ => fun
  | [d1, d2, d3] => { results := [.lit (.bool false)], args := [d1, d2, d3] }
  | _ => none }
def FnExactSessionKindsWrongFalsely : Prop := fnExactSessionKindsRow.holds Try.pinned (OpenSpec.ofChange fnExactSessionKindsWrong)

/-- 'laws.FnExactSessionCode': WHATEVER THE INPUT: true; the input reads as it did. -/
def fnExactSessionCodeSpec : ChangeSpec := { name := "fnExactSessionCode", fn := fun _ => fun
  | [d1, d2, d3] => { results := [.lit (.bool true)], args := [d1, d2, d3] }
  | _ => none }
def fnExactSessionCodeRow : OpenClaim := { program := "ythejnpignlhgiaa", sum := "677b213e1955dbfed66e14a357099387c4e5845600e09b1d248d781226b936e9", func := "loop.example/g01183/laws.FnExactSessionCode", spec := "fnExactSessionCode", unfollowed := true, recurses := true, apart := false }
def FnExactSessionCodeSaid : Prop := fnExactSessionCodeRow.holds Try.pinned (OpenSpec.ofChange fnExactSessionCodeSpec)

/-- ITS FALSE NEIGHBOUR: 'it returns false'. Refute it at one input. -/
def fnExactSessionCodeWrong : ChangeSpec := { name := "fnExactSessionCode", fn := fun _ => fun
  | [d1, d2, d3] => { results := [.lit (.bool false)], args := [d1, d2, d3] }
  | _ => none }
def FnExactSessionCodeWrongFalsely : Prop := fnExactSessionCodeRow.holds Try.pinned (OpenSpec.ofChange fnExactSessionCodeWrong)

/-- 'laws.FnExactSessionSays': WHATEVER THE INPUT: true; the input reads as it did. -/
def fnExactSessionSaysSpec : ChangeSpec := { name := "fnExactSessionSays", fn := fun _ => fun
  | [d1, d2, d3] => { results := [.lit (.bool true)], args := [d1, d2, d3] }
  | _ => none }
def fnExactSessionSaysRow : OpenClaim := { program := "ythejnpignlhgiaa", sum := "677b213e1955dbfed66e14a357099387c4e5845600e09b1d248d781226b936e9", func := "loop.example/g01183/laws.FnExactSessionSays", spec := "fnExactSessionSays", unfollowed := true, recurses := true, apart := false }
def FnExactSessionSaysSaid : Prop := fnExactSessionSaysRow.holds Try.pinned (OpenSpec.ofChange fnExactSessionSaysSpec)

/-- ITS FALSE NEIGHBOUR: 'it returns false'. Refute it at one input. -/
def fnExactSessionSaysWrong : ChangeSpec := { name := "fnExactSessionSays", fn := fun _ => fun
  | [d1, d2, d3] => { results := [.lit (.bool false)], args := [d1, d2, d3] }
  | _ => none }
def FnExactSessionSaysWrongFalsely : Prop := fnExactSessionSaysRow.holds Try.pinned (OpenSpec.ofChange fnExactSessionSaysWrong)

/-- 'laws.FnExactSharedLeft': WHATEVER THE INPUT: true; the input reads as it did. -/
def fnExactSharedLeftSpec : ChangeSpec := { name := "fnExactSharedLeft", fn := fun _ => fun
  | [d1, d2, d3] => { results := [.lit (.bool true)], args := [d1, d2, d3] }
  | _ => none }
def fnExactSharedLeftRow : OpenClaim := { program := "ythejnpignlhgiaa", sum := "677b213e1955dbfed66e14a357099387c4e5845600e09b1d248d781226b936e9", func := "loop.example/g01183/laws.FnExactSharedLeft", spec := "fnExactSharedLeft", unfollowed := true, recurses := true, apart := false }
def FnExactSharedLeftSaid : Prop := fnExactSharedLeftRow.holds Try.pinned (OpenSpec.ofChange fnExactSharedLeftSpec)

/-- ITS FALSE NEIGHBOUR: 'it returns false'. Refute it at one input. -/
def fnExactSharedLeftWrong : ChangeSpec := { name := "fnExactSharedLeft", fn := fun _ => fun
  | [d1, d2, d3] => { results := [.lit (.bool false)], args := [d1, d2, d3] }
  | _ => none }
def FnExactSharedLeftWrongFalsely : Prop := fnExactSharedLeftRow.holds Try.pinned (OpenSpec.ofChange fnExactSharedLeftWrong)

/-- 'laws.FnExactJobsNeeded': WHATEVER THE INPUT: true; the input reads as it did. -/
def fnExactJobsNeededSpec : ChangeSpec := { name := "fnExactJobsNeeded", fn := fun _ => fun
  | [d1, d2, d3, d4] => { results := [.lit (.bool true)], args := [d1, d2, d3, d4] }
  | _ => none }
def fnExactJobsNeededRow : OpenClaim := { program := "ythejnpignlhgiaa", sum := "677b213e1955dbfed66e14a357099387c4e5845600e09b1d248d781226b936e9", func := "loop.example/g01183/laws.FnExactJobsNeeded", spec := "fnExactJobsNeeded", unfollowed := true, recurses := true, apart := false }
def FnExactJobsNeededSaid : Prop := fnExactJobsNeededRow.holds Try.pinned (OpenSpec.ofChange fnExactJobsNeededSpec)

/-- ITS FALSE NEIGHBOUR: 'it returns false'. Refute it at one input. -/
def fnExactJobsNeededWrong : ChangeSpec := { name := "fnExactJobsNeeded", fn := fun _ => fun
  | [d1, d2, d3, d4] => { results := [.lit (.bool false)], args := [d1, d2, d3, d4] }
  | _ => none }
def FnExactJobsNeededWrongFalsely : Prop := fnExactJobsNeededRow.holds Try.pinned (OpenSpec.ofChange fnExactJobsNeededWrong)

/-- 'laws.FnExactCarryOut': WHATEVER THE INPUT: true; the input reads as it did. -/
def fnExactCarryOutSpec : ChangeSpec := { name := "fnExactCarryOut", fn := fun _ => fun
  | [d1, d2, d3, d4] => { results := [.lit (.bool true)], args := [d1, d2, d3, d4] }
  | _ => none }
def fnExactCarryOutRow : OpenClaim := { program := "ythejnpignlhgiaa", sum := "677b213e1955dbfed66e14a357099387c4e5845600e09b1d248d781226b936e9", func := "loop.example/g01183/laws.FnExactCarryOut", spec := "fnExactCarryOut", unfollowed := true, recurses := true, apart := false }
def FnExactCarryOutSaid : Prop := fnExactCarryOutRow.holds Try.pinned (OpenSpec.ofChange fnExactCarryOutSpec)

/-- ITS FALSE NEIGHBOUR: 'it returns false'. Refute it at one input. -/
def fnExactCarryOutWrong : ChangeSpec := { name := "fnExactCarryOut", fn := fun _ => fun
  | [d1, d2, d3, d4] => { results := [.lit (.bool false)], args := [d1, d2, d3, d4] }
  | _ => none }
def FnExactCarryOutWrongFalsely : Prop := fnExactCarryOutRow.holds Try.pinned (OpenSpec.ofChange fnExactCarryOutWrong)

/-- 'laws.FnExactStuckDeeds': WHATEVER THE INPUT: true; the input reads as it did. -/
def fnExactStuckDeedsSpec : ChangeSpec := { name := "fnExactStuckDeeds", fn := fun _ => fun
  | [d1, d2, d3, d4] => { results := [.lit (.bool true)], args := [d1, d2, d3, d4] }
  | _ => none }
def fnExactStuckDeedsRow : OpenClaim := { program := "ythejnpignlhgiaa", sum := "677b213e1955dbfed66e14a357099387c4e5845600e09b1d248d781226b936e9", func := "loop.example/g01183/laws.FnExactStuckDeeds", spec := "fnExactStuckDeeds", unfollowed := true, recurses := true, apart := false }
def FnExactStuckDeedsSaid : Prop := fnExactStuckDeedsRow.holds Try.pinned (OpenSpec.ofChange fnExactStuckDeedsSpec)

/-- ITS FALSE NEIGHBOUR: 'it returns false'. Refute it at one input. -/
def fnExactStuckDeedsWrong : ChangeSpec := { name := "fnExactStuckDeeds", fn := fun _ => fun
  | [d1, d2, d3, d4] => { results := [.lit (.bool false)], args := [d1, d2, d3, d4] }
  | _ => none }
def FnExactStuckDeedsWrongFalsely : Prop := fnExactStuckDeedsRow.holds Try.pinned (OpenSpec.ofChange fnExactStuckDeedsWrong)

/- THE SECOND FORM. 'bulk': how many values and letters a reading holds, each counted each time it is reached (what is shared counts as often as it is met; a slice's spare places count too). A statement '..UptoSaid' is the law's where the arguments, and the package variables that the reading takes, are together of bulk at most 1048576: NARROWER than '..Said'. Prove '..Said' where nothing that the law and all that it calls make is longer than what came in: it says more and counts as full. Else prove '..UptoSaid'. A law counts once. -/
mutual
def uptoBulk {H : Type} : DataW H → Nat
  | .lit (.string bytes) => bytes.length + 1
  | .lit _ => 1
  | .nil => 1
  | .ptr d => uptoBulk d + 1
  | .slice elems spare => uptoBulkAll elems + uptoBulkAll spare + 1
  | .agg parts => uptoBulkAll parts + 1
  | .iface _ d => uptoBulk d + 1
  | .map entries => uptoBulkEntries entries + 1
  | .held _ => 1
def uptoBulkAll {H : Type} : List (DataW H) → Nat
  | [] => 0
  | d :: r => uptoBulk d + uptoBulkAll r
def uptoBulkEntries {H : Type} : List (Lit × DataW H) → Nat
  | [] => 0
  | x :: r => uptoBulkEntry x + uptoBulkEntries r
def uptoBulkEntry {H : Type} : Lit × DataW H → Nat
  | (.string bytes, d) => bytes.length + uptoBulk d + 1
  | (_, d) => uptoBulk d + 1
 end
def uptoSmall : (H : Type) → List (DataW H) → Bool := fun _ ds => decide (uptoBulkAll ds ≤ 1048576)
def OpenSpec.upto (s : _root_.Go.ChangeSpec) : _root_.Go.OpenSpec := { _root_.Go.OpenSpec.ofChange s with cond := some uptoSmall }

/-- 'laws.FnExactIsSession', WHERE WHAT IT READS IS OF BULK AT MOST 1048576: true; the input reads as it did. -/
def fnExactIsSessionUptoRow : OpenClaim := { program := "ythejnpignlhgiaa", sum := "677b213e1955dbfed66e14a357099387c4e5845600e09b1d248d781226b936e9", func := "loop.example/g01183/laws.FnExactIsSession", spec := "fnExactIsSession", apart := false, narrowed := true }
def FnExactIsSessionUptoSaid : Prop := fnExactIsSessionUptoRow.holds Try.pinned (OpenSpec.upto fnExactIsSessionSpec)

/-- 'laws.FnExactCodeOf', WHERE WHAT IT READS IS OF BULK AT MOST 1048576: true; the input reads as it did. -/
def fnExactCodeOfUptoRow : OpenClaim := { program := "ythejnpignlhgiaa", sum := "677b213e1955dbfed66e14a357099387c4e5845600e09b1d248d781226b936e9", func := "loop.example/g01183/laws.FnExactCodeOf", spec := "fnExactCodeOf", unfollowed := true, recurses := true, apart := false, narrowed := true }
def FnExactCodeOfUptoSaid : Prop := fnExactCodeOfUptoRow.holds Try.pinned (OpenSpec.upto fnExactCodeOfSpec)

/-- 'laws.FnExactExitPath', WHERE WHAT IT READS IS OF BULK AT MOST 1048576: true; the input reads as it did. -/
def fnExactExitPathUptoRow : OpenClaim := { program := "ythejnpignlhgiaa", sum := "677b213e1955dbfed66e14a357099387c4e5845600e09b1d248d781226b936e9", func := "loop.example/g01183/laws.FnExactExitPath", spec := "fnExactExitPath", unfollowed := true, recurses := true, apart := false, narrowed := true }
def FnExactExitPathUptoSaid : Prop := fnExactExitPathUptoRow.holds Try.pinned (OpenSpec.upto fnExactExitPathSpec)

/-- 'laws.FnExactExitingArgs', WHERE WHAT IT READS IS OF BULK AT MOST 1048576: true; the input reads as it did. -/
def fnExactExitingArgsUptoRow : OpenClaim := { program := "ythejnpignlhgiaa", sum := "677b213e1955dbfed66e14a357099387c4e5845600e09b1d248d781226b936e9", func := "loop.example/g01183/laws.FnExactExitingArgs", spec := "fnExactExitingArgs", unfollowed := true, recurses := true, apart := false, narrowed := true }
def FnExactExitingArgsUptoSaid : Prop := fnExactExitingArgsUptoRow.holds Try.pinned (OpenSpec.upto fnExactExitingArgsSpec)

/-- 'laws.FnExactRunFrom', WHERE WHAT IT READS IS OF BULK AT MOST 1048576: true; the input reads as it did. -/
def fnExactRunFromUptoRow : OpenClaim := { program := "ythejnpignlhgiaa", sum := "677b213e1955dbfed66e14a357099387c4e5845600e09b1d248d781226b936e9", func := "loop.example/g01183/laws.FnExactRunFrom", spec := "fnExactRunFrom", unfollowed := true, recurses := true, apart := false, narrowed := true }
def FnExactRunFromUptoSaid : Prop := fnExactRunFromUptoRow.holds Try.pinned (OpenSpec.upto fnExactRunFromSpec)

/-- 'laws.FnExactSessionKinds', WHERE WHAT IT READS IS OF BULK AT MOST 1048576: true; the input reads as it did. -/
def fnExactSessionKindsUptoRow : OpenClaim := { program := "ythejnpignlhgiaa", sum := "677b213e1955dbfed66e14a357099387c4e5845600e09b1d248d781226b936e9", func := "loop.example/g01183/laws.FnExactSessionKinds", spec := "fnExactSessionKinds", unfollowed := true, recurses := true, apart := false, narrowed := true }
def FnExactSessionKindsUptoSaid : Prop := fnExactSessionKindsUptoRow.holds Try.pinned (OpenSpec.upto fnExactSessionKindsSpec)

/-- 'laws.FnExactSessionCode', WHERE WHAT IT READS IS OF BULK AT MOST 1048576: true; the input reads as it did. -/
def fnExactSessionCodeUptoRow : OpenClaim := { program := "ythejnpignlhgiaa", sum := "677b213e1955dbfed66e14a357099387c4e5845600e09b1d248d781226b936e9", func := "loop.example/g01183/laws.FnExactSessionCode", spec := "fnExactSessionCode", unfollowed := true, recurses := true, apart := false, narrowed := true }
def FnExactSessionCodeUptoSaid : Prop := fnExactSessionCodeUptoRow.holds Try.pinned (OpenSpec.upto fnExactSessionCodeSpec)

/-- 'laws.FnExactSessionSays', WHERE WHAT IT READS IS OF BULK AT MOST 1048576: true; the input reads as it did. -/
def fnExactSessionSaysUptoRow : OpenClaim := { program := "ythejnpignlhgiaa", sum := "677b213e1955dbfed66e14a357099387c4e5845600e09b1d248d781226b936e9", func := "loop.example/g01183/laws.FnExactSessionSays", spec := "fnExactSessionSays", unfollowed := true, recurses := true, apart := false, narrowed := true }
def FnExactSessionSaysUptoSaid : Prop := fnExactSessionSaysUptoRow.holds Try.pinned (OpenSpec.upto fnExactSessionSaysSpec)

/-- 'laws.FnExactSharedLeft', WHERE WHAT IT READS IS OF BULK AT MOST 1048576: true; the input reads as it did. -/
def fnExactSharedLeftUptoRow : OpenClaim := { program := "ythejnpignlhgiaa", sum := "677b213e1955dbfed66e14a357099387c4e5845600e09b1d248d781226b936e9", func := "loop.example/g01183/laws.FnExactSharedLeft", spec := "fnExactSharedLeft", unfollowed := true, recurses := true, apart := false, narrowed := true }
def FnExactSharedLeftUptoSaid : Prop := fnExactSharedLeftUptoRow.holds Try.pinned (OpenSpec.upto fnExactSharedLeftSpec)

/-- 'laws.FnExactJobsNeeded', WHERE WHAT IT READS IS OF BULK AT MOST 1048576: true; the input reads as it did. -/
def fnExactJobsNeededUptoRow : OpenClaim := { program := "ythejnpignlhgiaa", sum := "677b213e1955dbfed66e14a357099387c4e5845600e09b1d248d781226b936e9", func := "loop.example/g01183/laws.FnExactJobsNeeded", spec := "fnExactJobsNeeded", unfollowed := true, recurses := true, apart := false, narrowed := true }
def FnExactJobsNeededUptoSaid : Prop := fnExactJobsNeededUptoRow.holds Try.pinned (OpenSpec.upto fnExactJobsNeededSpec)

/-- 'laws.FnExactCarryOut', WHERE WHAT IT READS IS OF BULK AT MOST 1048576: true; the input reads as it did. -/
def fnExactCarryOutUptoRow : OpenClaim := { program := "ythejnpignlhgiaa", sum := "677b213e1955dbfed66e14a357099387c4e5845600e09b1d248d781226b936e9", func := "loop.example/g01183/laws.FnExactCarryOut", spec := "fnExactCarryOut", unfollowed := true, recurses := true, apart := false, narrowed := true }
def FnExactCarryOutUptoSaid : Prop := fnExactCarryOutUptoRow.holds Try.pinned (OpenSpec.upto fnExactCarryOutSpec)

/-- 'laws.FnExactStuckDeeds', WHERE WHAT IT READS IS OF BULK AT MOST 1048576: true; the input reads as it did. -/
def fnExactStuckDeedsUptoRow : OpenClaim := { program := "ythejnpignlhgiaa", sum := "677b213e1955dbfed66e14a357099387c4e5845600e09b1d248d781226b936e9", func := "loop.example/g01183/laws.FnExactStuckDeeds", spec := "fnExactStuckDeeds", unfollowed := true, recurses := true, apart := false, narrowed := true }
def FnExactStuckDeedsUptoSaid : Prop := fnExactStuckDeedsUptoRow.holds Try.pinned (OpenSpec.upto fnExactStuckDeedsSpec)

end Rows
end Go.Proofs.Ythejnpignlhgiaa
