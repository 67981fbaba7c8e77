/-
  No cell of these rows narrows 'for every input' (looked for: loops, veiled, ifaces, maps, wideKeys, modest, calm, conditions, laid).
  DERIVED. THE GIVEN ROWS OF THIS SEAT. 6 by the template 'for every input the law returns true; each argument reads behind the call as it read before'; 0 by the template 'total and deterministic' (their statements: YtibadkjdchdnjabTotals.lean).
  GIVEN WITH THE SEED: the statements are not yours to turn. If you find one false, say at which input.
  Laid BY PROGRAM, IN A SANDBOX (cutbox-rows.mjs): the forced cells as the released guide's own fill.sh prints them over the translation d0cdbcdb5765098a… (all of the seat's roots in one cut). By AI agents, Wed Nov 11 2026. No macro, syntax, notation, axiom, sorry.
-/
import Derived.Test.YtibadkjdchdnjabChecked
import GoSem.Claim
import GoSem.ClaimJoined
import GoSem.ClaimMapViews
import Derived.JoinedTies
import Derived.KernelRfl
namespace Go.Proofs.Ytibadkjdchdnjab
/- THE CELL 'sum', in the pinned program and in every row, IS THE sha256 OF THE DUMP (.gsa) THAT YtibadkjdchdnjabProg.lean LOADS. Nothing in Lean hashes anything: it is a label: what it is worth is what the hold of that sum in a sandbox is worth. -/
noncomputable def Try.pinned : Pinned := { name := "ytibadkjdchdnjab", sum := "d0cdbcdb5765098a57375bd8f39ab16812c5cda5b4b91da246b9372664244c9d", checked := Try.checked }
namespace Rows
def none {H : Type} : Left H := { results := [], args := [] }

/-- 'laws.FnExactGuardsOf': WHATEVER THE INPUT: true; the input reads as it did. -/
def fnExactGuardsOfSpec : ChangeSpec := { name := "fnExactGuardsOf", fn := fun _ => fun
  | [d1, d2] => { results := [.lit (.bool true)], args := [d1, d2] }
  | _ => none }
def fnExactGuardsOfRow : OpenClaim := { program := "ytibadkjdchdnjab", sum := "d0cdbcdb5765098a57375bd8f39ab16812c5cda5b4b91da246b9372664244c9d", func := "loop.example/g01183/laws.FnExactGuardsOf", spec := "fnExactGuardsOf", unfollowed := true, recurses := true, apart := false }
def FnExactGuardsOfSaid : Prop := fnExactGuardsOfRow.holds Try.pinned (OpenSpec.ofChange fnExactGuardsOfSpec)

/-- ITS FALSE NEIGHBOUR: 'it returns false'. Refute it at one input. -/
def fnExactGuardsOfWrong : ChangeSpec := { name := "fnExactGuardsOf", fn := fun _ => fun
  | [d1, d2] => { results := [.lit (.bool false)], args := [d1, d2] }
  | _ => none }
def FnExactGuardsOfWrongFalsely : Prop := fnExactGuardsOfRow.holds Try.pinned (OpenSpec.ofChange fnExactGuardsOfWrong)

/-- 'laws.FnExactIdleRecovers': WHATEVER THE INPUT: true; the input reads as it did. -/
def fnExactIdleRecoversSpec : ChangeSpec := { name := "fnExactIdleRecovers", fn := fun _ => fun
  | [d1, d2] => { results := [.lit (.bool true)], args := [d1, d2] }
  | _ => none }
def fnExactIdleRecoversRow : OpenClaim := { program := "ytibadkjdchdnjab", sum := "d0cdbcdb5765098a57375bd8f39ab16812c5cda5b4b91da246b9372664244c9d", func := "loop.example/g01183/laws.FnExactIdleRecovers", spec := "fnExactIdleRecovers", unfollowed := true, recurses := true, apart := false }
def FnExactIdleRecoversSaid : Prop := fnExactIdleRecoversRow.holds Try.pinned (OpenSpec.ofChange fnExactIdleRecoversSpec)

/-- ITS FALSE NEIGHBOUR: 'it returns false'. Refute it at one input. -/
def fnExactIdleRecoversWrong : ChangeSpec := { name := "fnExactIdleRecovers", fn := fun _ => fun
  | [d1, d2] => { results := [.lit (.bool false)], args := [d1, d2] }
  | _ => none }
def FnExactIdleRecoversWrongFalsely : Prop := fnExactIdleRecoversRow.holds Try.pinned (OpenSpec.ofChange fnExactIdleRecoversWrong)

/-- 'laws.FnExactWithoutRecovers': WHATEVER THE INPUT: true; the input reads as it did. -/
def fnExactWithoutRecoversSpec : ChangeSpec := { name := "fnExactWithoutRecovers", fn := fun _ => fun
  | [d] => { results := [.lit (.bool true)], args := [d] }
  | _ => none }
def fnExactWithoutRecoversRow : OpenClaim := { program := "ytibadkjdchdnjab", sum := "d0cdbcdb5765098a57375bd8f39ab16812c5cda5b4b91da246b9372664244c9d", func := "loop.example/g01183/laws.FnExactWithoutRecovers", spec := "fnExactWithoutRecovers", apart := false }
def FnExactWithoutRecoversSaid : Prop := fnExactWithoutRecoversRow.holds Try.pinned (OpenSpec.ofChange fnExactWithoutRecoversSpec)

/-- ITS FALSE NEIGHBOUR: 'it returns false'. Refute it at one input. -/
def fnExactWithoutRecoversWrong : ChangeSpec := { name := "fnExactWithoutRecovers", fn := fun _ => fun
  | [d] => { results := [.lit (.bool false)], args := [d] }
  | _ => none }
def FnExactWithoutRecoversWrongFalsely : Prop := fnExactWithoutRecoversRow.holds Try.pinned (OpenSpec.ofChange fnExactWithoutRecoversWrong)

/-- 'laws.FnExactTellingGuard': WHATEVER THE INPUT: true; the input reads as it did. -/
def fnExactTellingGuardSpec : ChangeSpec := { name := "fnExactTellingGuard", fn := fun _ => fun
  | [d1, d2] => { results := [.lit (.bool true)], args := [d1, d2] }
  | _ => none }
def fnExactTellingGuardRow : OpenClaim := { program := "ytibadkjdchdnjab", sum := "d0cdbcdb5765098a57375bd8f39ab16812c5cda5b4b91da246b9372664244c9d", func := "loop.example/g01183/laws.FnExactTellingGuard", spec := "fnExactTellingGuard", inPlace := ["slices.overlaps[loop.example/g01183/impl.Step]"], unfollowed := true, recurses := true, apart := false }
def FnExactTellingGuardSaid : Prop := fnExactTellingGuardRow.holds Try.pinned (OpenSpec.ofChange fnExactTellingGuardSpec)

/-- ITS FALSE NEIGHBOUR: 'it returns false'. Refute it at one input. -/
def fnExactTellingGuardWrong : ChangeSpec := { name := "fnExactTellingGuard", fn := fun _ => fun
  | [d1, d2] => { results := [.lit (.bool false)], args := [d1, d2] }
  | _ => none }
def FnExactTellingGuardWrongFalsely : Prop := fnExactTellingGuardRow.holds Try.pinned (OpenSpec.ofChange fnExactTellingGuardWrong)

/-- 'laws.FnExactSwallowingGuard': WHATEVER THE INPUT: true; the input reads as it did. -/
def fnExactSwallowingGuardSpec : ChangeSpec := { name := "fnExactSwallowingGuard", fn := fun _ => fun
  | [d1, d2] => { results := [.lit (.bool true)], args := [d1, d2] }
  | _ => none }
def fnExactSwallowingGuardRow : OpenClaim := { program := "ytibadkjdchdnjab", sum := "d0cdbcdb5765098a57375bd8f39ab16812c5cda5b4b91da246b9372664244c9d", func := "loop.example/g01183/laws.FnExactSwallowingGuard", spec := "fnExactSwallowingGuard", inPlace := ["slices.overlaps[loop.example/g01183/impl.Step]"], unfollowed := true, recurses := true, apart := false }
def FnExactSwallowingGuardSaid : Prop := fnExactSwallowingGuardRow.holds Try.pinned (OpenSpec.ofChange fnExactSwallowingGuardSpec)

/-- ITS FALSE NEIGHBOUR: 'it returns false'. Refute it at one input. -/
def fnExactSwallowingGuardWrong : ChangeSpec := { name := "fnExactSwallowingGuard", fn := fun _ => fun
  | [d1, d2] => { results := [.lit (.bool false)], args := [d1, d2] }
  | _ => none }
def FnExactSwallowingGuardWrongFalsely : Prop := fnExactSwallowingGuardRow.holds Try.pinned (OpenSpec.ofChange fnExactSwallowingGuardWrong)

/-- 'laws.FnExactThrowingGuard': WHATEVER THE INPUT: true; the input reads as it did. -/
def fnExactThrowingGuardSpec : ChangeSpec := { name := "fnExactThrowingGuard", fn := fun _ => fun
  | [d1, d2] => { results := [.lit (.bool true)], args := [d1, d2] }
  | _ => none }
def fnExactThrowingGuardRow : OpenClaim := { program := "ytibadkjdchdnjab", sum := "d0cdbcdb5765098a57375bd8f39ab16812c5cda5b4b91da246b9372664244c9d", func := "loop.example/g01183/laws.FnExactThrowingGuard", spec := "fnExactThrowingGuard", inPlace := ["slices.overlaps[loop.example/g01183/impl.Step]"], unfollowed := true, recurses := true, apart := false }
def FnExactThrowingGuardSaid : Prop := fnExactThrowingGuardRow.holds Try.pinned (OpenSpec.ofChange fnExactThrowingGuardSpec)

/-- ITS FALSE NEIGHBOUR: 'it returns false'. Refute it at one input. -/
def fnExactThrowingGuardWrong : ChangeSpec := { name := "fnExactThrowingGuard", fn := fun _ => fun
  | [d1, d2] => { results := [.lit (.bool false)], args := [d1, d2] }
  | _ => none }
def FnExactThrowingGuardWrongFalsely : Prop := fnExactThrowingGuardRow.holds Try.pinned (OpenSpec.ofChange fnExactThrowingGuardWrong)

/- THE SECOND FORM. 'bulk': how many values and letters a reading holds, each counted each time it is reached (what is shared counts as often as it is met; a slice's spare places count too). A statement '..UptoSaid' is the law's where the arguments, and the package variables that the reading takes, are together of bulk at most 1048576: NARROWER than '..Said'. Prove '..Said' where nothing that the law and all that it calls make is longer than what came in: it says more and counts as full. Else prove '..UptoSaid'. A law counts once. -/
mutual
def uptoBulk {H : Type} : DataW H → Nat
  | .lit (.string bytes) => bytes.length + 1
  | .lit _ => 1
  | .nil => 1
  | .ptr d => uptoBulk d + 1
  | .slice elems spare => uptoBulkAll elems + uptoBulkAll spare + 1
  | .agg parts => uptoBulkAll parts + 1
  | .iface _ d => uptoBulk d + 1
  | .map entries => uptoBulkEntries entries + 1
  | .held _ => 1
def uptoBulkAll {H : Type} : List (DataW H) → Nat
  | [] => 0
  | d :: r => uptoBulk d + uptoBulkAll r
def uptoBulkEntries {H : Type} : List (Lit × DataW H) → Nat
  | [] => 0
  | x :: r => uptoBulkEntry x + uptoBulkEntries r
def uptoBulkEntry {H : Type} : Lit × DataW H → Nat
  | (.string bytes, d) => bytes.length + uptoBulk d + 1
  | (_, d) => uptoBulk d + 1
 end
def uptoSmall : (H : Type) → List (DataW H) → Bool := fun _ ds => decide (uptoBulkAll ds ≤ 1048576)
def OpenSpec.upto (s : _root_.Go.ChangeSpec) : _root_.Go.OpenSpec := { _root_.Go.OpenSpec.ofChange s with cond := some uptoSmall }

/-- 'laws.FnExactGuardsOf', WHERE WHAT IT READS IS OF BULK AT MOST 1048576: true; the input reads as it did. -/
def fnExactGuardsOfUptoRow : OpenClaim := { program := "ytibadkjdchdnjab", sum := "d0cdbcdb5765098a57375bd8f39ab16812c5cda5b4b91da246b9372664244c9d", func := "loop.example/g01183/laws.FnExactGuardsOf", spec := "fnExactGuardsOf", unfollowed := true, recurses := true, apart := false, narrowed := true }
def FnExactGuardsOfUptoSaid : Prop := fnExactGuardsOfUptoRow.holds Try.pinned (OpenSpec.upto fnExactGuardsOfSpec)

/-- 'laws.FnExactIdleRecovers', WHERE WHAT IT READS IS OF BULK AT MOST 1048576: true; the input reads as it did. -/
def fnExactIdleRecoversUptoRow : OpenClaim := { program := "ytibadkjdchdnjab", sum := "d0cdbcdb5765098a57375bd8f39ab16812c5cda5b4b91da246b9372664244c9d", func := "loop.example/g01183/laws.FnExactIdleRecovers", spec := "fnExactIdleRecovers", unfollowed := true, recurses := true, apart := false, narrowed := true }
def FnExactIdleRecoversUptoSaid : Prop := fnExactIdleRecoversUptoRow.holds Try.pinned (OpenSpec.upto fnExactIdleRecoversSpec)

/-- 'laws.FnExactWithoutRecovers', WHERE WHAT IT READS IS OF BULK AT MOST 1048576: true; the input reads as it did. -/
def fnExactWithoutRecoversUptoRow : OpenClaim := { program := "ytibadkjdchdnjab", sum := "d0cdbcdb5765098a57375bd8f39ab16812c5cda5b4b91da246b9372664244c9d", func := "loop.example/g01183/laws.FnExactWithoutRecovers", spec := "fnExactWithoutRecovers", apart := false, narrowed := true }
def FnExactWithoutRecoversUptoSaid : Prop := fnExactWithoutRecoversUptoRow.holds Try.pinned (OpenSpec.upto fnExactWithoutRecoversSpec)

/-- 'laws.FnExactTellingGuard', WHERE WHAT IT READS IS OF BULK AT MOST 1048576: true; the input reads as it did. -/
def fnExactTellingGuardUptoRow : OpenClaim := { program := "ytibadkjdchdnjab", sum := "d0cdbcdb5765098a57375bd8f39ab16812c5cda5b4b91da246b9372664244c9d", func := "loop.example/g01183/laws.FnExactTellingGuard", spec := "fnExactTellingGuard", inPlace := ["slices.overlaps[loop.example/g01183/impl.Step]"], unfollowed := true, recurses := true, apart := false, narrowed := true }
def FnExactTellingGuardUptoSaid : Prop := fnExactTellingGuardUptoRow.holds Try.pinned (OpenSpec.upto fnExactTellingGuardSpec)

/-- 'laws.FnExactSwallowingGuard', WHERE WHAT IT READS IS OF BULK AT MOST 1048576: true; the input reads as it did. -/
def fnExactSwallowingGuardUptoRow : OpenClaim := { program := "ytibadkjdchdnjab", sum := "d0cdbcdb5765098a57375bd8f39ab16812c5cda5b4b91da246b9372664244c9d", func := "loop.example/g01183/laws.FnExactSwallowingGuard", spec := "fnExactSwallowingGuard", inPlace := ["slices.overlaps[loop.example/g01183/impl.Step]"], unfollowed := true, recurses := true, apart := false, narrowed := true }
def FnExactSwallowingGuardUptoSaid : Prop := fnExactSwallowingGuardUptoRow.holds Try.pinned (OpenSpec.upto fnExactSwallowingGuardSpec)

/-- 'laws.FnExactThrowingGuard', WHERE WHAT IT READS IS OF BULK AT MOST 1048576: true; the input reads as it did. -/
def fnExactThrowingGuardUptoRow : OpenClaim := { program := "ytibadkjdchdnjab", sum := "d0cdbcdb5765098a57375bd8f39ab16812c5cda5b4b91da246b9372664244c9d", func := "loop.example/g01183/laws.FnExactThrowingGuard", spec := "fnExactThrowingGuard", inPlace := ["slices.overlaps[loop.example/g01183/impl.Step]"], unfollowed := true, recurses := true, apart := false, narrowed := true }
def FnExactThrowingGuardUptoSaid : Prop := fnExactThrowingGuardUptoRow.holds Try.pinned (OpenSpec.upto fnExactThrowingGuardSpec)

end Rows
end Go.Proofs.Ytibadkjdchdnjab
