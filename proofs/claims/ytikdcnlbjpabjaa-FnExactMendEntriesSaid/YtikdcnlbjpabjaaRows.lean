/-
  No cell of these rows narrows 'for every input' (looked for: loops, veiled, ifaces, maps, wideKeys, modest, calm, conditions, laid).
  DERIVED. THE GIVEN ROWS OF THIS SEAT. 5 by the template 'for every input the law returns true; each argument reads behind the call as it read before'; 0 by the template 'total and deterministic' (their statements: YtikdcnlbjpabjaaTotals.lean).
  GIVEN WITH THE SEED: the statements are not yours to turn. If you find one false, say at which input.
  Laid BY PROGRAM, IN A SANDBOX (cutbox-rows.mjs): the forced cells as the released guide's own fill.sh prints them over the translation 2b70412959c711f8… (all of the seat's roots in one cut). By AI agents, Wed Nov 11 2026. No macro, syntax, notation, axiom, sorry.
-/
import Derived.Test.YtikdcnlbjpabjaaChecked
import GoSem.Claim
import GoSem.ClaimJoined
import GoSem.ClaimMapViews
import Derived.JoinedTies
import Derived.KernelRfl
namespace Go.Proofs.Ytikdcnlbjpabjaa
/- THE CELL 'sum', in the pinned program and in every row, IS THE sha256 OF THE DUMP (.gsa) THAT YtikdcnlbjpabjaaProg.lean LOADS. Nothing in Lean hashes anything: it is a label: what it is worth is what the hold of that sum in a sandbox is worth. -/
noncomputable def Try.pinned : Pinned := { name := "ytikdcnlbjpabjaa", sum := "2b70412959c711f86c8123b47166511a7ec529b2cdd5376911bb2cbc650ff4dd", checked := Try.checked }
namespace Rows
def none {H : Type} : Left H := { results := [], args := [] }

/-- 'laws.FnExactIsTidy': WHATEVER THE INPUT: true; the input reads as it did. -/
def fnExactIsTidySpec : ChangeSpec := { name := "fnExactIsTidy", fn := fun _ => fun
  | [d] => { results := [.lit (.bool true)], args := [d] }
  | _ => none }
def fnExactIsTidyRow : OpenClaim := { program := "ytikdcnlbjpabjaa", sum := "2b70412959c711f86c8123b47166511a7ec529b2cdd5376911bb2cbc650ff4dd", func := "loop.example/g01183/laws.FnExactIsTidy", spec := "fnExactIsTidy", unfollowed := true, recurses := true, apart := false }
def FnExactIsTidySaid : Prop := fnExactIsTidyRow.holds Try.pinned (OpenSpec.ofChange fnExactIsTidySpec)

/-- ITS FALSE NEIGHBOUR: 'it returns false'. Refute it at one input. -/
def fnExactIsTidyWrong : ChangeSpec := { name := "fnExactIsTidy", fn := fun _ => fun
  | [d] => { results := [.lit (.bool false)], args := [d] }
  | _ => none }
def FnExactIsTidyWrongFalsely : Prop := fnExactIsTidyRow.holds Try.pinned (OpenSpec.ofChange fnExactIsTidyWrong)

/-- 'laws.FnExactIsNested': WHATEVER THE INPUT: true; the input reads as it did. -/
def fnExactIsNestedSpec : ChangeSpec := { name := "fnExactIsNested", fn := fun _ => fun
  | [d] => { results := [.lit (.bool true)], args := [d] }
  | _ => none }
def fnExactIsNestedRow : OpenClaim := { program := "ytikdcnlbjpabjaa", sum := "2b70412959c711f86c8123b47166511a7ec529b2cdd5376911bb2cbc650ff4dd", func := "loop.example/g01183/laws.FnExactIsNested", spec := "fnExactIsNested", unfollowed := true, recurses := true, apart := false }
def FnExactIsNestedSaid : Prop := fnExactIsNestedRow.holds Try.pinned (OpenSpec.ofChange fnExactIsNestedSpec)

/-- ITS FALSE NEIGHBOUR: 'it returns false'. Refute it at one input. -/
def fnExactIsNestedWrong : ChangeSpec := { name := "fnExactIsNested", fn := fun _ => fun
  | [d] => { results := [.lit (.bool false)], args := [d] }
  | _ => none }
def FnExactIsNestedWrongFalsely : Prop := fnExactIsNestedRow.holds Try.pinned (OpenSpec.ofChange fnExactIsNestedWrong)

/-- 'laws.FnExactMostOpen': WHATEVER THE INPUT: true; the input reads as it did. -/
def fnExactMostOpenSpec : ChangeSpec := { name := "fnExactMostOpen", fn := fun _ => fun
  | [d] => { results := [.lit (.bool true)], args := [d] }
  | _ => none }
def fnExactMostOpenRow : OpenClaim := { program := "ytikdcnlbjpabjaa", sum := "2b70412959c711f86c8123b47166511a7ec529b2cdd5376911bb2cbc650ff4dd", func := "loop.example/g01183/laws.FnExactMostOpen", spec := "fnExactMostOpen", apart := false }
def FnExactMostOpenSaid : Prop := fnExactMostOpenRow.holds Try.pinned (OpenSpec.ofChange fnExactMostOpenSpec)

/-- ITS FALSE NEIGHBOUR: 'it returns false'. Refute it at one input. -/
def fnExactMostOpenWrong : ChangeSpec := { name := "fnExactMostOpen", fn := fun _ => fun
  | [d] => { results := [.lit (.bool false)], args := [d] }
  | _ => none }
def FnExactMostOpenWrongFalsely : Prop := fnExactMostOpenRow.holds Try.pinned (OpenSpec.ofChange fnExactMostOpenWrong)

/-- 'laws.FnExactSpansOf': WHATEVER THE INPUT: true; the input reads as it did. -/
def fnExactSpansOfSpec : ChangeSpec := { name := "fnExactSpansOf", fn := fun _ => fun
  | [d] => { results := [.lit (.bool true)], args := [d] }
  | _ => none }
def fnExactSpansOfRow : OpenClaim := { program := "ytikdcnlbjpabjaa", sum := "2b70412959c711f86c8123b47166511a7ec529b2cdd5376911bb2cbc650ff4dd", func := "loop.example/g01183/laws.FnExactSpansOf", spec := "fnExactSpansOf", apart := false }
def FnExactSpansOfSaid : Prop := fnExactSpansOfRow.holds Try.pinned (OpenSpec.ofChange fnExactSpansOfSpec)

/-- ITS FALSE NEIGHBOUR: 'it returns false'. Refute it at one input. -/
def fnExactSpansOfWrong : ChangeSpec := { name := "fnExactSpansOf", fn := fun _ => fun
  | [d] => { results := [.lit (.bool false)], args := [d] }
  | _ => none }
def FnExactSpansOfWrongFalsely : Prop := fnExactSpansOfRow.holds Try.pinned (OpenSpec.ofChange fnExactSpansOfWrong)

/-- 'laws.FnExactMendEntries': WHATEVER THE INPUT: true; the input reads as it did. -/
def fnExactMendEntriesSpec : ChangeSpec := { name := "fnExactMendEntries", fn := fun _ => fun
  | [d] => { results := [.lit (.bool true)], args := [d] }
  | _ => none }
def fnExactMendEntriesRow : OpenClaim := { program := "ytikdcnlbjpabjaa", sum := "2b70412959c711f86c8123b47166511a7ec529b2cdd5376911bb2cbc650ff4dd", func := "loop.example/g01183/laws.FnExactMendEntries", spec := "fnExactMendEntries", apart := false }
def FnExactMendEntriesSaid : Prop := fnExactMendEntriesRow.holds Try.pinned (OpenSpec.ofChange fnExactMendEntriesSpec)

/-- ITS FALSE NEIGHBOUR: 'it returns false'. Refute it at one input. -/
def fnExactMendEntriesWrong : ChangeSpec := { name := "fnExactMendEntries", fn := fun _ => fun
  | [d] => { results := [.lit (.bool false)], args := [d] }
  | _ => none }
def FnExactMendEntriesWrongFalsely : Prop := fnExactMendEntriesRow.holds Try.pinned (OpenSpec.ofChange fnExactMendEntriesWrong)

/- THE SECOND FORM. 'bulk': how many values and letters a reading holds, each counted each time it is reached (what is shared counts as often as it is met; a slice's spare places count too). A statement '..UptoSaid' is the law's where the arguments, and the package variables that the reading takes, are together of bulk at most 1048576: NARROWER than '..Said'. Prove '..Said' where nothing that the law and all that it calls make is longer than what came in: it says more and counts as full. Else prove '..UptoSaid'. A law counts once. -/
mutual
def uptoBulk {H : Type} : DataW H → Nat
  | .lit (.string bytes) => bytes.length + 1
  | .lit _ => 1
  | .nil => 1
  | .ptr d => uptoBulk d + 1
  | .slice elems spare => uptoBulkAll elems + uptoBulkAll spare + 1
  | .agg parts => uptoBulkAll parts + 1
  | .iface _ d => uptoBulk d + 1
  | .map entries => uptoBulkEntries entries + 1
  | .held _ => 1
def uptoBulkAll {H : Type} : List (DataW H) → Nat
  | [] => 0
  | d :: r => uptoBulk d + uptoBulkAll r
def uptoBulkEntries {H : Type} : List (Lit × DataW H) → Nat
  | [] => 0
  | x :: r => uptoBulkEntry x + uptoBulkEntries r
def uptoBulkEntry {H : Type} : Lit × DataW H → Nat
  | (.string bytes, d) => bytes.length + uptoBulk d + 1
  | (_, d) => uptoBulk d + 1
 end
def uptoSmall : (H : Type) → List (DataW H) → Bool := fun _ ds => decide (uptoBulkAll ds ≤ 1048576)
def OpenSpec.upto (s : _root_.Go.ChangeSpec) : _root_.Go.OpenSpec := { _root_.Go.OpenSpec.ofChange s with cond := some uptoSmall }

/-- 'laws.FnExactIsTidy', WHERE WHAT IT READS IS OF BULK AT MOST 1048576: true; the input reads as it did. -/
def fnExactIsTidyUptoRow : OpenClaim := { program := "ytikdcnlbjpabjaa", sum := "2b70412959c711f86c8123b47166511a7ec529b2cdd5376911bb2cbc650ff4dd", func := "loop.example/g01183/laws.FnExactIsTidy", spec := "fnExactIsTidy", unfollowed := true, recurses := true, apart := false, narrowed := true }
def FnExactIsTidyUptoSaid : Prop := fnExactIsTidyUptoRow.holds Try.pinned (OpenSpec.upto fnExactIsTidySpec)

/-- 'laws.FnExactIsNested', WHERE WHAT IT READS IS OF BULK AT MOST 1048576: true; the input reads as it did. -/
def fnExactIsNestedUptoRow : OpenClaim := { program := "ytikdcnlbjpabjaa", sum := "2b70412959c711f86c8123b47166511a7ec529b2cdd5376911bb2cbc650ff4dd", func := "loop.example/g01183/laws.FnExactIsNested", spec := "fnExactIsNested", unfollowed := true, recurses := true, apart := false, narrowed := true }
def FnExactIsNestedUptoSaid : Prop := fnExactIsNestedUptoRow.holds Try.pinned (OpenSpec.upto fnExactIsNestedSpec)

/-- 'laws.FnExactMostOpen', WHERE WHAT IT READS IS OF BULK AT MOST 1048576: true; the input reads as it did. -/
def fnExactMostOpenUptoRow : OpenClaim := { program := "ytikdcnlbjpabjaa", sum := "2b70412959c711f86c8123b47166511a7ec529b2cdd5376911bb2cbc650ff4dd", func := "loop.example/g01183/laws.FnExactMostOpen", spec := "fnExactMostOpen", apart := false, narrowed := true }
def FnExactMostOpenUptoSaid : Prop := fnExactMostOpenUptoRow.holds Try.pinned (OpenSpec.upto fnExactMostOpenSpec)

/-- 'laws.FnExactSpansOf', WHERE WHAT IT READS IS OF BULK AT MOST 1048576: true; the input reads as it did. -/
def fnExactSpansOfUptoRow : OpenClaim := { program := "ytikdcnlbjpabjaa", sum := "2b70412959c711f86c8123b47166511a7ec529b2cdd5376911bb2cbc650ff4dd", func := "loop.example/g01183/laws.FnExactSpansOf", spec := "fnExactSpansOf", apart := false, narrowed := true }
def FnExactSpansOfUptoSaid : Prop := fnExactSpansOfUptoRow.holds Try.pinned (OpenSpec.upto fnExactSpansOfSpec)

/-- 'laws.FnExactMendEntries', WHERE WHAT IT READS IS OF BULK AT MOST 1048576: true; the input reads as it did. -/
def fnExactMendEntriesUptoRow : OpenClaim := { program := "ytikdcnlbjpabjaa", sum := "2b70412959c711f86c8123b47166511a7ec529b2cdd5376911bb2cbc650ff4dd", func := "loop.example/g01183/laws.FnExactMendEntries", spec := "fnExactMendEntries", apart := false, narrowed := true }
def FnExactMendEntriesUptoSaid : Prop := fnExactMendEntriesUptoRow.holds Try.pinned (OpenSpec.upto fnExactMendEntriesSpec)

end Rows
end Go.Proofs.Ytikdcnlbjpabjaa
