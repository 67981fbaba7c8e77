import Derived.Test.YtdmcgkcpclepfaaMark
import Derived.Test.YtdmcgkcpclepfaaEq
import Derived.Test.YtdmcgkcpclepfaaSz
import Derived.Test.YtdmcgkcpclepfaaOpen
set_option linter.all false
namespace Go.Proofs.Ytdmcgkcpclepfaa.LawN
open Go.ChangeShapes Go.WideShapes Go.ChangeAt Go.RowKit
open PL Mem To MarkP
def NumR (r : Int × Bool) (w : World) (e : Ending) (w' : World) : Prop :=
 e = .returned (.tuple #[.int .i64 r.1, .bool r.2]) ∧ Below w.heap.size w w'
structure StN (w : World) (n c : Nat) (A : Option Addr) (bx : Nat) (vx : Value) (Lx Hx : Nat) (px : Pg) (W : World) : Prop where
 below : Below w.heap.size w W
 a : Blk W w.heap.size 24 #[.slice A n c]
 x0 : Blk W bx 31 #[vx]
 ox : OwnH W Lx Hx vx px
 ord : w.heap.size < Lx ∧ Lx ≤ Hx ∧ Hx ≤ bx ∧ bx < W.heap.size
section
variable {w : World} {n c : Nat} {A : Option Addr} {bx : Nat} {vx : Value} {Lx Hx : Nat} {px : Pg} {W W' : World}
theorem StN.next (h : StN w n c A bx vx Lx Hx px W) (b : Below W.heap.size W W') : StN w n c A bx vx Lx Hx px W' := by
 have o := h.ord
 have s := b.size
 exact ⟨h.below.trans (b.mono h.below.size), h.a.below b h.a.lt, h.x0.below b h.x0.lt, h.ox.below (b.mono (by omega)), by omega⟩
theorem StN.cells (h : StN w n c A bx vx Lx Hx px W) : W.cell? ⟨w.heap.size, 0, none⟩ = some (.slice A n c) ∧ W.cell? ⟨bx, 0, none⟩ = some vx :=
 ⟨h.a.cells 0, h.x0.cells 0⟩
end
end Go.Proofs.Ytdmcgkcpclepfaa.LawN
-- squeezed
