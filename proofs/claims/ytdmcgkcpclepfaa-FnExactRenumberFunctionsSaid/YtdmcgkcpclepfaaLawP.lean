import Derived.Test.YtdmcgkcpclepfaaDefer2
import Derived.Test.YtdmcgkcpclepfaaHeld
import Derived.Test.YtdmcgkcpclepfaaEq
import Derived.Test.YtdmcgkcpclepfaaSz
import Derived.Test.YtdmcgkcpclepfaaOpen
set_option linter.all false
namespace Go.Proofs.Ytdmcgkcpclepfaa.LawP
open Go.ChangeShapes Go.WideShapes Go.ChangeAt Go.RowKit
open PL Mem To MarkP Res DeferP
structure St (w : World) (n c : Nat) (A : Option Addr) (bw bx bg : Nat) (vw vx vg : Value) (Lw Hw Lx Hx Lg Hg : Nat) (qw px qg : Pg) (W : World) : Prop where
 below : Below w.heap.size w W
 a : Blk W w.heap.size 24 #[.slice A n c]
 w0 : Blk W bw 31 #[vw]
 x0 : Blk W bx 31 #[vx]
 g0 : Blk W bg 31 #[vg]
 ow : OwnH W Lw Hw vw qw
 ox : OwnH W Lx Hx vx px
 og : OwnH W Lg Hg vg qg
 ord : w.heap.size < Lw ∧ Lw ≤ Hw ∧ Hw ≤ bw ∧ bw < Lx ∧ Lx ≤ Hx ∧ Hx ≤ bx ∧ bx < Lg ∧ Lg ≤ Hg ∧ Hg ≤ bg ∧ bg < W.heap.size
section
variable {w : World} {n c : Nat} {A : Option Addr} {bw bx bg : Nat} {vw vx vg : Value} {Lw Hw Lx Hx Lg Hg : Nat} {qw px qg : Pg} {W W' : World}
theorem St.next (h : St w n c A bw bx bg vw vx vg Lw Hw Lx Hx Lg Hg qw px qg W) (b : Below W.heap.size W W') : St w n c A bw bx bg vw vx vg Lw Hw Lx Hx Lg Hg qw px qg W' := by
 have o := h.ord
 have s := b.size
 exact ⟨h.below.trans (b.mono h.below.size), h.a.below b h.a.lt, h.w0.below b h.w0.lt, h.x0.below b h.x0.lt, h.g0.below b h.g0.lt, h.ow.below (b.mono (by omega)), h.ox.below (b.mono (by omega)), h.og.below (b.mono (by omega)), by omega⟩
theorem St.cells (h : St w n c A bw bx bg vw vx vg Lw Hw Lx Hx Lg Hg qw px qg W) : W.cell? ⟨w.heap.size, 0, none⟩ = some (.slice A n c) ∧ W.cell? ⟨bw, 0, none⟩ = some vw ∧ W.cell? ⟨bx, 0, none⟩ = some vx ∧ W.cell? ⟨bg, 0, none⟩ = some vg :=
 ⟨h.a.cells 0, h.w0.cells 0, h.x0.cells 0, h.g0.cells 0⟩
theorem St.markX {px' : Pg} (h : St w n c A bw bx bg vw vx vg Lw Hw Lx Hx Lg Hg qw px qg W) (b : Chg (fun k => Lx ≤ k ∧ k < Hx) W W') (o' : OwnH W' Lx Hx vx px') : St w n c A bw bx bg vw vx vg Lw Hw Lx Hx Lg Hg qw px' qg W' := by
 have o := h.ord
 have s := b.size
 have s0 := h.below.size
 exact ⟨h.below.trans (b.below (by omega) (fun x hx hc => by omega)), h.a.chg b (fun hc => by omega), h.w0.chg b (fun hc => by omega), h.x0.chg b (fun hc => by omega), h.g0.chg b (fun hc => by omega),
  h.ow.chg b (by omega) (fun k h1 h2 hc => by omega), o', h.og.chg b (by omega) (fun k h1 h2 hc => by omega), by omega⟩
theorem St.markG {qg' : Pg} (h : St w n c A bw bx bg vw vx vg Lw Hw Lx Hx Lg Hg qw px qg W) (b : Chg (fun k => Lg ≤ k ∧ k < Hg) W W') (o' : OwnH W' Lg Hg vg qg') : St w n c A bw bx bg vw vx vg Lw Hw Lx Hx Lg Hg qw px qg' W' := by
 have o := h.ord
 have s := b.size
 have s0 := h.below.size
 exact ⟨h.below.trans (b.below (by omega) (fun x hx hc => by omega)), h.a.chg b (fun hc => by omega), h.w0.chg b (fun hc => by omega), h.x0.chg b (fun hc => by omega), h.g0.chg b (fun hc => by omega),
  h.ow.chg b (by omega) (fun k h1 h2 hc => by omega), h.ox.chg b (by omega) (fun k h1 h2 hc => by omega), o', by omega⟩
end
theorem fits_cnt {q : Pg} (h : Fits q) : q.length ≤ 6 ∧ Small q 9 ∧ cnt q ≤ 54 :=
 ⟨h.1, fun i xs hx => h.2 xs (List.mem_of_getElem? hx), by have := sum_le q 9 h.2; have := h.1; unfold cnt; omega⟩
theorem tot_cnt (p : Pg) : cnt p ≤ Sz.tot p := by unfold cnt Sz.tot; omega
theorem prog_own {w w' : World} {r : Pg × Bool} {e : Ending} (h : ProgR r w e w') : ∃ A c, e = .returned (.tuple #[.agg #[.slice A r.1.length c], .bool r.2]) ∧ OwnP w' w.heap.size (.slice A r.1.length c) r.1 ∧ Below w.heap.size w w' := h
end Go.Proofs.Ytdmcgkcpclepfaa.LawP
-- squeezed
