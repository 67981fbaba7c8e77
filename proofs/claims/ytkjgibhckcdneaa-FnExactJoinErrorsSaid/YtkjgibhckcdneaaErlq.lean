/- What the law over JoinErrors holds in memory: its argument's box, three errors of its own, a list of integers. -/
import Derived.Test.YtkjgibhckcdneaaErlp
namespace Go.Proofs.Ytkjgibhckcdneaa.LawEP
set_option linter.unusedVariables false
open Go.ChangeShapes Go.WideShapes Go.ChangeAt Go.RowKit Go.Deep
open Mem IntsP ErP ErM ErT ErK ErF LawE OpenE

structure StJ (w : World) (n c : Nat) (A : Option Addr) (bw bx bg : Nat) (vw vx vg v1 : Value) (Lw Hw Lx Hx L1 H1 Lg Hg : Nat) (qw px qg : Er) (q1 : List Int) (W : World) : Prop where
  below : Below w.heap.size w W
  a : Blk W w.heap.size 24 #[.slice A n c]
  w0 : Blk W bw 29 #[vw]
  x0 : Blk W bx 29 #[vx]
  g0 : Blk W bg 29 #[vg]
  ow : OwnHE W Lw Hw vw qw
  ox : OwnHE W Lx Hx vx px
  o1 : OwnIH W L1 H1 v1 q1
  og : OwnHE W Lg Hg vg qg
  ord : w.heap.size < Lw ∧ Lw ≤ Hw ∧ Hw ≤ bw ∧ bw < Lx ∧ Lx ≤ Hx ∧ Hx ≤ bx ∧ bx < L1 ∧ L1 ≤ H1 ∧ H1 ≤ Lg ∧ Lg ≤ Hg ∧ Hg ≤ bg ∧ bg < W.heap.size
section
variable {w : World} {n c : Nat} {A : Option Addr} {bw bx bg : Nat} {vw vx vg v1 : Value} {Lw Hw Lx Hx L1 H1 Lg Hg : Nat} {qw px qg : Er} {q1 : List Int} {W W' : World}
theorem StJ.next (h : StJ w n c A bw bx bg vw vx vg v1 Lw Hw Lx Hx L1 H1 Lg Hg qw px qg q1 W) (b : Below W.heap.size W W') : StJ w n c A bw bx bg vw vx vg v1 Lw Hw Lx Hx L1 H1 Lg Hg qw px qg q1 W' := by
  have o := h.ord
  have s := b.size
  exact ⟨h.below.trans (b.mono h.below.size), h.a.below b h.a.lt, h.w0.below b h.w0.lt, h.x0.below b h.x0.lt, h.g0.below b h.g0.lt, h.ow.below (b.mono (by omega)), h.ox.below (b.mono (by omega)), h.o1.below (b.mono (by omega)), h.og.below (b.mono (by omega)), by omega⟩
theorem StJ.cells (h : StJ w n c A bw bx bg vw vx vg v1 Lw Hw Lx Hx L1 H1 Lg Hg qw px qg q1 W) : W.cell? ⟨w.heap.size, 0, none⟩ = some (.slice A n c) ∧ W.cell? ⟨bw, 0, none⟩ = some vw ∧ W.cell? ⟨bx, 0, none⟩ = some vx ∧ W.cell? ⟨bg, 0, none⟩ = some vg :=
  ⟨h.a.cells 0, h.w0.cells 0, h.x0.cells 0, h.g0.cells 0⟩
theorem StJ.markX {px' : Er} (h : StJ w n c A bw bx bg vw vx vg v1 Lw Hw Lx Hx L1 H1 Lg Hg qw px qg q1 W) (b : Chg (fun k => Lx ≤ k ∧ k < Hx) W W') (o' : OwnHE W' Lx Hx vx px') : StJ w n c A bw bx bg vw vx vg v1 Lw Hw Lx Hx L1 H1 Lg Hg qw px' qg q1 W' := by
  have o := h.ord
  have s := b.size
  have s0 := h.below.size
  exact ⟨h.below.trans (b.below (by omega) (fun x hx hc => by omega)), h.a.chg b (fun hc => by omega), h.w0.chg b (fun hc => by omega), h.x0.chg b (fun hc => by omega), h.g0.chg b (fun hc => by omega),
    h.ow.chg b (by omega) (fun k h1 h2 hc => by omega), o', h.o1.chg b (by omega) (fun k h1 h2 hc => by omega), h.og.chg b (by omega) (fun k h1 h2 hc => by omega), by omega⟩
theorem StJ.markG {qg' : Er} (h : StJ w n c A bw bx bg vw vx vg v1 Lw Hw Lx Hx L1 H1 Lg Hg qw px qg q1 W) (b : Chg (fun k => Lg ≤ k ∧ k < Hg) W W') (o' : OwnHE W' Lg Hg vg qg') : StJ w n c A bw bx bg vw vx vg v1 Lw Hw Lx Hx L1 H1 Lg Hg qw px qg' q1 W' := by
  have o := h.ord
  have s := b.size
  have s0 := h.below.size
  exact ⟨h.below.trans (b.below (by omega) (fun x hx hc => by omega)), h.a.chg b (fun hc => by omega), h.w0.chg b (fun hc => by omega), h.x0.chg b (fun hc => by omega), h.g0.chg b (fun hc => by omega),
    h.ow.chg b (by omega) (fun k h1 h2 hc => by omega), h.ox.chg b (by omega) (fun k h1 h2 hc => by omega), h.o1.chg b (by omega) (fun k h1 h2 hc => by omega), o', by omega⟩
theorem StJ.mark1 {q1' : List Int} (h : StJ w n c A bw bx bg vw vx vg v1 Lw Hw Lx Hx L1 H1 Lg Hg qw px qg q1 W) (b : Chg (fun k => v1.ownBlock = some k) W W') (o' : OwnI W' L1 v1 q1') : StJ w n c A bw bx bg vw vx vg v1 Lw Hw Lx Hx L1 H1 Lg Hg qw px qg q1' W' := by
  have o := h.ord
  have s := b.size
  have s0 := h.below.size
  have hg : ∀ k, v1.ownBlock = some k → L1 ≤ k ∧ k < H1 := fun k hk => ⟨(World.ownsRow.lt h.o1.1 k hk).1, h.o1.2 k hk⟩
  exact ⟨h.below.trans (b.below (by omega) (fun x hx hc => by have := hg x hc; omega)), h.a.chg b (fun hc => by have := hg _ hc; omega), h.w0.chg b (fun hc => by have := hg _ hc; omega), h.x0.chg b (fun hc => by have := hg _ hc; omega), h.g0.chg b (fun hc => by have := hg _ hc; omega),
    h.ow.chg b (by omega) (fun k h1 h2 hc => by have := hg k hc; omega), h.ox.chg b (by omega) (fun k h1 h2 hc => by have := hg k hc; omega), ⟨o', h.o1.2⟩, h.og.chg b (by omega) (fun k h1 h2 hc => by have := hg k hc; omega), by omega⟩
end
section
variable {H : Type} {enc : TypeId × Value → H} {w : World} {base : Nat} {spare : Nat → Bool} {held : Bool}
set_option maxRecDepth 100000 in
theorem open_ints {r : Reach} {b0 : Nat} {v : Value} {d : DataW H} {ps : List MemPlace} (hv : Value.okWide Try.prog w r b0 33 v) (h : DataW.Trod enc Try.prog w base spare held 33 v d ps) :
    ∃ A c xs, v = .slice A xs.length c ∧ xs.length ≤ maxLen ∧ RdI w w.heap.size A xs ∧ ∀ (j : Nat) (z : Int), xs[j]? = some z → fitI z := by
  obtain ⟨a0, len0, cap0, rfl⟩ := okWide_slice Try.underlying33 hv
  obtain ⟨fuel, hf⟩ := h
  obtain ⟨A, c, xs, e, h1, h2, h3⟩ := ints_of hf
  have e1 : Value.slice a0 len0 cap0 = .slice A xs.length c := by simpa [Value.cells] using e
  exact ⟨A, c, xs, e1, h1, h2, h3⟩
end
end Go.Proofs.Ytkjgibhckcdneaa.LawEP
