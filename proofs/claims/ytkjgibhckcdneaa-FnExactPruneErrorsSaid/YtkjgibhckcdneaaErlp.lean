/- What a law over a function that returns errors holds in memory: its argument's box, and three errors of its own. -/
import Derived.Test.YtkjgibhckcdneaaErlw
import Derived.Test.YtkjgibhckcdneaaErwr
namespace Go.Proofs.Ytkjgibhckcdneaa.LawEP
set_option linter.unusedVariables false
open Go.ChangeShapes Go.WideShapes Go.ChangeAt Go.RowKit
open Mem IntsP ErP ErM ErT ErK ErF

structure St (w : World) (n c : Nat) (A : Option Addr) (bw bx bg : Nat) (vw vx vg : Value) (Lw Hw Lx Hx Lg Hg : Nat) (qw px qg : Er) (W : World) : Prop where
  below : Below w.heap.size w W
  a : Blk W w.heap.size 24 #[.slice A n c]
  w0 : Blk W bw 29 #[vw]
  x0 : Blk W bx 29 #[vx]
  g0 : Blk W bg 29 #[vg]
  ow : OwnHE W Lw Hw vw qw
  ox : OwnHE W Lx Hx vx px
  og : OwnHE W Lg Hg vg qg
  ord : w.heap.size < Lw ∧ Lw ≤ Hw ∧ Hw ≤ bw ∧ bw < Lx ∧ Lx ≤ Hx ∧ Hx ≤ bx ∧ bx < Lg ∧ Lg ≤ Hg ∧ Hg ≤ bg ∧ bg < W.heap.size
section
variable {w : World} {n c : Nat} {A : Option Addr} {bw bx bg : Nat} {vw vx vg : Value} {Lw Hw Lx Hx Lg Hg : Nat} {qw px qg : Er} {W W' : World}
theorem St.next (h : St w n c A bw bx bg vw vx vg Lw Hw Lx Hx Lg Hg qw px qg W) (b : Below W.heap.size W W') : St w n c A bw bx bg vw vx vg Lw Hw Lx Hx Lg Hg qw px qg W' := by
  have o := h.ord
  have s := b.size
  exact ⟨h.below.trans (b.mono h.below.size), h.a.below b h.a.lt, h.w0.below b h.w0.lt, h.x0.below b h.x0.lt, h.g0.below b h.g0.lt, h.ow.below (b.mono (by omega)), h.ox.below (b.mono (by omega)), h.og.below (b.mono (by omega)), by omega⟩
theorem St.cells (h : St w n c A bw bx bg vw vx vg Lw Hw Lx Hx Lg Hg qw px qg W) : W.cell? ⟨w.heap.size, 0, none⟩ = some (.slice A n c) ∧ W.cell? ⟨bw, 0, none⟩ = some vw ∧ W.cell? ⟨bx, 0, none⟩ = some vx ∧ W.cell? ⟨bg, 0, none⟩ = some vg :=
  ⟨h.a.cells 0, h.w0.cells 0, h.x0.cells 0, h.g0.cells 0⟩
theorem St.markX {px' : Er} (h : St w n c A bw bx bg vw vx vg Lw Hw Lx Hx Lg Hg qw px qg W) (b : Chg (fun k => Lx ≤ k ∧ k < Hx) W W') (o' : OwnHE W' Lx Hx vx px') : St w n c A bw bx bg vw vx vg Lw Hw Lx Hx Lg Hg qw px' qg W' := by
  have o := h.ord
  have s := b.size
  have s0 := h.below.size
  exact ⟨h.below.trans (b.below (by omega) (fun x hx hc => by omega)), h.a.chg b (fun hc => by omega), h.w0.chg b (fun hc => by omega), h.x0.chg b (fun hc => by omega), h.g0.chg b (fun hc => by omega),
    h.ow.chg b (by omega) (fun k h1 h2 hc => by omega), o', h.og.chg b (by omega) (fun k h1 h2 hc => by omega), by omega⟩
theorem St.markG {qg' : Er} (h : St w n c A bw bx bg vw vx vg Lw Hw Lx Hx Lg Hg qw px qg W) (b : Chg (fun k => Lg ≤ k ∧ k < Hg) W W') (o' : OwnHE W' Lg Hg vg qg') : St w n c A bw bx bg vw vx vg Lw Hw Lx Hx Lg Hg qw px qg' W' := by
  have o := h.ord
  have s := b.size
  have s0 := h.below.size
  exact ⟨h.below.trans (b.below (by omega) (fun x hx hc => by omega)), h.a.chg b (fun hc => by omega), h.w0.chg b (fun hc => by omega), h.x0.chg b (fun hc => by omega), h.g0.chg b (fun hc => by omega),
    h.ow.chg b (by omega) (fun k h1 h2 hc => by omega), h.ox.chg b (by omega) (fun k h1 h2 hc => by omega), o', by omega⟩
end
theorem fits_cntE {q : Er} (h : FitsE q) : q.length ≤ 12 ∧ SmallE q 12 ∧ cntE q ≤ 168 := by
  refine ⟨h.1, h.2, ?_⟩
  have key : ∀ (l : Er), (∀ s ∈ l, s.2.2.length ≤ 12) → cntE l ≤ 14 * l.length := by
    intro l
    induction l with
    | nil => intro _; simp [cntE]
    | cons s l ih =>
      intro hl
      have h1 := hl s (List.mem_cons_self ..)
      have h2 := ih (fun t ht => hl t (List.mem_cons_of_mem _ ht))
      rw [cntE_cons, List.length_cons]; omega
  have := key q (fun s hs => by
    obtain ⟨i, hi, rfl⟩ := List.mem_iff_getElem.1 hs
    exact h.2 i _ (List.getElem?_eq_getElem hi))
  have := h.1
  omega
end Go.Proofs.Ytkjgibhckcdneaa.LawEP
