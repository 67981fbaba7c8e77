/- What a law over a function that takes a step and returns a program holds in memory. -/
import Derived.Test.YtgfjdfmmkomolaaLawP
namespace Go.Proofs.Ytgfjdfmmkomolaa.LawS
set_option linter.unusedVariables false
open Go.ChangeShapes Go.WideShapes Go.ChangeAt Go.RowKit
open PL Mem To MarkP Res DeferP LawP

def Bs (w : World) (s : Tr) (W : World) : Prop := Blk W (w.heap.size + 1) 26 #[.int .i64 s.1, .int .i64 s.2.1, .int .i64 s.2.2]
/-- A program's result in a box, both younger than w1. -/
structure Mid (w1 : World) (b L H : Nat) (v : Value) (q : Pg) (W : World) : Prop where
  below : Below w1.heap.size w1 W
  box : Blk W b 30 #[v]
  own : OwnH W L H v q
  ord : w1.heap.size ≤ L ∧ L ≤ H ∧ H ≤ W.heap.size ∧ w1.heap.size ≤ b ∧ (b < L ∨ H ≤ b)
/-- The box is made ahead of the call. -/
theorem Mid.early {w1 W0 wF : World} {L : Nat} {v : Value} {q : Pg} (b0 : Below w1.heap.size w1 W0) (c : Below (W0.alloc (.cells #[.slice none 0 0] 30)).heap.size (W0.alloc (.cells #[.slice none 0 0] 30)) wF)
    (o : OwnP wF L v q) (hL : (W0.alloc (.cells #[.slice none 0 0] 30)).heap.size ≤ L) (hL' : L ≤ wF.heap.size) : Mid w1 W0.heap.size L wF.heap.size v q (wF.setCell ⟨W0.heap.size, 0, none⟩ v) := by
  have B := Blk.below (heap1_0 W0 _) c (by simp)
  have s0 := b0.size
  simp only [World.size_alloc] at hL
  have s1 : (wF.setCell ⟨W0.heap.size, 0, none⟩ v).heap.size = wF.heap.size := World.size_setCell _ _ _
  refine ⟨((b0.alloc s0 _).trans (c.mono (by simp; omega))).setCell (by show w1.heap.size ≤ W0.heap.size; omega) _, B.put 0 v, (OwnH.of o).keep (fun b h1 _ => Below.heap_setCell _ _ _ _ (by show b ≠ W0.heap.size; omega)), by omega⟩
/-- The box is made behind the call. -/
theorem Mid.late {w1 wF : World} {L : Nat} {v : Value} {q : Pg} (b0 : Below w1.heap.size w1 wF) (o : OwnP wF L v q) (hL : w1.heap.size ≤ L) (hL' : L ≤ wF.heap.size) :
    Mid w1 wF.heap.size L wF.heap.size v q (wF.alloc (.cells #[v] 30)) := by
  have s0 := b0.size
  exact ⟨b0.alloc s0 _, heap1_0 _ _, (OwnH.of o).keep (fun b _ h2 => Below.heap_alloc _ _ _ h2), by simp; omega⟩
/-- A box that is made ahead of a call stands behind it. -/
theorem box_keep {W0 w' : World} {v : Value} (c : Below (W0.alloc (.cells #[v] 30)).heap.size (W0.alloc (.cells #[v] 30)) w') :
    w'.cell? ⟨W0.heap.size, 0, none⟩ = some v ∧ w'.frozen? ⟨W0.heap.size, 0, none⟩ = false := by
  have B := Blk.below (heap1_0 W0 _) c (by simp)
  exact ⟨B.cells 0, B.frozen 0⟩
theorem undrew {W w' : World} (c : Below W.drew.heap.size W.drew w') : Below W.heap.size W w' := ((Below.refl _ _).drew).trans c
theorem box_keepD {W0 w' : World} {v : Value} (c : Below (W0.alloc (.cells #[v] 30)).drew.heap.size (W0.alloc (.cells #[v] 30)).drew w') :
    w'.cell? ⟨W0.heap.size, 0, none⟩ = some v ∧ w'.frozen? ⟨W0.heap.size, 0, none⟩ = false := box_keep (undrew c)
theorem box_more {W w' : World} {g : Nat} {v : Value} (h : W.cell? ⟨g, 0, none⟩ = some v) (hf : W.frozen? ⟨g, 0, none⟩ = false) (c : Below W.heap.size W w') :
    w'.cell? ⟨g, 0, none⟩ = some v ∧ w'.frozen? ⟨g, 0, none⟩ = false := by
  have hg : g < W.heap.size := World.block_lt_of_cell? W _ h
  exact ⟨(c.cell (p := ⟨g, 0, none⟩) hg).trans h, by rw [← hf]; exact c.frozen (p := ⟨g, 0, none⟩) hg⟩
structure St1 (w : World) (n c : Nat) (A : Option Addr) (s : Tr) (bw : Nat) (vw : Value) (Lw Hw : Nat) (qw : Pg) (W : World) : Prop where
  below : Below w.heap.size w W
  a : Blk W w.heap.size 24 #[.slice A n c]
  e : Bs w s W
  w0 : Blk W bw 30 #[vw]
  ow : OwnH W Lw Hw vw qw
  ord : w.heap.size + 2 ≤ Lw ∧ Lw ≤ Hw ∧ Hw ≤ W.heap.size ∧ w.heap.size + 2 ≤ bw ∧ bw < W.heap.size
structure StS (w : World) (n c : Nat) (A : Option Addr) (s : Tr) (bw bx bg : Nat) (vw vx vg : Value) (Lw Hw Lx Hx Lg Hg : Nat) (qw px qg : Pg) (W : World) : Prop where
  below : Below w.heap.size w W
  a : Blk W w.heap.size 24 #[.slice A n c]
  e : Bs w s W
  w0 : Blk W bw 30 #[vw]
  x0 : Blk W bx 30 #[vx]
  g0 : Blk W bg 30 #[vg]
  ow : OwnH W Lw Hw vw qw
  ox : OwnH W Lx Hx vx px
  og : OwnH W Lg Hg vg qg
  ord : w.heap.size + 2 ≤ Lw ∧ Lw ≤ Hw ∧ w.heap.size + 2 ≤ bw ∧ bw < Lx ∧ Hw ≤ Lx ∧ Lx ≤ Hx ∧ Hx ≤ bx ∧ bx < Lg ∧ bx < bg ∧ Lg ≤ Hg ∧ Hg ≤ W.heap.size ∧ (bg < Lg ∨ Hg ≤ bg) ∧ bg < W.heap.size
section
variable {w : World} {n c : Nat} {A : Option Addr} {s : Tr} {bw bx bg : Nat} {vw vx vg : Value} {Lw Hw Lx Hx Lg Hg : Nat} {qw px qg : Pg} {W W' : World}
theorem Mid.first {w1 : World} (h : Mid w1 bw Lw Hw vw qw W) (b1 : Below w.heap.size w w1) (a1 : Blk w1 w.heap.size 24 #[.slice A n c]) (e1 : Bs w s w1) (s1 : w.heap.size + 2 ≤ w1.heap.size) : St1 w n c A s bw vw Lw Hw qw W := by
  have o := h.ord
  have l := h.box.lt
  exact ⟨b1.trans (h.below.mono b1.size), a1.below h.below a1.lt, Blk.below e1 h.below e1.lt, h.box, h.own, by omega⟩
theorem St1.next (h : St1 w n c A s bw vw Lw Hw qw W) (b : Below W.heap.size W W') : St1 w n c A s bw vw Lw Hw qw W' := by
  have o := h.ord
  have z := b.size
  exact ⟨h.below.trans (b.mono h.below.size), h.a.below b h.a.lt, Blk.below h.e b h.e.lt, h.w0.below b h.w0.lt, h.ow.below (b.mono (by omega)), by omega⟩
theorem St1.third {w6 : World} (h : St1 w n c A s bw vw Lw Hw qw w6) (x0 : Blk w6 bx 30 #[vx]) (ox : OwnH w6 Lx Hx vx px) (o2 : bw < Lx ∧ Hw ≤ Lx ∧ Lx ≤ Hx ∧ Hx ≤ bx)
    (g : Mid w6 bg Lg Hg vg qg W) : StS w n c A s bw bx bg vw vx vg Lw Hw Lx Hx Lg Hg qw px qg W := by
  have o := h.ord
  have z := g.ord
  have l := x0.lt
  have k := g.box.lt
  exact ⟨h.below.trans (g.below.mono h.below.size), h.a.below g.below h.a.lt, Blk.below h.e g.below h.e.lt, h.w0.below g.below h.w0.lt, x0.below g.below x0.lt, g.box, h.ow.below (g.below.mono (by omega)), ox.below (g.below.mono (by omega)), g.own, by omega⟩
theorem St1.cells (h : St1 w n c A s bw vw Lw Hw qw W) : W.cell? ⟨w.heap.size, 0, none⟩ = some (.slice A n c) ∧ W.cell? ⟨bw, 0, none⟩ = some vw := ⟨h.a.cells 0, h.w0.cells 0⟩
theorem StS.next (h : StS w n c A s bw bx bg vw vx vg Lw Hw Lx Hx Lg Hg qw px qg W) (b : Below W.heap.size W W') : StS w n c A s bw bx bg vw vx vg Lw Hw Lx Hx Lg Hg qw px qg W' := by
  have o := h.ord
  have z := b.size
  exact ⟨h.below.trans (b.mono h.below.size), h.a.below b h.a.lt, Blk.below h.e b h.e.lt, h.w0.below b h.w0.lt, h.x0.below b h.x0.lt, h.g0.below b h.g0.lt, h.ow.below (b.mono (by omega)), h.ox.below (b.mono (by omega)), h.og.below (b.mono (by omega)), by omega⟩
theorem StS.cells (h : StS w n c A s bw bx bg vw vx vg Lw Hw Lx Hx Lg Hg qw px qg W) : W.cell? ⟨w.heap.size, 0, none⟩ = some (.slice A n c) ∧ W.cell? ⟨bw, 0, none⟩ = some vw ∧ W.cell? ⟨bx, 0, none⟩ = some vx ∧ W.cell? ⟨bg, 0, none⟩ = some vg :=
  ⟨h.a.cells 0, h.w0.cells 0, h.x0.cells 0, h.g0.cells 0⟩
theorem StS.markX {px' : Pg} (h : StS w n c A s bw bx bg vw vx vg Lw Hw Lx Hx Lg Hg qw px qg W) (b : Chg (fun k => Lx ≤ k ∧ k < Hx) W W') (o' : OwnH W' Lx Hx vx px') : StS w n c A s bw bx bg vw vx vg Lw Hw Lx Hx Lg Hg qw px' qg W' := by
  have o := h.ord
  have z := b.size
  have s0 := h.below.size
  exact ⟨h.below.trans (b.below (by omega) (fun x hx hc => by omega)), h.a.chg b (fun hc => by omega), Blk.chg h.e b (fun hc => by omega), h.w0.chg b (fun hc => by omega), h.x0.chg b (fun hc => by omega), h.g0.chg b (fun hc => by omega),
    h.ow.chg b (by omega) (fun k h1 h2 hc => by omega), o', h.og.chg b (by omega) (fun k h1 h2 hc => by omega), by omega⟩
theorem StS.markG {qg' : Pg} (h : StS w n c A s bw bx bg vw vx vg Lw Hw Lx Hx Lg Hg qw px qg W) (b : Chg (fun k => Lg ≤ k ∧ k < Hg) W W') (o' : OwnH W' Lg Hg vg qg') : StS w n c A s bw bx bg vw vx vg Lw Hw Lx Hx Lg Hg qw px qg' W' := by
  have o := h.ord
  have z := b.size
  have s0 := h.below.size
  exact ⟨h.below.trans (b.below (by omega) (fun x hx hc => by omega)), h.a.chg b (fun hc => by omega), Blk.chg h.e b (fun hc => by omega), h.w0.chg b (fun hc => by omega), h.x0.chg b (fun hc => by omega), h.g0.chg b (fun hc => by omega),
    h.ow.chg b (by omega) (fun k h1 h2 hc => by omega), h.ox.chg b (by omega) (fun k h1 h2 hc => by omega), o', by omega⟩
end
end Go.Proofs.Ytgfjdfmmkomolaa.LawS
