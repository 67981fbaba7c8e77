import Derived.Test.YtikdcnlbjpabjabM19
import Derived.Test.YtikdcnlbjpabjabM1
import Derived.Test.YtikdcnlbjpabjabM2
set_option linter.all false
namespace Go.Proofs.Ytikdcnlbjpabjab.LawC
open Go.ChangeShapes Go.WideShapes Go.ChangeAt Go.RowKit
open PL Mem To MarkP RowC
def CallsR (r : List CI × Bool) (w : World) (e : Ending) (w' : World) : Prop :=
 ∃ A c, e = .returned (.tuple #[.slice A r.1.length c, .bool r.2]) ∧ OwnC w' w.heap.size (.slice A r.1.length c) r.1 ∧ Below w.heap.size w w'
def OwnCH (w : World) (lo hi : Nat) (v : Value) (xs : List CI) : Prop := OwnC w lo v xs ∧ ∀ k, v.ownBlock = some k → k < hi
theorem OwnCH.of {w : World} {lo : Nat} {v : Value} {xs : List CI} (h : OwnC w lo v xs) : OwnCH w lo w.heap.size v xs := ⟨h, fun k hk => (World.ownsRow.lt h k hk).2⟩
theorem OwnCH.keep {w w' : World} {lo hi : Nat} {v : Value} {xs : List CI} (h : OwnCH w lo hi v xs) (hk : ∀ b, lo ≤ b → b < hi → w'.heap[b]? = w.heap[b]?) : OwnCH w' lo hi v xs := by
 obtain ⟨⟨h1, h2⟩, hh⟩ := h
 refine ⟨⟨h1, ?_⟩, hh⟩
 rcases h2 with h0 | ⟨g, cap, cur, rfl, hB, hg, r⟩
 ·exact .inl h0
 ·exact .inr ⟨g, cap, cur, rfl, hB, by rw [hk g hB (hh g rfl)]; exact hg, r⟩
theorem OwnCH.below {w w' : World} {lo hi : Nat} {v : Value} {xs : List CI} (h : OwnCH w lo hi v xs) (hb : Below hi w w') : OwnCH w' lo hi v xs := h.keep fun b _ hb' => hb.block b hb'
theorem OwnCH.chg {C : Nat → Prop} {w w' : World} {lo hi : Nat} {v : Value} {xs : List CI} (h : OwnCH w lo hi v xs) (hb : Chg C w w') (hh : hi ≤ w.heap.size) (hC : ∀ k, lo ≤ k → k < hi → ¬ C k) : OwnCH w' lo hi v xs :=
 h.keep fun b h1 h2 => hb.block b (by omega) (hC b h1 h2)
structure StC (w : World) (n c : Nat) (A : Option Addr) (bx : Nat) (vw vx vg : Value) (Lw Hw Lx Hx Lg Hg : Nat) (qw : List CI) (px : Pg) (qg : List CI) (W : World) : Prop where
 below : Below w.heap.size w W
 a : Blk W w.heap.size 24 #[.slice A n c]
 x0 : Blk W bx 31 #[vx]
 ow : OwnCH W Lw Hw vw qw
 ox : OwnH W Lx Hx vx px
 og : OwnCH W Lg Hg vg qg
 ord : w.heap.size < Lw ∧ Lw ≤ Hw ∧ Hw ≤ Lx ∧ Lx ≤ Hx ∧ Hx ≤ bx ∧ bx < Lg ∧ Lg ≤ Hg ∧ Hg ≤ W.heap.size
section
variable {w : World} {n c : Nat} {A : Option Addr} {bx : Nat} {vw vx vg : Value} {Lw Hw Lx Hx Lg Hg : Nat} {qw : List CI} {px : Pg} {qg : List CI} {W W' : World}
theorem StC.next (h : StC w n c A bx vw vx vg Lw Hw Lx Hx Lg Hg qw px qg W) (b : Below W.heap.size W W') : StC w n c A bx vw vx vg Lw Hw Lx Hx Lg Hg qw px qg W' := by
 have o := h.ord
 have s := b.size
 exact ⟨h.below.trans (b.mono h.below.size), h.a.below b h.a.lt, h.x0.below b h.x0.lt, h.ow.below (b.mono (by omega)), h.ox.below (b.mono (by omega)), h.og.below (b.mono (by omega)), by omega⟩
theorem StC.cells (h : StC w n c A bx vw vx vg Lw Hw Lx Hx Lg Hg qw px qg W) : W.cell? ⟨w.heap.size, 0, none⟩ = some (.slice A n c) ∧ W.cell? ⟨bx, 0, none⟩ = some vx :=
 ⟨h.a.cells 0, h.x0.cells 0⟩
theorem StC.markX {px' : Pg} (h : StC w n c A bx vw vx vg Lw Hw Lx Hx Lg Hg qw px qg W) (b : Chg (fun k => Lx ≤ k ∧ k < Hx) W W') (o' : OwnH W' Lx Hx vx px') : StC w n c A bx vw vx vg Lw Hw Lx Hx Lg Hg qw px' qg W' := by
 have o := h.ord
 have s := b.size
 have s0 := h.below.size
 exact ⟨h.below.trans (b.below (by omega) (fun x hx hc => by omega)), h.a.chg b (fun hc => by omega), h.x0.chg b (fun hc => by omega),
  h.ow.chg b (by omega) (fun k h1 h2 hc => by omega), o', h.og.chg b (by omega) (fun k h1 h2 hc => by omega), by omega⟩
theorem StC.markG {qg' : List CI} (h : StC w n c A bx vw vx vg Lw Hw Lx Hx Lg Hg qw px qg W) (b : Chg (fun k => vg.ownBlock = some k) W W') (o' : OwnC W' Lg vg qg') : StC w n c A bx vw vx vg Lw Hw Lx Hx Lg Hg qw px qg' W' := by
 have o := h.ord
 have s := b.size
 have s0 := h.below.size
 have hg : ∀ k, vg.ownBlock = some k → Lg ≤ k ∧ k < Hg := fun k hk => ⟨(World.ownsRow.lt h.og.1 k hk).1, h.og.2 k hk⟩
 exact ⟨h.below.trans (b.below (by omega) (fun x hx hc => by have := hg x hc; omega)), h.a.chg b (fun hc => by have := hg _ hc; omega), h.x0.chg b (fun hc => by have := hg _ hc; omega),
  h.ow.chg b (by omega) (fun k h1 h2 hc => by have := hg k hc; omega), h.ox.chg b (by omega) (fun k h1 h2 hc => by have := hg k hc; omega), ⟨o', h.og.2⟩, by omega⟩
end
theorem tot_cnt (p : Pg) : cnt p ≤ Sz.tot p := by unfold cnt Sz.tot; omega
end Go.Proofs.Ytikdcnlbjpabjab.LawC
-- squeezed
