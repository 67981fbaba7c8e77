import Derived.Test.YtdmcgkcpclepfaaInts
import Derived.Test.YtdmcgkcpclepfaaMark
import Derived.Test.YtdmcgkcpclepfaaEq
import Derived.Test.YtdmcgkcpclepfaaSz
import Derived.Test.YtdmcgkcpclepfaaOpen
set_option linter.all false
namespace Go.Proofs.Ytdmcgkcpclepfaa.LawI
open Go.ChangeShapes Go.WideShapes Go.ChangeAt Go.RowKit
open PL Mem To MarkP IntsP
def IntsR (r : List Int × Bool) (w : World) (e : Ending) (w' : World) : Prop :=
 ∃ A c, e = .returned (.tuple #[.slice A r.1.length c, .bool r.2]) ∧ OwnI w' w.heap.size (.slice A r.1.length c) r.1 ∧ Below w.heap.size w w'
def OwnIH (w : World) (lo hi : Nat) (v : Value) (xs : List Int) : Prop := OwnI w lo v xs ∧ ∀ k, v.ownBlock = some k → k < hi
theorem OwnIH.of {w : World} {lo : Nat} {v : Value} {xs : List Int} (h : OwnI w lo v xs) : OwnIH w lo w.heap.size v xs := ⟨h, fun k hk => (World.ownsRow.lt h k hk).2⟩
theorem OwnIH.keep {w w' : World} {lo hi : Nat} {v : Value} {xs : List Int} (h : OwnIH w lo hi v xs) (hk : ∀ b, lo ≤ b → b < hi → w'.heap[b]? = w.heap[b]?) : OwnIH w' lo hi v xs := by
 obtain ⟨⟨h1, h2⟩, hh⟩ := h
 refine ⟨⟨h1, ?_⟩, hh⟩
 rcases h2 with h0 | ⟨g, cap, cur, rfl, hB, hg, r⟩
 ·exact .inl h0
 ·exact .inr ⟨g, cap, cur, rfl, hB, by rw [hk g hB (hh g rfl)]; exact hg, r⟩
theorem OwnIH.below {w w' : World} {lo hi : Nat} {v : Value} {xs : List Int} (h : OwnIH w lo hi v xs) (hb : Below hi w w') : OwnIH w' lo hi v xs := h.keep fun b _ hb' => hb.block b hb'
theorem OwnIH.chg {C : Nat → Prop} {w w' : World} {lo hi : Nat} {v : Value} {xs : List Int} (h : OwnIH w lo hi v xs) (hb : Chg C w w') (hh : hi ≤ w.heap.size) (hC : ∀ k, lo ≤ k → k < hi → ¬ C k) : OwnIH w' lo hi v xs :=
 h.keep fun b h1 h2 => hb.block b (by omega) (hC b h1 h2)
structure StI (w : World) (n c : Nat) (A : Option Addr) (bx : Nat) (vw vx vg : Value) (Lw Hw Lx Hx Lg Hg : Nat) (qw : List Int) (px : Pg) (qg : List Int) (W : World) : Prop where
 below : Below w.heap.size w W
 a : Blk W w.heap.size 24 #[.slice A n c]
 x0 : Blk W bx 31 #[vx]
 ow : OwnIH W Lw Hw vw qw
 ox : OwnH W Lx Hx vx px
 og : OwnIH W Lg Hg vg qg
 ord : w.heap.size < Lw ∧ Lw ≤ Hw ∧ Hw ≤ Lx ∧ Lx ≤ Hx ∧ Hx ≤ bx ∧ bx < Lg ∧ Lg ≤ Hg ∧ Hg ≤ W.heap.size
section
variable {w : World} {n c : Nat} {A : Option Addr} {bx : Nat} {vw vx vg : Value} {Lw Hw Lx Hx Lg Hg : Nat} {qw : List Int} {px : Pg} {qg : List Int} {W W' : World}
theorem StI.next (h : StI w n c A bx vw vx vg Lw Hw Lx Hx Lg Hg qw px qg W) (b : Below W.heap.size W W') : StI w n c A bx vw vx vg Lw Hw Lx Hx Lg Hg qw px qg W' := by
 have o := h.ord
 have s := b.size
 exact ⟨h.below.trans (b.mono h.below.size), h.a.below b h.a.lt, h.x0.below b h.x0.lt, h.ow.below (b.mono (by omega)), h.ox.below (b.mono (by omega)), h.og.below (b.mono (by omega)), by omega⟩
theorem StI.cells (h : StI w n c A bx vw vx vg Lw Hw Lx Hx Lg Hg qw px qg W) : W.cell? ⟨w.heap.size, 0, none⟩ = some (.slice A n c) ∧ W.cell? ⟨bx, 0, none⟩ = some vx :=
 ⟨h.a.cells 0, h.x0.cells 0⟩
theorem StI.markX {px' : Pg} (h : StI w n c A bx vw vx vg Lw Hw Lx Hx Lg Hg qw px qg W) (b : Chg (fun k => Lx ≤ k ∧ k < Hx) W W') (o' : OwnH W' Lx Hx vx px') : StI w n c A bx vw vx vg Lw Hw Lx Hx Lg Hg qw px' qg W' := by
 have o := h.ord
 have s := b.size
 have s0 := h.below.size
 exact ⟨h.below.trans (b.below (by omega) (fun x hx hc => by omega)), h.a.chg b (fun hc => by omega), h.x0.chg b (fun hc => by omega),
  h.ow.chg b (by omega) (fun k h1 h2 hc => by omega), o', h.og.chg b (by omega) (fun k h1 h2 hc => by omega), by omega⟩
theorem StI.markG {qg' : List Int} (h : StI w n c A bx vw vx vg Lw Hw Lx Hx Lg Hg qw px qg W) (b : Chg (fun k => vg.ownBlock = some k) W W') (o' : OwnI W' Lg vg qg') : StI w n c A bx vw vx vg Lw Hw Lx Hx Lg Hg qw px qg' W' := by
 have o := h.ord
 have s := b.size
 have s0 := h.below.size
 have hg : ∀ k, vg.ownBlock = some k → Lg ≤ k ∧ k < Hg := fun k hk => ⟨(World.ownsRow.lt h.og.1 k hk).1, h.og.2 k hk⟩
 exact ⟨h.below.trans (b.below (by omega) (fun x hx hc => by have := hg x hc; omega)), h.a.chg b (fun hc => by have := hg _ hc; omega), h.x0.chg b (fun hc => by have := hg _ hc; omega),
  h.ow.chg b (by omega) (fun k h1 h2 hc => by have := hg k hc; omega), h.ox.chg b (by omega) (fun k h1 h2 hc => by have := hg k hc; omega), ⟨o', h.og.2⟩, by omega⟩
end
theorem tot_cnt (p : Pg) : cnt p ≤ Sz.tot p := by unfold cnt Sz.tot; omega
end Go.Proofs.Ytdmcgkcpclepfaa.LawI
-- squeezed
