import Derived.Test.YtibadkjdchdnjaaM13
import Derived.Test.YtibadkjdchdnjaaKrr
import Derived.Test.YtibadkjdchdnjaaM12
set_option linter.all false
namespace Go.Proofs.Ytibadkjdchdnjaa.LawQ
open Go.ChangeShapes Go.WideShapes Go.ChangeAt Go.RowKit
open PL Mem To MarkP Srun Sst Sout EvtP LawO Kpp Krt Krs PArgP AskP
structure MidO (w1 : World) (b : Nat) (cs : Array Value) (v : Value) (q : List Tr) (W : World) : Prop where
 below : Below w1.heap.size w1 W
 box : Blk W b 39 cs
 own : Tre W w1.heap.size v q
 hb : w1.heap.size ≤ b
theorem MidO.early {w1 wF : World} {b : Nat} {v : Value} {q : List Tr} {a0 a1 a2 a3 u0 u1 u2 u3 : Value} (hz : Blk wF b 39 #[a0, a1, a2, a3]) (bF : Below w1.heap.size w1 wF) (ht : Tre wF w1.heap.size v q) (hb : w1.heap.size ≤ b) :
  MidO w1 b #[u0, u1, u2, u3] v q ((((wF.setCell ⟨b, 0, none⟩ u0).setCell ⟨b, 1, none⟩ u1).setCell ⟨b, 2, none⟩ u2).setCell ⟨b, 3, none⟩ u3) :=
 ⟨(((bF.setCell (p := ⟨b, 0, none⟩) hb _).setCell (p := ⟨b, 1, none⟩) hb _).setCell (p := ⟨b, 2, none⟩) hb _).setCell (p := ⟨b, 3, none⟩) hb _, Blk.set4 hz _ _ _ _, own_set4 ht hz _ _ _ _, hb⟩
theorem MidO.late {w1 wF : World} {v : Value} {q : List Tr} {cs : Array Value} (bF : Below w1.heap.size w1 wF) (ht : Tre wF w1.heap.size v q) :
  MidO w1 wF.heap.size cs v q (wF.alloc (.cells cs 39)) := ⟨bF.alloc bF.size _, heap1_0 _ _, World.ownsRow.alloc ht _, bF.size⟩
theorem belA (W : World) (o : Obj) : Below W.heap.size W (W.alloc o) := (Below.refl _ _).alloc (Nat.le_refl _) _
theorem belAD (W : World) (o : Obj) : Below W.heap.size W (W.alloc o).drew := ((Below.refl _ _).alloc (Nat.le_refl _) _).drew
theorem belA2 {w1 W : World} (h : Below w1.heap.size w1 W) (o : Obj) : Below w1.heap.size w1 (W.alloc o) := h.alloc h.size _
theorem belAD2 {w1 W : World} (h : Below w1.heap.size w1 W) (o : Obj) : Below w1.heap.size w1 (W.alloc o).drew := (h.alloc h.size _).drew
theorem belD2 {w1 W : World} (h : Below w1.heap.size w1 W) : Below w1.heap.size w1 W.drew := h.drew
theorem belS4 {w1 wF : World} {b : Nat} (h : Below w1.heap.size w1 wF) (hb : w1.heap.size ≤ b) (u0 u1 u2 u3 : Value) : Below w1.heap.size w1 ((((wF.setCell ⟨b, 0, none⟩ u0).setCell ⟨b, 1, none⟩ u1).setCell ⟨b, 2, none⟩ u2).setCell ⟨b, 3, none⟩ u3) :=
 (((h.setCell (p := ⟨b, 0, none⟩) hb _).setCell (p := ⟨b, 1, none⟩) hb _).setCell (p := ⟨b, 2, none⟩) hb _).setCell (p := ⟨b, 3, none⟩) hb _
theorem boxA (W0 : World) (cs : Array Value) (t : TypeId) : Blk (W0.alloc (.cells cs t)) W0.heap.size t cs := heap1_0 W0 _
theorem boxAD (W0 : World) (cs : Array Value) (t : TypeId) : Blk (W0.alloc (.cells cs t)).drew W0.heap.size t cs := heap1_0 W0 _
theorem ownA {W : World} {lo : Nat} {v : Value} {p : Pg} (h : OwnP W lo v p) (o : Obj) : OwnP (W.alloc o) lo v p := h.below (belA W o)
theorem ownAD {W : World} {lo : Nat} {v : Value} {p : Pg} (h : OwnP W lo v p) (o : Obj) : OwnP (W.alloc o).drew lo v p := h.below (belAD W o)
theorem ownD {W : World} {lo : Nat} {v : Value} {p : Pg} (h : OwnP W lo v p) : OwnP W.drew lo v p := h.below (Below.refl _ _).drew
theorem retryR_len (p : Pg) (f arg fuel t wa fa mo : Int) : (retryR p f arg fuel t wa fa mo).1.trace.length ≤ 100000 := by
 unfold retryR
 split
 ·rename_i h
  rw [Bool.and_eq_true] at h
  have := RunF.runR_len p f (wrap16 (arg + ((made p f arg fuel t - 1 : Nat) : Int))) fuel
  rw [runR_yes (asks_any h.1 _ (wrap16_N _))] at this
  exact this
 ·show ([] : List Tr).length ≤ 100000
  simp
end Go.Proofs.Ytibadkjdchdnjaa.LawQ
-- squeezed
