import Derived.Test.YthejnpignlhgiaaLi
import Derived.Test.YthejnpignlhgiaaM3
set_option linter.all false
namespace Go.Proofs.Ythejnpignlhgiaa.GrwP
open Go.ChangeShapes Go.WideShapes Go.ChangeAt Go.RowKit
open Mem IntsP LiP
structure Grow (w2 : World) (lo h0 : Nat) (v : Value) (ys : List Int) (wr : World) : Prop where
 own : wr.ownsRow lo 3 1 v ys.length (cellsI ys)
 at_ : ∀ k, v.ownBlock = some k → k = h0 ∨ w2.heap.size ≤ k
 chg : Chg (fun b => b = h0) w2 wr
theorem Grow.push {w2 wr V w' : World} {lo h0 : Nat} {v v' : Value} {ys : List Int} {z : Int} (h : Grow w2 lo h0 v ys wr) (o : Obj) (hV : V = wr.alloc o)
  (ho : w'.ownsRow lo 3 1 v' (ys.length + 1) (cellsI ys ++ [.int .i64 z])) (hg : V.grownBy w' v.ownBlock) (ha : v'.ownBlock = v.ownBlock ∨ v'.ownBlock = some V.heap.size) : Grow w2 lo h0 v' (ys ++ [z]) w' := by
 subst hV
 have sz := h.chg.size
 refine ⟨by rw [List.length_append, List.length_singleton, cellsI_append]; exact ho, fun k hk => ?_, ?_⟩
 ·rcases ha with ha | ha
  ·exact h.at_ k (by rw [← ha]; exact hk)
  ·rw [ha] at hk
   have : wr.heap.size + 1 = k := by simpa using hk
   omega
 ·have h1 : Chg (fun b => b = h0) w2 (wr.alloc o) := h.chg.new o
  refine h1.trans (App.Chg.of_grown' (C := fun b => b = h0 ∨ w2.heap.size ≤ b) hg (fun k hk => h.at_ k hk)) (fun x hx hx2 => ?_)
  rcases hx2 with hx2 | hx2
  ·exact hx2
  ·omega
theorem own_alloc {w : World} {B e sz n : Nat} {v : Value} {xs : List Value} (h : w.ownsRow B e sz v n xs) (o : Obj) : (w.alloc o).ownsRow B e sz v n xs := own_below h ((Below.refl _ _).alloc (Nat.le_refl _) o) (Nat.le_refl _)
theorem own_drew {w : World} {B e sz n : Nat} {v : Value} {xs : List Value} (h : w.ownsRow B e sz v n xs) : w.drew.ownsRow B e sz v n xs := own_below h ((Below.refl w.heap.size w).drew) (Nat.le_refl _)
end Go.Proofs.Ythejnpignlhgiaa.GrwP
-- squeezed
