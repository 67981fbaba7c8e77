/- When an error is another one: one of its walk is the target, or likes it (facts about lists). -/
import Derived.Test.YtkjgibhckcdneaaErqp
namespace Go.Proofs.Ytkjgibhckcdneaa.ErI
open ErP ErD ErW ErQ

/-- One error likes another. -/
def likeE (s t : En) : Bool := decide (s.1 = 4) && (decide (t.1 = 1) && decide (s.2.1 = t.2.1))
def hitE (e : Er) (a : List Int) (t i : Nat) : Bool := decide (0 < getI a i) && (decide (i = t) || likeE (nodeE e i) (nodeE e t))
def hitsE (e : Er) (a : List Int) (t k : Nat) : Bool := (List.range k).any (hitE e a t)
theorem hits_zero (e : Er) (a : List Int) (t : Nat) : hitsE e a t 0 = false := rfl
theorem hits_next (e : Er) (a : List Int) (t k : Nat) : hitsE e a t (k + 1) = (hitsE e a t k || hitE e a t k) := by
  unfold hitsE; rw [List.range_succ, List.any_append]; simp
theorem hits_yes {e : Er} {a : List Int} {t k n : Nat} (h : hitE e a t k = true) (hk : k < n) : hitsE e a t n = true := by
  unfold hitsE; rw [List.any_eq_true]; exact ⟨k, List.mem_range.2 hk, h⟩
def isR (e : Er) (x y : Int) : Bool × Bool := if oneE e x && oneE e y then (hitsE e (waysE e x.toNat) y.toNat e.length, true) else (false, false)
end Go.Proofs.Ytkjgibhckcdneaa.ErI
