/- IsNested as a pure function. -/
import Derived.Test.YtikdcnlbjpabjaaEmt
namespace Go.Proofs.Ytikdcnlbjpabjaa.EntN
set_option linter.unusedVariables false
set_option linter.unusedSimpArgs false
open Go.ChangeShapes Go.WideShapes Go.ChangeAt Go.RowKit
open Mem IntsP LiP EntP GrwP EntS EntM EntL EntT

def badAt (o : List Int) (x : Int) : Bool := decide (x < 0) && decide (o.getLast? ≠ some (-x))
def noBad (xs : List Int) : Nat → Bool
  | 0 => true
  | k + 1 => noBad xs k && !badAt (openK xs k) (xs.getD k 0)
theorem noBad_succ {xs : List Int} {k : Nat} {x : Int} (h : xs[k]? = some x) : noBad xs (k + 1) = (noBad xs k && !badAt (openK xs k) x) := by
  have e : xs.getD k 0 = x := by simp [h]
  show (noBad xs k && !badAt (openK xs k) (xs.getD k 0)) = _
  rw [e]
theorem noBad_false {xs : List Int} {k : Nat} (h : noBad xs k = false) : ∀ d, noBad xs (k + d) = false
  | 0 => h
  | d + 1 => by show (noBad xs (k + d) && _) = false; rw [noBad_false h d]; rfl
theorem noBad_le {xs : List Int} {k n : Nat} (hk : k ≤ n) (h : noBad xs k = false) : noBad xs n = false := by
  have := noBad_false h (n - k)
  rwa [show k + (n - k) = n by omega] at this
theorem badAt_pos {o : List Int} {x : Int} (h : ¬ x < 0) : badAt o x = false := by unfold badAt; rw [decide_eq_false h]; rfl
theorem badAt_nil {x : Int} (h : x < 0) : badAt [] x = true := by unfold badAt; rw [decide_eq_true h]; simp
theorem badAt_snoc {o : List Int} {x y : Int} (h : x < 0) : badAt (o ++ [y]) x = decide (y ≠ -x) := by
  unfold badAt; rw [decide_eq_true h]; simp
def nestR (xs : List Int) : Bool × Bool := if goodL xs then (tidyB xs && noBad xs xs.length, true) else (false, false)
theorem nestR_no {xs : List Int} (h : goodL xs = false) : nestR xs = (false, false) := by unfold nestR; rw [h]; rfl
theorem nestR_yes {xs : List Int} (h : goodL xs = true) : nestR xs = (tidyB xs && noBad xs xs.length, true) := by unfold nestR; rw [h]; rfl
/-- A list's last element, its place told. -/
theorem snoc_form {o : List Int} {m : Nat} (h : o.length = m + 1) : ∃ o' y, o = o' ++ [y] ∧ o'.length = m ∧ o[m]? = some y := by
  have hne : o ≠ [] := fun e => by rw [e] at h; simp at h
  refine ⟨o.dropLast, o.getLast hne, (List.dropLast_concat_getLast hne).symm, by rw [List.length_dropLast]; omega, ?_⟩
  rw [List.getElem?_eq_getElem (by omega), List.getLast_eq_getElem]
  simp [h]
/-- In tidy entries no entry is a fault. -/
theorem faultsK_sub {xs : List Int} : ∀ {k d : Nat}, faultsK xs (k + d) = [] → faultsK xs k = []
  | k, 0, h => h
  | k, d + 1, h => by
    refine faultsK_sub (d := d) ?_
    unfold faultsK at h ⊢
    rw [show k + (d + 1) = (k + d) + 1 by omega, List.range_succ, List.filter_append, List.map_append] at h
    exact (List.append_eq_nil_iff.1 h).1
theorem not_fault {xs : List Int} {k n : Nat} {x : Int} (h : faultsK xs n = []) (hk : k < n) (hx : xs[k]? = some x) : fltB (openK xs k) x = false := by
  cases hf : fltB (openK xs k) x with
  | false => rfl
  | true =>
    have h1 := faultsK_yes hx hf
    have h2 : faultsK xs (k + 1) = [] := faultsK_sub (d := n - (k + 1)) (by rwa [show k + 1 + (n - (k + 1)) = n by omega])
    rw [h1] at h2; simp at h2
theorem open_up {xs : List Int} {k : Nat} {x : Int} (hx : xs[k]? = some x) (h : 0 < x) (hf : fltB (openK xs k) x = false) : openK xs (k + 1) = openK xs k ++ [x] := by
  rw [openK_succ hx, stepO_up h, dropI_not]
  rw [fltB_pos h] at hf
  exact of_decide_eq_false hf
theorem open_down_mem {xs : List Int} {k : Nat} {x : Int} (h : x < 0) (hf : fltB (openK xs k) x = false) : -x ∈ openK xs k := by
  rw [fltB_neg h] at hf
  simpa using hf
theorem open_down {xs : List Int} {k : Nat} {x : Int} {o : List Int} (hx : xs[k]? = some x) (h : x < 0) (ho : openK xs k = o ++ [-x]) : openK xs (k + 1) = o := by
  have hnd := openK_nodup xs k
  rw [openK_succ hx, stepO_down h, ho, dropI_snoc, if_pos rfl, dropI_not]
  rw [ho, List.nodup_append] at hnd
  intro hm
  exact hnd.2.2 _ hm _ (List.mem_singleton_self _) rfl
end Go.Proofs.Ytikdcnlbjpabjaa.EntN
