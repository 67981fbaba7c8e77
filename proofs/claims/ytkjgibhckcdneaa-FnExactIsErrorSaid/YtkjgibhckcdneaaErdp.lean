/- How deep errors are, as arrays over their numbers: what both programs keep while they go down from the last error. -/
import Derived.Test.YtkjgibhckcdneaaErp
namespace Go.Proofs.Ytkjgibhckcdneaa.ErD
set_option linter.unusedVariables false
set_option linter.unusedSimpArgs false
open ErP

def getI (a : List Int) (i : Nat) : Int := (a[i]?).getD 0
theorem getI_at {a : List Int} {i : Nat} {z : Int} (h : a[i]? = some z) : getI a i = z := by unfold getI; rw [h]; rfl
theorem getI_get {a : List Int} {i : Nat} (h : i < a.length) : a[i]? = some (getI a i) := by unfold getI; rw [List.getElem?_eq_getElem h]; rfl
theorem getI_set_ne {a : List Int} {i j : Nat} {z : Int} (h : i ≠ j) : getI (a.set i z) j = getI a j := by unfold getI; rw [List.getElem?_set_ne h]
theorem getI_set {a : List Int} {i : Nat} {z : Int} (h : i < a.length) : getI (a.set i z) i = z := by unfold getI; rw [List.getElem?_set_self h]; rfl
theorem set_getI (a : List Int) (i : Nat) : a.set i (getI a i) = a := by
  apply List.ext_getElem?
  intro j
  by_cases hij : i = j
  · subst hij
    by_cases h : i < a.length
    · rw [List.getElem?_set_self h, getI_get h]
    · rw [List.getElem?_eq_none (by simpa using h), List.getElem?_eq_none (by omega)]
  · rw [List.getElem?_set_ne hij]
def mx (a ps : List Int) (j : Nat) : Int := (ps.take j).foldl (fun m p => max m (getI a p.toNat)) 0
theorem mx_zero (a ps : List Int) : mx a ps 0 = 0 := rfl
theorem mx_next {a ps : List Int} {j : Nat} {p : Int} (h : ps[j]? = some p) : mx a ps (j + 1) = max (mx a ps j) (getI a p.toNat) := by
  unfold mx; rw [List.take_add_one, h]; simp [List.foldl_append]
def InB (a : List Int) (b : Int) : Prop := ∀ i, 0 ≤ getI a i ∧ getI a i ≤ b
theorem mx_in {a ps : List Int} {b : Int} (h : InB a b) (hb : 0 ≤ b) : ∀ j, 0 ≤ mx a ps j ∧ mx a ps j ≤ b
  | 0 => by rw [mx_zero]; omega
  | j + 1 => by
    have ih := mx_in (ps := ps) h hb j
    cases hp : ps[j]? with
    | none =>
      have : ps.length ≤ j := List.getElem?_eq_none_iff.1 hp
      have e : mx a ps (j + 1) = mx a ps j := by unfold mx; rw [List.take_of_length_le (by omega), List.take_of_length_le this]
      rw [e]; exact ih
    | some p =>
      rw [mx_next hp]
      have := h p.toNat
      omega
def arrD (e : Er) : Nat → List Int
  | 0 => List.replicate e.length 0
  | k + 1 => (arrD e k).set (e.length - (k + 1)) (1 + mx (arrD e k) (nodeE e (e.length - (k + 1))).2.2 (nodeE e (e.length - (k + 1))).2.2.length)
theorem arrD_len (e : Er) : ∀ k, (arrD e k).length = e.length
  | 0 => by simp [arrD]
  | k + 1 => by rw [arrD, List.length_set, arrD_len e k]
theorem arrD_next {e : Er} {k i : Nat} {s : En} (hi : i + (k + 1) = e.length) (hs : e[i]? = some s) : arrD e (k + 1) = (arrD e k).set i (1 + mx (arrD e k) s.2.2 s.2.2.length) := by
  rw [arrD, show e.length - (k + 1) = i by omega, nodeE_at hs]
theorem arrD_low (e : Er) : ∀ k i, i + k < e.length → getI (arrD e k) i = 0
  | 0, i, h => by unfold getI arrD; rw [List.getElem?_replicate, if_pos (by omega)]; rfl
  | k + 1, i, h => by rw [arrD, getI_set_ne (by omega)]; exact arrD_low e k i (by omega)
theorem arrD_in (e : Er) : ∀ k : Nat, InB (arrD e k) k
  | 0, i => by
    unfold getI arrD
    rw [List.getElem?_replicate]
    split <;> simp
  | k + 1, i => by
    have ih := arrD_in e k
    rw [arrD]
    by_cases hi : e.length - (k + 1) = i
    · subst hi
      by_cases hl : e.length - (k + 1) < (arrD e k).length
      · rw [getI_set hl]
        have := mx_in (ps := (nodeE e (e.length - (k + 1))).2.2) ih (by omega) (nodeE e (e.length - (k + 1))).2.2.length
        omega
      · unfold getI; rw [List.getElem?_eq_none (by simpa using hl)]; simp; omega
    · rw [getI_set_ne hi]
      have := ih i
      omega
theorem arrD_keep (e : Er) (i : Nat) (hi : i ≤ e.length) : ∀ k, e.length - i ≤ k → k ≤ e.length → getI (arrD e k) i = getI (arrD e (e.length - i)) i
  | 0, h, _ => by rw [show e.length - i = 0 by omega]
  | k + 1, h, hk => by
    by_cases he : e.length - i = k + 1
    · rw [he]
    · rw [arrD, getI_set_ne (by omega)]
      exact arrD_keep e i hi k (by omega) (by omega)
def depthR (e : Er) (x : Int) : Int × Bool := if oneE e x then (getI (arrD e (e.length - x.toNat)) x.toNat, true) else (0, false)
end Go.Proofs.Ytkjgibhckcdneaa.ErD
