/- How often numbers are in the walk of an error, as arrays over the numbers. -/
import Derived.Test.YtkjgibhckcdneaaErdp
namespace Go.Proofs.Ytkjgibhckcdneaa.ErW
set_option linter.unusedVariables false
set_option linter.unusedSimpArgs false
open ErP ErD

def addP (a ps : List Int) (z : Int) (j : Nat) : List Int := (ps.take j).foldl (fun a p => a.set p.toNat (getI a p.toNat + z)) a
theorem addP_zero (a ps : List Int) (z : Int) : addP a ps z 0 = a := rfl
theorem addP_next {a ps : List Int} {z : Int} {j : Nat} {p : Int} (h : ps[j]? = some p) : addP a ps z (j + 1) = (addP a ps z j).set p.toNat (getI (addP a ps z j) p.toNat + z) := by
  unfold addP; rw [List.take_add_one, h]; simp [List.foldl_append]
theorem addP_end {a ps : List Int} {z : Int} {j : Nat} (h : ps.length ≤ j) : addP a ps z (j + 1) = addP a ps z j := by
  unfold addP; rw [List.take_of_length_le (by omega), List.take_of_length_le h]
theorem addP_len (a ps : List Int) (z : Int) : ∀ j, (addP a ps z j).length = a.length
  | 0 => by rw [addP_zero]
  | j + 1 => by
    cases hp : ps[j]? with
    | none => rw [addP_end (List.getElem?_eq_none_iff.1 hp)]; exact addP_len a ps z j
    | some p => rw [addP_next hp, List.length_set]; exact addP_len a ps z j
theorem addP_self (a ps : List Int) (z : Int) (i : Nat) (hp : ∀ (j : Nat) (p : Int), ps[j]? = some p → p.toNat ≠ i) : ∀ j, getI (addP a ps z j) i = getI a i
  | 0 => by rw [addP_zero]
  | j + 1 => by
    cases h : ps[j]? with
    | none => rw [addP_end (List.getElem?_eq_none_iff.1 h)]; exact addP_self a ps z i hp j
    | some p => rw [addP_next h, getI_set_ne (hp j p h)]; exact addP_self a ps z i hp j
theorem addP_in {a ps : List Int} {b z : Int} (h : InB a b) (h0 : 0 ≤ z) (hz : z ≤ b) : ∀ j : Nat, InB (addP a ps z j) (b + j * z)
  | 0 => by rw [addP_zero]; simpa using h
  | j + 1 => by
    have ih := addP_in (ps := ps) h h0 hz j
    have e : ((j + 1 : Nat) : Int) * z = j * z + z := by rw [Int.natCast_add, Int.add_mul]; simp
    rw [e]
    cases hp : ps[j]? with
    | none => rw [addP_end (List.getElem?_eq_none_iff.1 hp)]; intro i; have := ih i; omega
    | some p =>
      rw [addP_next hp]
      intro i
      by_cases hi : p.toNat = i
      · by_cases hl : p.toNat < (addP a ps z j).length
        · rw [← hi, getI_set hl]; have := ih p.toNat; omega
        · have h1 : getI ((addP a ps z j).set p.toNat (getI (addP a ps z j) p.toNat + z)) i = 0 := by unfold getI; rw [List.getElem?_eq_none (by rw [List.length_set]; omega)]; rfl
          have := ih i
          rw [h1]; omega
      · rw [getI_set_ne hi]; have := ih i; omega
def arrW (e : Er) (x : Nat) : Nat → List Int
  | 0 => (List.replicate e.length 0).set x 1
  | k + 1 => addP (arrW e x k) (nodeE e (x + k)).2.2 (getI (arrW e x k) (x + k)) (nodeE e (x + k)).2.2.length
theorem arrW_len (e : Er) (x : Nat) : ∀ k, (arrW e x k).length = e.length
  | 0 => by simp [arrW]
  | k + 1 => by rw [arrW, addP_len, arrW_len e x k]
theorem arrW_next {e : Er} {x k : Nat} {s : En} (hs : e[x + k]? = some s) : arrW e x (k + 1) = addP (arrW e x k) s.2.2 (getI (arrW e x k) (x + k)) s.2.2.length := by
  rw [arrW, nodeE_at hs]
theorem arrW_in {e : Er} (h : okErr e = true) (x : Nat) : ∀ k, x + k ≤ e.length → InB (arrW e x k) ((13 ^ k : Nat) : Int)
  | 0, _ => by
    intro i
    unfold arrW
    by_cases hi : x = i
    · subst hi
      by_cases hl : x < (List.replicate e.length (0 : Int)).length
      · rw [getI_set hl]; simp
      · unfold getI; rw [List.getElem?_eq_none (by rw [List.length_set]; omega)]; simp
    · rw [getI_set_ne hi]
      unfold getI
      rw [List.getElem?_replicate]
      split <;> simp
  | k + 1, hk => by
    have ih := arrW_in h x k (by omega)
    obtain ⟨s, hs⟩ : ∃ s, e[x + k]? = some s := ⟨_, List.getElem?_eq_getElem (by omega)⟩
    have h12 := ok_many h hs
    have hb := ih (x + k)
    have := addP_in (ps := s.2.2) ih hb.1 hb.2 s.2.2.length
    rw [arrW_next hs]
    intro i
    have h1 := this i
    refine ⟨h1.1, Int.le_trans h1.2 ?_⟩
    have h2 : (s.2.2.length : Int) * getI (arrW e x k) (x + k) ≤ 12 * ((13 ^ k : Nat) : Int) := Int.mul_le_mul (by omega) hb.2 hb.1 (by omega)
    rw [Nat.pow_succ]
    omega
theorem arrW_top {e : Er} (h : okErr e = true) (x k : Nat) (hk : x + k ≤ e.length) : InB (arrW e x k) 23298085122481 := by
  have h1 := arrW_in h x k hk
  have h2 := ((okErr_iff e).1 h).2.1
  have h3 : 13 ^ k ≤ 13 ^ 12 := Nat.pow_le_pow_right (by omega) (by omega)
  have h4 : (13 : Nat) ^ 12 = 23298085122481 := by decide
  intro i
  have := h1 i
  omega
theorem parts_ne {e : Er} (h : okErr e = true) {i : Nat} {s : En} (hs : e[i]? = some s) : ∀ (j : Nat) (p : Int), s.2.2[j]? = some p → p.toNat ≠ i := by
  intro j p hp
  obtain ⟨q, rfl, h1, h2⟩ := ok_part h hs hp
  rw [Int.toNat_natCast]
  omega
def waysE (e : Er) (x : Nat) : List Int := arrW e x (e.length - x)
def countR (e : Er) (x t : Int) : Int × Bool := if oneE e x && oneE e t then (getI (waysE e x.toNat) t.toNat, true) else (0, false)
end Go.Proofs.Ytkjgibhckcdneaa.ErW
