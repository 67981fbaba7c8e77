/- Which errors are alike, as arrays over their numbers: the greatest number of one that is alike; two ways to find it. -/
import Derived.Test.YtkjgibhckcdneaaErdp
namespace Go.Proofs.Ytkjgibhckcdneaa.ErS
set_option linter.unusedVariables false
set_option linter.unusedSimpArgs false
open ErP ErD

/-- What an error is known by: kind, code, and the classes of its parts. -/
def keyE (e : Er) (a : List Int) (i : Nat) : Int × Int × List Int := ((nodeE e i).1, (nodeE e i).2.1, (nodeE e i).2.2.map (fun p => getI a p.toNat))
def sameB (e : Er) (a : List Int) (i j : Nat) : Bool := decide (keyE e a i = keyE e a j)
def shp (e : Er) (a : List Int) (i : Nat) : Int :=
  match (List.range e.length).find? (fun j => decide (i < j) && sameB e a i j) with
  | some j => getI a j
  | none => i
def arrS (e : Er) : Nat → List Int
  | 0 => List.replicate e.length 0
  | k + 1 => (arrS e k).set (e.length - (k + 1)) (shp e (arrS e k) (e.length - (k + 1)))
theorem arrS_len (e : Er) : ∀ k, (arrS e k).length = e.length
  | 0 => by simp [arrS]
  | k + 1 => by rw [arrS, List.length_set, arrS_len e k]
/-- What holds of the classes from i0 on. -/
structure Inv (e : Er) (a : List Int) (i0 : Nat) : Prop where
  at_ : ∀ i, i0 ≤ i → i < e.length → ∃ r : Nat, getI a i = r ∧ i ≤ r ∧ r < e.length ∧ getI a r = r ∧ keyE e a r = keyE e a i
  one : ∀ i j, i0 ≤ i → i < e.length → i0 ≤ j → j < e.length → keyE e a i = keyE e a j → getI a i = getI a j
theorem key_set {e : Er} (h : okErr e = true) {a : List Int} {i j : Nat} {z : Int} (hij : i ≤ j) (hj : j < e.length) : keyE e (a.set i z) j = keyE e a j := by
  obtain ⟨s, hs⟩ : ∃ s, e[j]? = some s := ⟨_, List.getElem?_eq_getElem hj⟩
  unfold keyE
  rw [nodeE_at hs]
  have : s.2.2.map (fun p => getI (a.set i z) p.toNat) = s.2.2.map (fun p => getI a p.toNat) := by
    apply List.map_congr_left
    intro p hp
    obtain ⟨q, hq, rfl⟩ := List.mem_iff_getElem.1 hp
    obtain ⟨x, hx, h1, h2⟩ := ok_part h hs (List.getElem?_eq_getElem hq)
    rw [hx, Int.toNat_natCast, getI_set_ne (by omega)]
  rw [this]
theorem shp_same {e : Er} {a : List Int} {i j : Nat} (h : Inv e a (i + 1)) (hij : i < j) (hj : j < e.length) (hs : keyE e a i = keyE e a j) : shp e a i = getI a j := by
  unfold shp
  split
  · rename_i k hk
    have h1 := List.find?_some hk
    rw [Bool.and_eq_true, decide_eq_true_eq] at h1
    have h2 := List.mem_range.1 (List.mem_of_find?_eq_some hk)
    have h3 : keyE e a i = keyE e a k := of_decide_eq_true h1.2
    exact h.one k j (by omega) h2 (by omega) hj (h3.symm.trans hs)
  · rename_i hk
    have := List.find?_eq_none.1 hk j (List.mem_range.2 hj)
    simp [hij, sameB, hs] at this
theorem shp_none {e : Er} {a : List Int} {i : Nat} (h : ∀ j, i < j → j < e.length → keyE e a i ≠ keyE e a j) : shp e a i = i := by
  unfold shp
  split
  · rename_i k hk
    have h1 := List.find?_some hk
    rw [Bool.and_eq_true, decide_eq_true_eq] at h1
    have h2 := List.mem_range.1 (List.mem_of_find?_eq_some hk)
    exact absurd (of_decide_eq_true h1.2) (h k h1.1 h2)
  · rfl
/-- The other way: among those that are their own classes. -/
theorem shp_cand {e : Er} {a : List Int} {i j : Nat} (h : Inv e a (i + 1)) (hij : i < j) (hj : j < e.length) (hs : keyE e a i = keyE e a j) (hc : getI a j = j) : shp e a i = j := by
  rw [shp_same h hij hj hs, hc]
theorem shp_nocand {e : Er} {a : List Int} {i : Nat} (h : Inv e a (i + 1)) (hn : ∀ j, i < j → j < e.length → ¬ (getI a j = j ∧ keyE e a i = keyE e a j)) : shp e a i = i := by
  apply shp_none
  intro j hij hj hs
  obtain ⟨r, h1, h2, h3, h4, h5⟩ := h.at_ j (by omega) hj
  exact hn r (by omega) h3 ⟨h4, hs.trans h5.symm⟩
theorem inv_next {e : Er} (ho : okErr e = true) {a : List Int} {i : Nat} (hl : a.length = e.length) (hi : i < e.length) (h : Inv e a (i + 1)) : Inv e (a.set i (shp e a i)) i := by
  have hget : ∀ j, i ≠ j → getI (a.set i (shp e a i)) j = getI a j := fun j hj => getI_set_ne hj
  have hself : getI (a.set i (shp e a i)) i = shp e a i := getI_set (by omega)
  have hkey : ∀ j, i ≤ j → j < e.length → keyE e (a.set i (shp e a i)) j = keyE e a j := fun j h1 h2 => key_set ho h1 h2
  by_cases hex : ∃ j, i < j ∧ j < e.length ∧ keyE e a i = keyE e a j
  · obtain ⟨j, hij, hj, hs⟩ := hex
    have hv := shp_same h hij hj hs
    refine ⟨fun k hk hkl => ?_, fun k m hk hkl hm hml hkm => ?_⟩
    · by_cases hki : k = i
      · subst hki
        obtain ⟨r, h1, h2, h3, h4, h5⟩ := h.at_ j (by omega) hj
        refine ⟨r, by rw [hself, hv, h1], by omega, h3, by rw [hget r (by omega)]; exact h4, ?_⟩
        rw [hkey r (by omega) h3, hkey k (Nat.le_refl _) hkl, h5, hs]
      · obtain ⟨r, h1, h2, h3, h4, h5⟩ := h.at_ k (by omega) hkl
        exact ⟨r, by rw [hget k (by omega)]; exact h1, h2, h3, by rw [hget r (by omega)]; exact h4, by rw [hkey r (by omega) h3, hkey k hk hkl]; exact h5⟩
    · rw [hkey k hk hkl, hkey m hm hml] at hkm
      by_cases hki : k = i <;> by_cases hmi : m = i
      · rw [hki, hmi]
      · subst hki
        rw [hself, hget m (by omega)]
        exact shp_same h (by omega) hml hkm
      · subst hmi
        rw [hself, hget k (by omega)]
        exact (shp_same h (by omega) hkl hkm.symm).symm
      · rw [hget k (by omega), hget m (by omega)]
        exact h.one k m (by omega) hkl (by omega) hml hkm
  · have hno : ∀ j, i < j → j < e.length → keyE e a i ≠ keyE e a j := fun j h1 h2 h3 => hex ⟨j, h1, h2, h3⟩
    have hv := shp_none hno
    refine ⟨fun k hk hkl => ?_, fun k m hk hkl hm hml hkm => ?_⟩
    · by_cases hki : k = i
      · subst hki
        exact ⟨k, by rw [hself, hv], Nat.le_refl _, hkl, by rw [hself, hv], rfl⟩
      · obtain ⟨r, h1, h2, h3, h4, h5⟩ := h.at_ k (by omega) hkl
        exact ⟨r, by rw [hget k (by omega)]; exact h1, h2, h3, by rw [hget r (by omega)]; exact h4, by rw [hkey r (by omega) h3, hkey k hk hkl]; exact h5⟩
    · rw [hkey k hk hkl, hkey m hm hml] at hkm
      by_cases hki : k = i <;> by_cases hmi : m = i
      · rw [hki, hmi]
      · subst hki
        exact absurd hkm (hno m (by omega) hml)
      · subst hmi
        exact absurd hkm.symm (hno k (by omega) hkl)
      · rw [hget k (by omega), hget m (by omega)]
        exact h.one k m (by omega) hkl (by omega) hml hkm
theorem arrS_inv {e : Er} (ho : okErr e = true) : ∀ k, k ≤ e.length → Inv e (arrS e k) (e.length - k)
  | 0, _ => ⟨fun i h1 h2 => by omega, fun i j h1 h2 => by omega⟩
  | k + 1, hk => by
    have ih := arrS_inv ho k (by omega)
    rw [show e.length - k = (e.length - (k + 1)) + 1 by omega] at ih
    exact inv_next ho (arrS_len e k) (by omega) ih
theorem arrS_next {e : Er} {k i : Nat} (hi : i + (k + 1) = e.length) : arrS e (k + 1) = (arrS e k).set i (shp e (arrS e k) i) := by
  rw [arrS, show e.length - (k + 1) = i by omega]
def alikeR (e : Er) (x y : Int) : Bool × Bool := if oneE e x && oneE e y then (decide (getI (arrS e e.length) x.toNat = getI (arrS e e.length) y.toNat), true) else (false, false)
/-- Whether two errors are known by the same. -/
theorem key_eq {e : Er} {a : List Int} {i j : Nat} {s t : En} (hs : e[i]? = some s) (ht : e[j]? = some t) : (keyE e a i = keyE e a j) ↔ s.1 = t.1 ∧ s.2.1 = t.2.1 ∧ s.2.2.map (fun p => getI a p.toNat) = t.2.2.map (fun p => getI a p.toNat) := by
  unfold keyE
  rw [nodeE_at hs, nodeE_at ht]
  simp
end Go.Proofs.Ytkjgibhckcdneaa.ErS
