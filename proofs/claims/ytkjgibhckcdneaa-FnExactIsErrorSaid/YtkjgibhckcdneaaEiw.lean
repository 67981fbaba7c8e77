/- Who is in the walk of an error: itself, and who is in the walk of one of its parts (facts about lists). -/
import Derived.Test.YtkjgibhckcdneaaEip
namespace Go.Proofs.Ytkjgibhckcdneaa.ErI
set_option linter.unusedVariables false
set_option linter.unusedSimpArgs false
open ErP ErD ErW ErQ

/-- In the walk. -/
def inW (e : Er) (x z : Nat) : Prop := 0 < getI (waysE e x) z
theorem addP_from {a ps : List Int} {z : Int} (ha : ∀ i, 0 ≤ getI a i) {q : Nat} : ∀ j, 0 < getI (addP a ps z j) q → 0 < getI a q ∨ (0 < z ∧ ∃ (j0 : Nat) (p : Int), ps[j0]? = some p ∧ p.toNat = q)
  | 0, h => .inl (by rw [addP_zero] at h; exact h)
  | j + 1, h => by
    cases hp : ps[j]? with
    | none => rw [addP_end (List.getElem?_eq_none_iff.1 hp)] at h; exact addP_from ha j h
    | some p =>
      rw [addP_next hp] at h
      by_cases hpq : p.toNat = q
      · by_cases hz : 0 < z
        · exact .inr ⟨hz, j, p, hp, hpq⟩
        · subst hpq
          by_cases hl : p.toNat < (addP a ps z j).length
          · rw [getI_set hl] at h
            exact addP_from ha j (by omega)
          · exfalso
            have : getI ((addP a ps z j).set p.toNat (getI (addP a ps z j) p.toNat + z)) p.toNat = 0 := by unfold getI; rw [List.getElem?_eq_none (by rw [List.length_set]; omega)]; rfl
            omega
      · rw [getI_set_ne hpq] at h
        exact addP_from ha j h
theorem arrW_from {e : Er} (h : okErr e = true) {x q : Nat} : ∀ k, x + k ≤ e.length → 0 < getI (arrW e x k) q → q = x ∨ ∃ (k0 : Nat) (s : En) (j0 : Nat) (p : Int), k0 < k ∧ e[x + k0]? = some s ∧ s.2.2[j0]? = some p ∧ p.toNat = q ∧ 0 < getI (arrW e x k0) (x + k0)
  | 0, hk, hp => by
    unfold arrW at hp
    by_cases hq : x = q
    · exact .inl hq.symm
    · rw [getI_set_ne hq] at hp
      unfold getI at hp
      rw [List.getElem?_replicate] at hp
      split at hp <;> simp at hp
  | k + 1, hk, hp => by
    obtain ⟨s, hs⟩ : ∃ s, e[x + k]? = some s := ⟨_, List.getElem?_eq_getElem (by omega)⟩
    rw [arrW_next hs] at hp
    rcases addP_from (arrW_pos h x k (by omega)) _ hp with h1 | ⟨h1, j0, p, h2, h3⟩
    · rcases arrW_from h k (by omega) h1 with h4 | ⟨k0, s0, j0, p, h4, h5⟩
      · exact .inl h4
      · exact .inr ⟨k0, s0, j0, p, by omega, h5⟩
    · exact .inr ⟨k, s, j0, p, by omega, hs, h2, h3, h1⟩
theorem inW_self {e : Er} (h : okErr e = true) {x : Nat} (hx : x < e.length) : inW e x x := by
  unfold inW waysE
  have := arrW_more h (x := x) (k := 0) (q := x) (e.length - x) (by omega)
  have h0 : getI (arrW e x 0) x = 1 := by unfold arrW; rw [getI_set (by simpa using hx)]
  rw [Nat.zero_add] at this
  omega
theorem inW_from {e : Er} (h : okErr e = true) {x z : Nat} (hx : x < e.length) (hw : inW e x z) : z = x ∨ ∃ (i : Nat) (s : En) (j : Nat), i < z ∧ e[i]? = some s ∧ s.2.2[j]? = some (z : Int) ∧ inW e x i := by
  unfold inW waysE at hw
  rcases arrW_from h _ (by omega) hw with h1 | ⟨k0, s, j, p, h1, h2, h3, h4, h5⟩
  · exact .inl h1
  · obtain ⟨q, rfl, h6, h7⟩ := ok_part h h2 h3
    rw [Int.toNat_natCast] at h4
    subst h4
    refine .inr ⟨x + k0, s, j, h6, h2, h3, ?_⟩
    unfold inW waysE
    have e1 := arrW_later h (x := x) (k := k0) (i := x + k0) (Nat.le_refl _) (e.length - x - k0) (by omega)
    rw [show k0 + (e.length - x - k0) = e.length - x by omega] at e1
    omega
theorem inW_part {e : Er} (h : okErr e = true) {x i j z : Nat} {s : En} (hx : x < e.length) (hs : e[i]? = some s) (hp : s.2.2[j]? = some (z : Int)) (hi : inW e x i) : inW e x z := by
  have := ways_part h hx hs hp hi
  rwa [Int.toNat_natCast] at this
theorem inW_deep {e : Er} (h : okErr e = true) {x j p : Nat} {s : En} (hx : x < e.length) (hs : e[x]? = some s) (hp : s.2.2[j]? = some (p : Int)) (hpl : p < e.length) : ∀ (k z : Nat), z < k → inW e p z → inW e x z
  | 0, z, hz, _ => by omega
  | k + 1, z, hz, hw => by
    rcases inW_from h hpl hw with rfl | ⟨i, t, j', h1, h2, h3, h4⟩
    · exact inW_part h hx hs hp (inW_self h hx)
    · exact inW_part h hx h2 h3 (inW_deep h hx hs hp hpl k i (by omega) h4)
theorem inW_first {e : Er} (h : okErr e = true) {x : Nat} {s : En} (hx : x < e.length) (hs : e[x]? = some s) : ∀ (k z : Nat), z < k → inW e x z → z = x ∨ ∃ (j p : Nat), s.2.2[j]? = some (p : Int) ∧ x < p ∧ p < e.length ∧ inW e p z
  | 0, z, hz, _ => by omega
  | k + 1, z, hz, hw => by
    rcases inW_from h hx hw with h0 | ⟨i, t, j', h1, h2, h3, h4⟩
    · exact .inl h0
    · have hil := (List.getElem?_eq_some_iff.1 h2).1
      rcases inW_first h hx hs k i (by omega) h4 with rfl | ⟨j, p, h5, h6, h7, h8⟩
      · rw [hs] at h2
        obtain rfl : s = t := by simpa using h2
        obtain ⟨q, hq, h6, h7⟩ := ok_part h hs h3
        obtain rfl : z = q := by omega
        exact .inr ⟨j', z, h3, h6, h7, inW_self h h7⟩
      · exact .inr ⟨j, p, h5, h6, h7, inW_part h h7 h2 h3 h8⟩
/-- An error that is the target, or likes it. -/
def isOne (e : Er) (t z : Nat) : Bool := decide (z = t) || likeE (nodeE e z) (nodeE e t)
def hitN (e : Er) (t x : Nat) : Bool := hitsE e (waysE e x) t e.length
theorem hitN_iff (e : Er) (t x : Nat) : hitN e t x = true ↔ ∃ z, z < e.length ∧ inW e x z ∧ isOne e t z = true := by
  unfold hitN hitsE
  rw [List.any_eq_true]
  constructor
  · rintro ⟨z, hz, h⟩
    unfold hitE at h
    rw [Bool.and_eq_true] at h
    exact ⟨z, List.mem_range.1 hz, (of_decide_eq_true h.1 : 0 < getI (waysE e x) z), h.2⟩
  · rintro ⟨z, hz, h1, h2⟩
    refine ⟨z, List.mem_range.2 hz, ?_⟩
    unfold hitE
    rw [Bool.and_eq_true]
    exact ⟨decide_eq_true (show 0 < getI (waysE e x) z from h1), h2⟩
theorem hitN_step {e : Er} (h : okErr e = true) {t x : Nat} {s : En} (hx : x < e.length) (hs : e[x]? = some s) :
    hitN e t x = (isOne e t x || s.2.2.any (fun p => hitN e t p.toNat)) := by
  rw [Bool.eq_iff_iff, Bool.or_eq_true, hitN_iff, List.any_eq_true]
  constructor
  · rintro ⟨z, hz, h1, h2⟩
    rcases inW_first h hx hs _ z (Nat.lt_succ_self z) h1 with rfl | ⟨j, p, h3, h4, h5, h6⟩
    · exact .inl h2
    · refine .inr ⟨(p : Int), List.mem_of_getElem? h3, ?_⟩
      rw [Int.toNat_natCast, hitN_iff]
      exact ⟨z, hz, h6, h2⟩
  · rintro (h1 | ⟨p, hp, h1⟩)
    · exact ⟨x, hx, inW_self h hx, h1⟩
    · obtain ⟨j, hj⟩ := List.getElem?_of_mem hp
      obtain ⟨q, rfl, h2, h3⟩ := ok_part h hs hj
      rw [Int.toNat_natCast, hitN_iff] at h1
      obtain ⟨z, hz, h4, h5⟩ := h1
      exact ⟨z, hz, inW_deep h hx hs hj h3 _ z (Nat.lt_succ_self z) h4, h5⟩
/-- The parts, each where it comes first alone. -/
def onceE : List Int → Nat → List Int
  | ps, 0 => []
  | ps, j + 1 => match ps[j]? with
    | none => onceE ps j
    | some p => if (ps.take j).contains p then onceE ps j else onceE ps j ++ [p]
theorem once_yes {ps : List Int} {j : Nat} {p : Int} (h : ps[j]? = some p) (hc : (ps.take j).contains p = false) : onceE ps (j + 1) = onceE ps j ++ [p] := by
  rw [onceE, h]; dsimp only; rw [hc]; rfl
theorem once_no {ps : List Int} {j : Nat} {p : Int} (h : ps[j]? = some p) (hc : (ps.take j).contains p = true) : onceE ps (j + 1) = onceE ps j := by
  rw [onceE, h]; dsimp only; rw [hc]; rfl
theorem once_le (ps : List Int) : ∀ j, (onceE ps j).length ≤ j
  | 0 => by simp [onceE]
  | j + 1 => by
    have ih := once_le ps j
    rw [onceE]
    split
    · omega
    · split
      · omega
      · rw [List.length_append, List.length_singleton]; omega
theorem once_mem {ps : List Int} {p : Int} : ∀ j, p ∈ onceE ps j ↔ p ∈ ps.take j
  | 0 => by simp [onceE]
  | j + 1 => by
    have ih := once_mem (ps := ps) (p := p) j
    cases hp : ps[j]? with
    | none =>
      have hl := List.getElem?_eq_none_iff.1 hp
      rw [onceE, hp, List.take_of_length_le (Nat.le_succ_of_le hl)]
      rw [List.take_of_length_le hl] at ih
      exact ih
    | some q =>
      rw [List.take_add_one, hp]
      cases hc : (ps.take j).contains q with
      | true =>
        rw [once_no hp hc, ih]
        simp only [Option.toList_some, List.mem_append, List.mem_singleton]
        constructor
        · exact fun h => .inl h
        · rintro (h | rfl)
          · exact h
          · simpa using hc
      | false => rw [once_yes hp hc, List.mem_append, ih]; simp
theorem once_any (f : Int → Bool) (ps : List Int) : (onceE ps ps.length).any f = ps.any f := by
  rw [Bool.eq_iff_iff, List.any_eq_true, List.any_eq_true]
  constructor
  · rintro ⟨p, h1, h2⟩
    rw [once_mem, List.take_length] at h1
    exact ⟨p, h1, h2⟩
  · rintro ⟨p, h1, h2⟩
    exact ⟨p, by rw [once_mem, List.take_length]; exact h1, h2⟩
end Go.Proofs.Ytkjgibhckcdneaa.ErI
