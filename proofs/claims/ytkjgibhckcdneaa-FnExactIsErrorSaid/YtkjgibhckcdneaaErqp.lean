/- Errors without those that are not in a walk, over lists: who is kept, which number each then has. -/
import Derived.Test.YtkjgibhckcdneaaErwp
namespace Go.Proofs.Ytkjgibhckcdneaa.ErQ
set_option linter.unusedVariables false
set_option linter.unusedSimpArgs false
open ErP ErD ErW

def kp (a : List Int) (i : Nat) : Bool := decide (0 < getI a i)
def rkE (a : List Int) (i : Nat) : Nat := ((List.range i).filter (kp a)).length
def keptE (a : List Int) (k : Nat) : List Int := ((List.range k).filter (kp a)).map (fun i : Nat => (i : Int))
theorem kept_len (a : List Int) (k : Nat) : (keptE a k).length = rkE a k := by unfold keptE rkE; rw [List.length_map]
theorem kept_yes {a : List Int} {k : Nat} (h : 0 < getI a k) : keptE a (k + 1) = keptE a k ++ [(k : Int)] := by
  have : kp a k = true := decide_eq_true h
  unfold keptE; rw [List.range_succ, List.filter_append, List.map_append]; simp [this]
theorem kept_no {a : List Int} {k : Nat} (h : ¬ 0 < getI a k) : keptE a (k + 1) = keptE a k := by
  have : kp a k = false := decide_eq_false h
  unfold keptE; rw [List.range_succ, List.filter_append, List.map_append]; simp [this]
theorem rk_yes {a : List Int} {k : Nat} (h : 0 < getI a k) : rkE a (k + 1) = rkE a k + 1 := by rw [← kept_len, ← kept_len, kept_yes h]; simp
theorem rk_no {a : List Int} {k : Nat} (h : ¬ 0 < getI a k) : rkE a (k + 1) = rkE a k := by rw [← kept_len, ← kept_len, kept_no h]
theorem rk_le (a : List Int) (k : Nat) : rkE a k ≤ k := by unfold rkE; exact Nat.le_trans (List.length_filter_le _ _) (by simp)
theorem kept_lt {a : List Int} {k : Nat} {z : Int} (h : z ∈ keptE a k) : ∃ i : Nat, z = i ∧ i < k ∧ 0 < getI a i := by
  unfold keptE at h
  obtain ⟨i, hi, rfl⟩ := List.mem_map.1 h
  obtain ⟨h1, h2⟩ := List.mem_filter.1 hi
  exact ⟨i, rfl, List.mem_range.1 h1, of_decide_eq_true h2⟩
theorem kept_split {a : List Int} {i : Nat} (h : 0 < getI a i) : ∀ n, i < n → ∃ t, keptE a n = keptE a i ++ (i : Int) :: t
  | 0, hn => by omega
  | n + 1, hn => by
    by_cases hin : n = i
    · subst hin
      exact ⟨[], kept_yes h⟩
    · obtain ⟨t, ht⟩ := kept_split h n (by omega)
      by_cases hk : 0 < getI a n
      · exact ⟨t ++ [(n : Int)], by rw [kept_yes hk, ht]; simp⟩
      · exact ⟨t, by rw [kept_no hk, ht]⟩
/-- Where a number that is kept lies, and that it is not ahead of there. -/
theorem kept_at {a : List Int} {i n : Nat} (h : 0 < getI a i) (hn : i < n) : (keptE a n)[rkE a i]? = some (i : Int) ∧ ∀ j z, j < rkE a i → (keptE a n)[j]? = some z → z ≠ i := by
  obtain ⟨t, ht⟩ := kept_split h n hn
  have hl := kept_len a i
  refine ⟨by rw [ht, List.getElem?_append_right (by omega), hl, Nat.sub_self]; rfl, fun j z hj hz => ?_⟩
  rw [ht, List.getElem?_append_left (by omega)] at hz
  obtain ⟨k, rfl, hk, _⟩ := kept_lt (List.mem_of_getElem? hz)
  omega
def newE (a : List Int) (z : Int) : Int := (rkE a z.toNat : Int)
def nodeG (F : Int → Int) (s : En) : En := (s.1, s.2.1, s.2.2.map F)
def prunedE (e : Er) (a : List Int) (k : Nat) : Er := ((List.range k).filter (kp a)).map (fun i => nodeG (newE a) (nodeE e i))
theorem pruned_len (e : Er) (a : List Int) (k : Nat) : (prunedE e a k).length = rkE a k := by unfold prunedE rkE; rw [List.length_map]
theorem pruned_yes {e : Er} {a : List Int} {k : Nat} {s : En} (hs : e[k]? = some s) (h : 0 < getI a k) : prunedE e a (k + 1) = prunedE e a k ++ [nodeG (newE a) s] := by
  have : kp a k = true := decide_eq_true h
  unfold prunedE; rw [List.range_succ, List.filter_append, List.map_append]; simp [this, nodeE_at hs]
theorem pruned_no {e : Er} {a : List Int} {k : Nat} (h : ¬ 0 < getI a k) : prunedE e a (k + 1) = prunedE e a k := by
  have : kp a k = false := decide_eq_false h
  unfold prunedE; rw [List.range_succ, List.filter_append, List.map_append]; simp [this]
def pruneR (e : Er) (x : Int) : Er × Bool := if oneE e x then (prunedE e (waysE e x.toNat) e.length, true) else ([], false)

/-! ### The parts of what is kept are kept. -/
theorem addP_ge {a ps : List Int} {z : Int} (hz : 0 ≤ z) (ha : ∀ i, 0 ≤ getI a i) (q : Nat) : ∀ j, getI a q ≤ getI (addP a ps z j) q
  | 0 => by rw [addP_zero]; exact Int.le_refl _
  | j + 1 => by
    have ih := addP_ge (ps := ps) hz ha q j
    cases hp : ps[j]? with
    | none => rw [addP_end (List.getElem?_eq_none_iff.1 hp)]; exact ih
    | some p =>
      rw [addP_next hp]
      by_cases hpq : p.toNat = q
      · subst hpq
        by_cases hl : p.toNat < (addP a ps z j).length
        · rw [getI_set hl]; omega
        · have : getI a p.toNat = 0 := by unfold getI; rw [List.getElem?_eq_none (by rw [addP_len] at hl; omega)]; rfl
          rw [this]
          unfold getI
          rw [List.getElem?_eq_none (by rw [List.length_set]; omega)]
          simp
      · rw [getI_set_ne hpq]; exact ih
theorem addP_hit {a ps : List Int} {z : Int} (hz : 0 ≤ z) (ha : ∀ i, 0 ≤ getI a i) {q j0 : Nat} (hq : ps[j0]? = some (q : Int)) (hl : q < a.length) : ∀ j, j0 < j → z ≤ getI (addP a ps z j) q
  | 0, h => by omega
  | j + 1, h => by
    by_cases hj : j0 = j
    · subst hj
      rw [addP_next hq, Int.toNat_natCast, getI_set (by rw [addP_len]; exact hl)]
      have := addP_ge (ps := ps) hz ha q j0
      have := ha q
      omega
    · have ih := addP_hit (ps := ps) hz ha hq hl j (by omega)
      cases hp : ps[j]? with
      | none => rw [addP_end (List.getElem?_eq_none_iff.1 hp)]; exact ih
      | some p =>
        rw [addP_next hp]
        by_cases hpq : p.toNat = q
        · subst hpq
          rw [getI_set (by rw [addP_len]; exact hl)]; omega
        · rw [getI_set_ne hpq]; exact ih
theorem arrW_pos {e : Er} (h : okErr e = true) (x : Nat) : ∀ k, x + k ≤ e.length → ∀ i, 0 ≤ getI (arrW e x k) i := fun k hk i => (arrW_in h x k hk i).1
theorem arrW_fix {e : Er} (h : okErr e = true) {x k i : Nat} (hk : x + k < e.length) (hi : i ≤ x + k) : getI (arrW e x (k + 1)) i = getI (arrW e x k) i := by
  obtain ⟨s, hs⟩ : ∃ s, e[x + k]? = some s := ⟨_, List.getElem?_eq_getElem hk⟩
  rw [arrW_next hs]
  exact addP_self _ _ _ _ (fun j p hp => by
    obtain ⟨q, rfl, h1, h2⟩ := ok_part h hs hp
    rw [Int.toNat_natCast]; omega) _
theorem arrW_ge {e : Er} (h : okErr e = true) {x k q : Nat} (hk : x + k < e.length) : getI (arrW e x k) q ≤ getI (arrW e x (k + 1)) q := by
  obtain ⟨s, hs⟩ : ∃ s, e[x + k]? = some s := ⟨_, List.getElem?_eq_getElem hk⟩
  rw [arrW_next hs]
  exact addP_ge (arrW_pos h x k (by omega) _) (arrW_pos h x k (by omega)) q _
theorem arrW_low {e : Er} (h : okErr e = true) (x : Nat) {i : Nat} (hi : i < x) : ∀ k, x + k ≤ e.length → getI (arrW e x k) i = 0
  | 0, _ => by
    unfold arrW
    rw [getI_set_ne (by omega)]
    unfold getI
    rw [List.getElem?_replicate]
    split <;> rfl
  | k + 1, hk => by rw [arrW_fix h (by omega) (by omega)]; exact arrW_low h x hi k (by omega)
theorem arrW_later {e : Er} (h : okErr e = true) {x k i : Nat} (hi : i ≤ x + k) : ∀ d, x + k + d ≤ e.length → getI (arrW e x (k + d)) i = getI (arrW e x k) i
  | 0, _ => rfl
  | d + 1, hd => by rw [← Nat.add_assoc, arrW_fix h (by omega) (by omega)]; exact arrW_later h hi d (by omega)
theorem arrW_more {e : Er} (h : okErr e = true) {x k q : Nat} : ∀ d, x + k + d ≤ e.length → getI (arrW e x k) q ≤ getI (arrW e x (k + d)) q
  | 0, _ => Int.le_refl _
  | d + 1, hd => Int.le_trans (arrW_more h d (by omega)) (by rw [← Nat.add_assoc]; exact arrW_ge h (by omega))
theorem ways_part {e : Er} (h : okErr e = true) {x i j : Nat} {s : En} {p : Int} (hx : x < e.length) (hs : e[i]? = some s) (hp : s.2.2[j]? = some p) (hi : 0 < getI (waysE e x) i) : 0 < getI (waysE e x) p.toNat := by
  obtain ⟨q, rfl, h1, h2⟩ := ok_part h hs hp
  rw [Int.toNat_natCast]
  have hil := (List.getElem?_eq_some_iff.1 hs).1
  by_cases hix : i < x
  · have := arrW_low h x hix (e.length - x) (by omega)
    unfold waysE at hi
    omega
  · obtain ⟨k, rfl⟩ : ∃ k, i = x + k := ⟨i - x, by omega⟩
    unfold waysE at hi ⊢
    have e1 := arrW_later h (x := x) (k := k) (i := x + k) (Nat.le_refl _) (e.length - x - k) (by omega)
    rw [show k + (e.length - x - k) = e.length - x by omega] at e1
    have e2 := arrW_more h (x := x) (k := k + 1) (q := q) (e.length - x - (k + 1)) (by omega)
    rw [show k + 1 + (e.length - x - (k + 1)) = e.length - x by omega] at e2
    have e3 := addP_hit (ps := s.2.2) (arrW_pos h x k (by omega) (x + k)) (arrW_pos h x k (by omega)) hp (by rw [arrW_len]; exact h2) s.2.2.length (List.getElem?_eq_some_iff.1 hp).1
    rw [← arrW_next hs] at e3
    omega
theorem ways_len (e : Er) (x : Nat) : (waysE e x).length = e.length := arrW_len _ _ _
end Go.Proofs.Ytkjgibhckcdneaa.ErQ
