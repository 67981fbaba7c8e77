set_option linter.all false
namespace Go.Proofs.Ytkjgibhckcdneaa.ErP
abbrev En := Int × Int × List Int
abbrev Er := List En
def okKind (k d : Int) (m : Nat) : Bool :=
 if k = 1 ∨ k = 4 then decide (m = 0) else if k = 2 then decide (m = 1) else if k = 3 then decide (0 < m) && decide (d = 0) else false
def okPart (n i : Nat) (p : Int) : Bool := decide ((i : Int) < p) && decide (p < (n : Int))
def okNode (n i : Nat) (s : En) : Bool :=
 decide (0 ≤ s.2.1) && decide (s.2.1 ≤ 99) && decide (s.2.2.length ≤ 12) && s.2.2.all (okPart n i) && okKind s.1 s.2.1 s.2.2.length
def okErr (e : Er) : Bool := decide (1 ≤ e.length) && decide (e.length ≤ 12) && (List.range e.length).all (fun i => match e[i]? with | some s => okNode e.length i s | none => true)
def allN (n : Nat) (e : Er) (k : Nat) : Prop := ∀ (i : Nat) (s : En), i < k → e[i]? = some s → okNode n i s = true
def allP (n i : Nat) (l : List Int) (k : Nat) : Prop := ∀ (j : Nat) (p : Int), j < k → l[j]? = some p → okPart n i p = true
theorem allN_zero (n : Nat) (e : Er) : allN n e 0 := fun _ _ h => absurd h (by omega)
theorem allP_zero (n i : Nat) (l : List Int) : allP n i l 0 := fun _ _ h => absurd h (by omega)
theorem allN_next {n : Nat} {e : Er} {k : Nat} {s : En} (h : allN n e k) (hx : e[k]? = some s) (ho : okNode n k s = true) : allN n e (k + 1) := by
 intro i t hi ht
 rcases Nat.lt_or_ge i k with hik | hik
 ·exact h i t hik ht
 ·obtain rfl : i = k := by omega
  rw [hx] at ht
  obtain rfl : s = t := by simpa using ht
  exact ho
theorem allP_next {n i : Nat} {l : List Int} {k : Nat} {p : Int} (h : allP n i l k) (hx : l[k]? = some p) (ho : okPart n i p = true) : allP n i l (k + 1) := by
 intro j t hi ht
 rcases Nat.lt_or_ge j k with hik | hik
 ·exact h j t hik ht
 ·obtain rfl : j = k := by omega
  rw [hx] at ht
  obtain rfl : p = t := by simpa using ht
  exact ho
theorem okErr_iff (e : Er) : okErr e = true ↔ 1 ≤ e.length ∧ e.length ≤ 12 ∧ allN e.length e e.length := by
 unfold okErr allN
 rw [Bool.and_eq_true, Bool.and_eq_true, decide_eq_true_eq, decide_eq_true_eq, List.all_eq_true, and_assoc]
 refine and_congr_right fun _ => and_congr_right fun _ => ⟨fun h i s hi hs => ?_, fun h i hi => ?_⟩
 ·have := h i (List.mem_range.2 hi)
  rw [hs] at this
  exact this
 ·have hi := List.mem_range.1 hi
  rw [List.getElem?_eq_getElem hi]
  exact h i _ hi (List.getElem?_eq_getElem hi)
theorem okErr_yes {n : Nat} {e : Er} (hl : e.length = n) (h1 : 1 ≤ n) (h2 : n ≤ 12) (h : allN n e n) : okErr e = true := (okErr_iff e).2 (by rw [hl]; exact ⟨h1, h2, h⟩)
theorem okErr_len {n : Nat} {e : Er} (hl : e.length = n) (h : ¬ (1 ≤ n ∧ n ≤ 12)) : okErr e = false := by
 rw [← Bool.not_eq_true, okErr_iff, hl]; exact fun g => h ⟨g.1, g.2.1⟩
theorem okErr_bad {n : Nat} {e : Er} {k : Nat} {s : En} (hl : e.length = n) (hx : e[k]? = some s) (h : okNode n k s = false) : okErr e = false := by
 rw [← Bool.not_eq_true, okErr_iff, hl]
 intro g
 have := g.2.2 k s (by rw [← hl]; exact (List.getElem?_eq_some_iff.1 hx).1) hx
 rw [h] at this; cases this
theorem okNode_iff (n i : Nat) (s : En) : okNode n i s = true ↔ 0 ≤ s.2.1 ∧ s.2.1 ≤ 99 ∧ s.2.2.length ≤ 12 ∧ allP n i s.2.2 s.2.2.length ∧ okKind s.1 s.2.1 s.2.2.length = true := by
 unfold okNode allP
 rw [Bool.and_eq_true, Bool.and_eq_true, Bool.and_eq_true, Bool.and_eq_true, decide_eq_true_eq, decide_eq_true_eq, decide_eq_true_eq, List.all_eq_true]
 constructor
 ·rintro ⟨⟨⟨⟨a, b⟩, c⟩, d⟩, k⟩
  exact ⟨a, b, c, fun j p _ hp => d p (List.mem_of_getElem? hp), k⟩
 ·rintro ⟨a, b, c, d, k⟩
  refine ⟨⟨⟨⟨a, b⟩, c⟩, fun p hp => ?_⟩, k⟩
  obtain ⟨j, hj, rfl⟩ := List.mem_iff_getElem.1 hp
  exact d j _ hj (List.getElem?_eq_getElem hj)
theorem okNode_code {n i : Nat} {s : En} (h : ¬ (0 ≤ s.2.1 ∧ s.2.1 ≤ 99)) : okNode n i s = false := by rw [← Bool.not_eq_true, okNode_iff]; exact fun g => h ⟨g.1, g.2.1⟩
theorem okNode_many {n i : Nat} {s : En} (h : ¬ s.2.2.length ≤ 12) : okNode n i s = false := by rw [← Bool.not_eq_true, okNode_iff]; exact fun g => h g.2.2.1
theorem okNode_part {n i j : Nat} {s : En} {p : Int} (hp : s.2.2[j]? = some p) (h : okPart n i p = false) : okNode n i s = false := by
 rw [← Bool.not_eq_true, okNode_iff]
 intro g
 have := g.2.2.2.1 j p (List.getElem?_eq_some_iff.1 hp).1 hp
 rw [h] at this; cases this
theorem okNode_kind {n i : Nat} {s : En} (h0 : 0 ≤ s.2.1) (h1 : s.2.1 ≤ 99) (h2 : s.2.2.length ≤ 12) (h3 : allP n i s.2.2 s.2.2.length) : okNode n i s = okKind s.1 s.2.1 s.2.2.length := by
 rw [Bool.eq_iff_iff, okNode_iff]
 exact ⟨fun g => g.2.2.2.2, fun g => ⟨h0, h1, h2, h3, g⟩⟩
theorem okPart_yes {n i : Nat} {p : Int} (h1 : (i : Int) < p) (h2 : p < n) : okPart n i p = true := by unfold okPart; rw [decide_eq_true h1, decide_eq_true h2]; rfl
theorem okPart_no {n i : Nat} {p : Int} (h : ¬ ((i : Int) < p ∧ p < n)) : okPart n i p = false := by
 unfold okPart; rw [← Bool.not_eq_true, Bool.and_eq_true, decide_eq_true_eq, decide_eq_true_eq]; exact h
theorem ok_part {e : Er} (h : okErr e = true) {i j : Nat} {s : En} {p : Int} (hs : e[i]? = some s) (hp : s.2.2[j]? = some p) : ∃ q : Nat, p = q ∧ i < q ∧ q < e.length := by
 obtain ⟨h1, h2, h3⟩ := (okErr_iff e).1 h
 have g := (okNode_iff _ _ _).1 (h3 i s (List.getElem?_eq_some_iff.1 hs).1 hs)
 have k := g.2.2.2.1 j p (List.getElem?_eq_some_iff.1 hp).1 hp
 unfold okPart at k
 rw [Bool.and_eq_true, decide_eq_true_eq, decide_eq_true_eq] at k
 exact ⟨p.toNat, by omega, by omega, by omega⟩
theorem ok_many {e : Er} (h : okErr e = true) {i : Nat} {s : En} (hs : e[i]? = some s) : s.2.2.length ≤ 12 := by
 obtain ⟨h1, h2, h3⟩ := (okErr_iff e).1 h
 exact ((okNode_iff _ _ _).1 (h3 i s (List.getElem?_eq_some_iff.1 hs).1 hs)).2.2.1
def oneE (e : Er) (n : Int) : Bool := okErr e && (decide (0 ≤ n) && decide (n < e.length))
theorem oneE_iff (e : Er) (n : Int) : oneE e n = true ↔ okErr e = true ∧ 0 ≤ n ∧ n < e.length := by
 unfold oneE; rw [Bool.and_eq_true, Bool.and_eq_true, decide_eq_true_eq, decide_eq_true_eq]
theorem oneE_at {e : Er} {n : Int} (h : oneE e n = true) : ∃ (i : Nat) (s : En), n = i ∧ i < e.length ∧ e[i]? = some s ∧ okErr e = true ∧ e.length ≤ 12 := by
 obtain ⟨h0, h1, h2⟩ := (oneE_iff e n).1 h
 exact ⟨n.toNat, e[n.toNat]'(by omega), by omega, by omega, List.getElem?_eq_getElem _, h0, ((okErr_iff e).1 h0).2.1⟩
def nodeE (e : Er) (i : Nat) : En := (e[i]?).getD (0, 0, [])
theorem nodeE_at {e : Er} {i : Nat} {s : En} (h : e[i]? = some s) : nodeE e i = s := by unfold nodeE; rw [h]; rfl
def unwrapR (e : Er) (n : Int) : List Int × Bool := if oneE e n then ((nodeE e n.toNat).2.2, true) else ([], false)
end Go.Proofs.Ytkjgibhckcdneaa.ErP
-- squeezed
