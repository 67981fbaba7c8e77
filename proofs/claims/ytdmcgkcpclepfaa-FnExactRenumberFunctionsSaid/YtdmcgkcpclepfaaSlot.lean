import Derived.Test.YtdmcgkcpclepfaaMove
set_option linter.all false
namespace Go.Proofs.Ytdmcgkcpclepfaa.SlotP
open Go.ChangeShapes Go.WideShapes Go.ChangeAt Go.RowKit
open PL Mem To MarkP OwnS
theorem OwnH_slot {w : World} {lo hi n c : Nat} {A : Option Addr} {q : Pg} {i : Nat} {xs : List Tr} (h : OwnH w lo hi (.slice A n c) q) (hx : q[i]? = some xs) :
  ∃ g Ai ci, A = some ⟨g, 0, none⟩ ∧ lo ≤ g ∧ g < w.heap.size ∧ w.cell? ⟨g, i, none⟩ = some (.slice Ai xs.length ci) ∧ (∀ V : World, Chg (fun b => (Value.slice Ai xs.length ci).ownBlock = some b) w V → ∀ o, V.frozen? ⟨g, o, none⟩ = false) ∧ w.ownsRow lo 58 3 (.slice Ai xs.length ci) xs.length (cells3 xs) ∧
   (∀ k, (Value.slice Ai xs.length ci).ownBlock = some k → lo ≤ k ∧ k < hi) ∧ (Value.slice Ai xs.length ci).ownBlock ≠ some g ∧
   ∀ (w' : World) (u' : Value) (ys : List Tr), Chg (fun b => (Value.slice Ai xs.length ci).ownBlock = some b) w w' → w'.ownsRow lo 58 3 u' ys.length (cells3 ys) →
    (∀ k, u'.ownBlock = some k → (Value.slice Ai xs.length ci).ownBlock = some k ∨ hi ≤ k) → OwnP (w'.setCell ⟨g, i, none⟩ u') lo (.slice A n c) (q.set i ys) := by
 obtain ⟨vals, hl, ho, hr, hd, he, hf⟩ := h
 have hi : i < q.length := (List.getElem?_eq_some_iff.1 hx).1
 obtain ⟨u, hu, hown⟩ := hr i xs hx
 obtain ⟨Ai, ci, rfl⟩ := own_slice hown
 rcases own_form ho with ⟨h0, _⟩ | ⟨_, g, cap, hv, hlo, hg⟩
 ·omega
 ·have hv' := hv
  simp only [Value.slice.injEq] at hv
  obtain ⟨rfl, rfl, rfl⟩ := hv
  have hoc := ho.cellAt (g := g) i (by omega)
  have hne : (Value.slice Ai xs.length ci).ownBlock ≠ some g := App.own_ne ho hown (by decide) rfl
  have hgn : ∀ k, (Value.slice (some ⟨g, 0, none⟩) q.length c).ownBlock = some k → ¬ (Value.slice Ai xs.length ci).ownBlock = some k := fun k hk hk' => hne (by
   obtain rfl : g = k := by simpa [Value.ownBlock] using hk
   exact hk')
  refine ⟨g, Ai, ci, rfl, hlo, hg, hoc.trans hu, fun V hV o => (own_chg ho hV hgn).frozenAt o, hown, fun k hk => ⟨(hown.lt k hk).1, hf i _ k hu hk⟩, hne, fun w' u' ys hch hown' hnew => ?_⟩
  have o1 : w'.ownsRow lo 59 1 (.slice (some ⟨g, 0, none⟩) q.length c) q.length vals := own_chg ho hch hgn
  have far : ∀ {u : Value} {n : Nat} {l : List Value}, w'.ownsRow lo 58 3 u n l → (w'.setCell ⟨g, i, none⟩ u').ownsRow lo 58 3 u n l :=
   fun h => own_far h _ _ (App.own_ne o1 h (by decide) rfl)
  refine ⟨vals.set i u', by simpa using hl, ?_, fun j zs hz => ?_, fun j j' y y' k hy hy' hk hk' => ?_⟩
  ·rw [List.length_set]
   exact (o1.stored i u').1
  ·by_cases hij : i = j
   ·subst hij
    obtain rfl : ys = zs := by simpa [hi] using hz
    exact ⟨u', by rw [List.getElem?_set_self (by omega)], far hown'⟩
   ·rw [List.getElem?_set_ne hij] at hz
    obtain ⟨y, hy, hoy⟩ := hr j zs hz
    exact ⟨y, by rw [List.getElem?_set_ne hij]; exact hy, far (own_chg hoy hch (fun k hk hk' => hij (hd i j _ _ k hu hy hk' hk)))⟩
  ·have cross : ∀ (j : Nat) (y : Value), i ≠ j → vals[j]? = some y → y.ownBlock = some k → u'.ownBlock = some k → False := by
    intro j y hij hy hk hk'
    rcases hnew k hk' with h1 | h1
    ·exact hij (hd i j _ _ k hu hy h1 hk)
    ·have := hf j y k hy hk; omega
   by_cases hij : i = j <;> by_cases hij' : i = j'
   ·omega
   ·subst hij
    rw [List.getElem?_set_self (by omega)] at hy
    obtain rfl : u' = y := by simpa using hy
    rw [List.getElem?_set_ne hij'] at hy'
    exact (cross j' y' hij' hy' hk' hk).elim
   ·subst hij'
    rw [List.getElem?_set_self (by omega)] at hy'
    obtain rfl : u' = y' := by simpa using hy'
    rw [List.getElem?_set_ne hij] at hy
    exact (cross j y hij hy hk hk').elim
   ·rw [List.getElem?_set_ne hij] at hy
    rw [List.getElem?_set_ne hij'] at hy'
    exact hd j j' y y' k hy hy' hk hk'
theorem ob (A : Option Addr) (n m c : Nat) : (Value.slice A n c).ownBlock = (Value.slice A m c).ownBlock := by cases A <;> rfl
end Go.Proofs.Ytdmcgkcpclepfaa.SlotP
-- squeezed
