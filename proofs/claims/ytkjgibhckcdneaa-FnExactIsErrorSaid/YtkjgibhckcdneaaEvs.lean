/- impl.valuesOf makes the errors of Go that stand for valid Errors: the walk. -/
import Derived.Test.YtkjgibhckcdneaaEva
namespace Go.Proofs.Ytkjgibhckcdneaa.ErI
set_option linter.unusedVariables false
set_option linter.unusedSimpArgs false
open Go.ChangeShapes Go.WideShapes Go.ChangeAt Go.RowKit
open Mem IntsP ErP ErM ErT ErA ErU ErD ErW ErL ErF ErQ

/-- Parts lie in slices whose capacity is not less than their length. -/
def CapE (w : World) (A : Option Addr) (e : Er) : Prop := ∀ (i : Nat) (s : En) (ad : Addr) (Ai : Option Addr) (ci : Nat), e[i]? = some s → A = some ad → w.cell? ⟨(ad.add (i * 3)).block, (ad.add (i * 3)).off + 2, none⟩ = some (.slice Ai s.2.2.length ci) → s.2.2.length ≤ ci
def VsR (p : Er) (n : Nat) (w : World) (e : Ending) (w' : World) : Prop :=
  ∃ (gv : Nat) (bs : Nat → Nat), e = .returned (.slice (some ⟨gv, 0, none⟩) n n) ∧ w.heap.size ≤ gv ∧ gv < w'.heap.size ∧ (∀ q, q < n → w'.cell? ⟨gv, q, none⟩ = some (valE p bs q)) ∧ Vals w' p bs 0 ∧ Below w.heap.size w w'
structure Vp (w3 : World) (p : Er) (n gv k : Nat) (bs : Nat → Nat) (wr : World) : Prop where
  own : wr.ownsRow gv 76 1 (.slice (some ⟨gv, 0, none⟩) n n) n (rowV p bs n k)
  one : ∀ (i : Nat) (s : En), k ≤ i → p[i]? = some s → OneV (valE p bs) i s w3.heap.size wr (bs i)
  inj : ∀ i j, k ≤ i → i < n → k ≤ j → j < n → bs i = bs j → i = j
  chg : Chg (fun b => b = gv) w3 wr
theorem Vp.vals {w3 wr : World} {p : Er} {n gv : Nat} {bs : Nat → Nat} (h : Vp w3 p n gv 0 bs wr) (hl : p.length = n) : Vals wr p bs 0 := by
  refine ⟨fun i j hi hi2 hj hj2 => h.inj i j hi (by omega) hj (by omega), fun i s hi hs => (h.one i s hi hs).blk, fun i s hi hs hk => (h.one i s hi hs).wrap hk, fun i s hi hs hk => ?_⟩
  obtain ⟨A, c, _, h2, h3⟩ := (h.one i s hi hs).join hk
  exact ⟨A, c, h2, h3⟩
theorem Vp.next {w3 wr w5 : World} {p : Er} {n gv k b : Nat} {bs : Nat → Nat} {s : En} (hok : okErr p = true) (h : Vp w3 p n gv (k + 1) bs wr) (hl : p.length = n) (hs : p[k]? = some s) (hg : gv < w3.heap.size) (h1 : OneV (valE p bs) k s wr.heap.size w5 b) (hb : Below wr.heap.size wr w5) :
    Vp w3 p n gv k (putB bs k b) (w5.setCell ⟨gv, k, none⟩ (valE p (putB bs k b) k)) := by
  have hkn : k < n := by rw [← hl]; exact (List.getElem?_eq_some_iff.1 hs).1
  have sz := h.chg.size
  have c5 : Chg (fun b => b = gv) w5 (w5.setCell ⟨gv, k, none⟩ (valE p (putB bs k b) k)) := (Chg.refl _ _).put ⟨gv, k, none⟩ _ (.inr rfl)
  have cb : Chg (fun b => b = gv) wr (w5.setCell ⟨gv, k, none⟩ (valE p (putB bs k b) k)) := (Chg.of_below (C := fun b => b = gv) hb).trans c5 (fun _ _ h => h)
  have hold : ∀ (i : Nat) (t : En), k + 1 ≤ i → p[i]? = some t → bs i < wr.heap.size := fun i t hi ht => by
    obtain ⟨cs, ty, h2, _⟩ := (h.one i t hi ht).blk
    exact h2.lt
  refine ⟨?_, fun i t hi ht => ?_, fun i j hi hi2 hj hj2 e => ?_, h.chg.trans cb (fun _ _ h => h)⟩
  · have := ((own_below h.own hb (Nat.le_refl _)).stored k (valE p (putB bs k b) k)).1
    rwa [rowV_next hkn] at this
  · by_cases hik : i = k
    · subst hik
      rw [hs] at ht
      obtain rfl : s = t := by simpa using ht
      rw [putB_self]
      exact (h1.chg c5 (fun x hx => by omega) (fun j q hq => by
        obtain ⟨q', h2, h3, h4⟩ := ok_part hok hs hq
        exact valE_ne p bs (by omega))).lower sz
    · rw [putB_ne bs hik]
      exact (h.one i t (by omega) ht).chg cb (fun x hx => by omega) (fun j q hq => by
        obtain ⟨q', h2, h3, h4⟩ := ok_part hok ht hq
        exact valE_ne p bs (by omega))
  · have hlow := h1.low
    by_cases hik : i = k
    · by_cases hjk : j = k
      · rw [hik, hjk]
      · exfalso
        rw [hik, putB_self, putB_ne bs hjk] at e
        have := hold j _ (by omega) (List.getElem?_eq_getElem (by rw [hl]; exact hj2))
        omega
    · by_cases hjk : j = k
      · exfalso
        rw [hjk, putB_self, putB_ne bs hik] at e
        have := hold i _ (by omega) (List.getElem?_eq_getElem (by rw [hl]; exact hi2))
        omega
      · rw [putB_ne bs hik, putB_ne bs hjk] at e
        exact h.inj i j (by omega) hi2 (by omega) hj2 e
end Go.Proofs.Ytkjgibhckcdneaa.ErI
