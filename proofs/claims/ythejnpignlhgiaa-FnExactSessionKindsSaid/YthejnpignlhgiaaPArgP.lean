import Derived.Test.YthejnpignlhgiaaM12
import Derived.Test.YthejnpignlhgiaaM11
import Derived.Test.YthejnpignlhgiaaM2
set_option linter.all false
namespace Go.Proofs.Ythejnpignlhgiaa.PArgP
open PL AskP StpS Sout
def rangeOk (p : Pg) (f low high fuel : Int) : Bool := asks p f low fuel && (isNum high && btw (high - low) 0 100)
def pArgs (p : Pg) (f low fuel : Int) : Nat → List Int
 | 0 => []
 | q + 1 => if (runR p f (low + q) fuel).1.kind = 2 then pArgs p f low fuel q ++ [low + q] else pArgs p f low fuel q
theorem pArgs_yes {p : Pg} {f low fuel : Int} {q : Nat} (h : (runR p f (low + q) fuel).1.kind = 2) : pArgs p f low fuel (q + 1) = pArgs p f low fuel q ++ [low + q] := by rw [pArgs, if_pos h]
theorem pArgs_no {p : Pg} {f low fuel : Int} {q : Nat} (h : (runR p f (low + q) fuel).1.kind ≠ 2) : pArgs p f low fuel (q + 1) = pArgs p f low fuel q := by rw [pArgs, if_neg h]
theorem pArgs_len (p : Pg) (f low fuel : Int) : ∀ q, (pArgs p f low fuel q).length ≤ q
 | 0 => Nat.le_refl _
 | q + 1 => by
  have := pArgs_len p f low fuel q
  rw [pArgs]
  split
  ·rw [List.length_append, List.length_singleton]; omega
  ·omega
def pVals (p : Pg) (f low fuel : Int) : Nat → List Int
 | 0 => []
 | q + 1 => if (runR p f (low + q) fuel).1.kind = 2 then pVals p f low fuel q ++ [(runR p f (low + q) fuel).1.value] else pVals p f low fuel q
theorem pVals_yes {p : Pg} {f low fuel : Int} {q : Nat} (h : (runR p f (low + q) fuel).1.kind = 2) : pVals p f low fuel (q + 1) = pVals p f low fuel q ++ [(runR p f (low + q) fuel).1.value] := by rw [pVals, if_pos h]
theorem pVals_no {p : Pg} {f low fuel : Int} {q : Nat} (h : (runR p f (low + q) fuel).1.kind ≠ 2) : pVals p f low fuel (q + 1) = pVals p f low fuel q := by rw [pVals, if_neg h]
theorem pVals_len (p : Pg) (f low fuel : Int) : ∀ q, (pVals p f low fuel q).length ≤ q
 | 0 => Nat.le_refl _
 | q + 1 => by
  have := pVals_len p f low fuel q
  rw [pVals]
  split
  ·rw [List.length_append, List.length_singleton]; omega
  ·omega
theorem asks_mid {p : Pg} {f low fuel arg : Int} (h : asks p f low fuel = true) (ha : isNum arg = true) : asks p f arg fuel = true := by
 unfold asks at *
 simp only [Bool.and_eq_true] at *
 exact ⟨⟨⟨h.1.1.1, ha⟩, h.1.2⟩, h.2⟩
theorem asks_num {p : Pg} {f low fuel : Int} (h : asks p f low fuel = true) : -32768 ≤ low ∧ low ≤ 32767 := by
 unfold asks isNum at h
 simp only [Bool.and_eq_true, decide_eq_true_eq] at h
 exact h.1.1.2
theorem range_num {p : Pg} {f low high fuel : Int} (h : rangeOk p f low high fuel = true) : asks p f low fuel = true ∧ -32768 ≤ low ∧ low ≤ high ∧ high ≤ 32767 ∧ high ≤ low + 100 := by
 unfold rangeOk at h
 simp only [Bool.and_eq_true] at h
 have h1 := asks_num h.1
 have h2 := h.2.1
 have h3 := h.2.2
 unfold isNum at h2
 unfold btw at h3
 simp only [Bool.and_eq_true, decide_eq_true_eq] at h2 h3
 exact ⟨h.1, by omega⟩
theorem range_mid {p : Pg} {f low high fuel : Int} (h : rangeOk p f low high fuel = true) {q : Nat} (hq : low + q ≤ high) : asks p f (low + q) fuel = true := by
 obtain ⟨h1, h2, h3, h4, _⟩ := range_num h
 exact asks_mid h1 (by unfold isNum; simp only [Bool.and_eq_true, decide_eq_true_eq]; omega)
def pargR (p : Pg) (f low high fuel : Int) : List Int × Bool := if rangeOk p f low high fuel = true then (pArgs p f low fuel (high - low + 1).toNat, true) else ([], false)
theorem pargR_len (p : Pg) (f low high fuel : Int) : (pargR p f low high fuel).1.length ≤ 100000 := by
 unfold pargR
 split
 ·rename_i h
  have := range_num h
  have h2 := pArgs_len p f low fuel (high - low + 1).toNat
  show (pArgs p f low fuel (high - low + 1).toNat).length ≤ 100000
  omega
 ·simp
end Go.Proofs.Ythejnpignlhgiaa.PArgP
-- squeezed
