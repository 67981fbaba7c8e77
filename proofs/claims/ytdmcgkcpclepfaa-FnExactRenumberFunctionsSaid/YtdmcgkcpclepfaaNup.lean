import Derived.Test.YtdmcgkcpclepfaaRunPlain
import Derived.Test.YtdmcgkcpclepfaaRes
set_option linter.all false
namespace Go.Proofs.Ytdmcgkcpclepfaa.Nup
open PL Res
def numS (to : List Int) (s : Tr) : Tr := if s.1 = 4 ∨ s.1 = 5 then (s.1, to.getD s.2.1.toNat 0, s.2.2) else s
def numB (to : List Int) (b : List Tr) : List Tr := b.map (numS to)
def numU (p : Pg) (to : List Int) (many : Nat) : Nat → Pg
 | 0 => List.replicate many []
 | f + 1 => match to[f]? with
  | some t => if 0 ≤ t then (numU p to many f).set t.toNat (numB to (p.getD f [])) else numU p to many f
  | none => numU p to many f
def manyU (to : List Int) : Nat → Int
 | 0 => 0
 | f + 1 => match to[f]? with
  | some t => max (manyU to f) (t + 1)
  | none => manyU to f
def numL (p : Pg) (to : List Int) : Pg := numU p to (manyU to to.length).toNat to.length
theorem numU_len (p : Pg) (to : List Int) (many : Nat) : ∀ f, (numU p to many f).length = many
 | 0 => by simp [numU]
 | f + 1 => by
  have ih := numU_len p to many f
  rw [numU]
  split
  ·split
   ·rw [List.length_set]; exact ih
   ·exact ih
  ·exact ih
theorem numU_yes {p : Pg} {to : List Int} {many f : Nat} {t : Int} {b : List Tr} (h : to[f]? = some t) (h0 : 0 ≤ t) (hb : p[f]? = some b) : numU p to many (f + 1) = (numU p to many f).set t.toNat (numB to b) := by
 rw [numU, h]
 dsimp only
 rw [if_pos h0, List.getD_eq_getElem?_getD, hb]
 rfl
theorem numU_no {p : Pg} {to : List Int} {many f : Nat} {t : Int} (h : to[f]? = some t) (h0 : t < 0) : numU p to many (f + 1) = numU p to many f := by
 rw [numU, h]
 dsimp only
 rw [if_neg (by omega)]
theorem manyU_next {to : List Int} {f : Nat} {t : Int} (h : to[f]? = some t) : manyU to (f + 1) = max (manyU to f) (t + 1) := by rw [manyU, h]
theorem manyU_pos (to : List Int) : ∀ f, 0 ≤ manyU to f
 | 0 => Int.le_refl _
 | f + 1 => by
  have ih := manyU_pos to f
  rw [manyU]
  split <;> omega
theorem manyU_le {to : List Int} {B : Int} (h : ∀ (i : Nat) (t : Int), to[i]? = some t → t < B) (hB : 0 ≤ B) : ∀ f, manyU to f ≤ B
 | 0 => hB
 | f + 1 => by
  have ih := manyU_le h hB f
  rw [manyU]
  split
  ·rename_i t ht
   have := h f t ht
   omega
  ·exact ih
theorem manyU_ge {to : List Int} {i : Nat} {t : Int} (h : to[i]? = some t) : ∀ f, i < f → t < manyU to f
 | 0, hi => absurd hi (Nat.not_lt_zero _)
 | f + 1, hi => by
  by_cases hif : i = f
  ·subst hif
   rw [manyU_next h]
   omega
  ·have ih := manyU_ge h f (by omega)
   rw [manyU]
   split <;> omega
end Go.Proofs.Ytdmcgkcpclepfaa.Nup
-- squeezed
