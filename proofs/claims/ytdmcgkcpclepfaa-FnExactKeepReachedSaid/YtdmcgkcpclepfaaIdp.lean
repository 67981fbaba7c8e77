import Derived.Test.YtdmcgkcpclepfaaGuc
import Derived.Test.YtdmcgkcpclepfaaRea
import Derived.Test.YtdmcgkcpclepfaaRowA
set_option linter.all false
namespace Go.Proofs.Ytdmcgkcpclepfaa.Idp
open Go.ChangeShapes Go.WideShapes Go.ChangeAt Go.RowKit
open PL Res Gua Gub Guc RowA ReaP
theorem fold_len : ∀ (ys l : List Int), (ys.foldl putS l).length ≤ l.length + ys.length
 | [], l => by simp
 | y :: ys, l => by
  have h1 := fold_len ys (putS l y)
  have h2 := putS_len l y
  rw [List.foldl_cons, List.length_cons]
  omega
theorem reach_ok {p : Pg} {nf : Nat} (hp : okProg p = true) (hf : nf < p.length) : (rch (nextP p) nf p.length).Nodup ∧ Rng p.length (rch (nextP p) nf p.length) :=
 rch_ok (n := p.length) (f := nf) ⟨by omega, by omega⟩ (fun g _ _ => next_rng hp rfl g) p.length
theorem reach_six {p : Pg} {nf : Nat} (hp : okProg p = true) (h6 : p.length ≤ 6) (hf : nf < p.length) : (reachL p nf).length ≤ 6 := by
 have h1 := setS_len (rch (nextP p) nf p.length)
 obtain ⟨h2, h3⟩ := reach_ok hp hf
 have h4 := nodup_len h2 h3
 unfold reachL
 omega
theorem reach_row {p : Pg} {nf : Nat} (hp : okProg p = true) (hf : nf < p.length) {j : Nat} {x : Int} (h : (reachL p nf)[j]? = some x) : ∃ (g : Nat) (ys : List Tr), x = g ∧ p[g]? = some ys ∧ ys.length ≤ 8 := by
 have h1 := List.mem_of_getElem? h
 unfold reachL at h1
 rw [setS_mem] at h1
 obtain ⟨h3, h4⟩ := (reach_ok hp hf).2 x h1
 have hlt : x.toNat < p.length := by omega
 exact ⟨x.toNat, _, by omega, List.getElem?_eq_getElem hlt, ((okProg_parts hp).2.2 _ _ (List.getElem?_eq_getElem hlt)).1⟩
def dfrIn (p : Pg) (l : List Int) (g : Int) : Bool := l.any (fun b => (p.getD b.toNat []).any (isD g))
def pairsOf (p : Pg) (g : Int) : List Pr := (recL (p.getD g.toNat [])).map (fun a => (g, a))
def idleU (p : Pg) (l : List Int) : Nat → List Pr
 | 0 => []
 | j + 1 => match l[j]? with
  | some g => if dfrIn p l g = true then idleU p l j else idleU p l j ++ pairsOf p g
  | none => idleU p l j
theorem idleU_yes {p : Pg} {l : List Int} {j : Nat} {g : Int} (h : l[j]? = some g) (hd : dfrIn p l g = true) : idleU p l (j + 1) = idleU p l j := by rw [idleU, h]; exact if_pos hd
theorem idleU_no {p : Pg} {l : List Int} {j : Nat} {g : Int} (h : l[j]? = some g) (hd : dfrIn p l g = false) : idleU p l (j + 1) = idleU p l j ++ pairsOf p g := by rw [idleU, h]; exact if_neg (by rw [hd]; decide)
def idleR (p : Pg) (f : Int) : List Pr × Bool := if isFn p f = true then (idleU p (reachL p f.toNat) (reachL p f.toNat).length, true) else ([], false)
theorem pairs_len {p : Pg} (hp : okProg p = true) (g : Int) : (pairsOf p g).length ≤ 8 := by
 unfold pairsOf
 rw [List.length_map]
 have h1 := recs_len (p.getD g.toNat []) (p.getD g.toNat []).length
 have h2 : (p.getD g.toNat []).length ≤ 8 := by
  rw [List.getD_eq_getElem?_getD]
  cases h : p[g.toNat]? with
  | none => simp
  | some b => exact ((okProg_parts hp).2.2 _ _ h).1
 exact Nat.le_trans h1 h2
theorem idleU_len {p : Pg} (hp : okProg p = true) (l : List Int) : ∀ j, (idleU p l j).length ≤ 8 * j
 | 0 => Nat.le_refl _
 | j + 1 => by
  have ih := idleU_len hp l j
  rw [idleU]
  split
  ·rename_i g _
   split
   ·omega
   ·have := pairs_len hp g
    rw [List.length_append]
    omega
  ·omega
theorem idleR_len (p : Pg) (f : Int) : (idleR p f).1.length ≤ 100000 := by
 unfold idleR
 split
 ·rename_i h
  obtain ⟨nf, b, rfl, hb, h8, _, h6, hp⟩ := Guc.isFn_row h
  have h2 := idleU_len hp (reachL p nf) (reachL p nf).length
  have h3 : (reachL p nf).length ≤ 6 := reach_six hp h6 (by omega)
  rw [Int.toNat_natCast]
  dsimp only
  omega
 ·simp
def dU (p : Pg) (l : List Int) : Nat → List Int
 | 0 => []
 | j + 1 => match l[j]? with
  | some g => (defL p g.toNat).foldl putS (dU p l j)
  | none => dU p l j
theorem dU_next {p : Pg} {l : List Int} {j : Nat} {g : Int} (h : l[j]? = some g) : dU p l (j + 1) = (defL p g.toNat).foldl putS (dU p l j) := by rw [dU, h]
theorem fold_mem {x : Int} : ∀ (ys l : List Int), x ∈ ys.foldl putS l ↔ x ∈ l ∨ x ∈ ys
 | [], l => by simp
 | y :: ys, l => by
  rw [List.foldl_cons, fold_mem ys, putS_mem, List.mem_cons]
  constructor
  ·rintro ((h | h) | h)
   ·exact .inl h
   ·exact .inr (.inl h)
   ·exact .inr (.inr h)
  ·rintro (h | h | h)
   ·exact .inl (.inl h)
   ·exact .inl (.inr h)
   ·exact .inr h
theorem dU_mem {p : Pg} {l : List Int} {x : Int} : ∀ j, x ∈ dU p l j ↔ ∃ (i : Nat) (g : Int), i < j ∧ l[i]? = some g ∧ x ∈ defL p g.toNat
 | 0 => by simp [dU]
 | j + 1 => by
  have ih := dU_mem (p := p) (l := l) (x := x) j
  cases h : l[j]? with
  | none =>
   rw [dU, h]
   constructor
   ·intro hx
    obtain ⟨i, g, h1, h2⟩ := ih.1 hx
    exact ⟨i, g, by omega, h2⟩
   ·rintro ⟨i, g, h1, h2, h3⟩
    by_cases hij : i = j
    ·subst hij; rw [h] at h2; cases h2
    ·exact ih.2 ⟨i, g, by omega, h2, h3⟩
  | some g0 =>
   rw [dU_next h, fold_mem]
   constructor
   ·rintro (hx | hx)
    ·obtain ⟨i, g, h1, h2⟩ := ih.1 hx
     exact ⟨i, g, by omega, h2⟩
    ·exact ⟨j, g0, by omega, h, hx⟩
   ·rintro ⟨i, g, h1, h2, h3⟩
    by_cases hij : i = j
    ·subst hij; rw [h] at h2; cases h2; exact .inr h3
    ·exact .inl (ih.2 ⟨i, g, by omega, h2, h3⟩)
theorem dfr_eq (p : Pg) (l : List Int) (g : Int) : (dU p l l.length).contains g = dfrIn p l g := by
 rw [Bool.eq_iff_iff, List.contains_iff_mem, dU_mem]
 unfold dfrIn
 rw [List.any_eq_true]
 constructor
 ·rintro ⟨i, b, h1, h2, h3⟩
  refine ⟨b, List.mem_of_getElem? h2, ?_⟩
  rw [any_isD]
  unfold defL at h3
  rwa [setS_mem] at h3
 ·rintro ⟨b, hb, h⟩
  obtain ⟨i, hi, rfl⟩ := List.getElem_of_mem hb
  refine ⟨i, _, hi, List.getElem?_eq_getElem hi, ?_⟩
  unfold defL
  rw [setS_mem, ← any_isD]
  exact h
theorem dU_len {p : Pg} (l : List Int) (hd : ∀ g : Int, (defL p g.toNat).length ≤ 8) : ∀ j, (dU p l j).length ≤ 8 * j
 | 0 => Nat.le_refl _
 | j + 1 => by
  have ih := dU_len (p := p) l hd j
  rw [dU]
  split
  ·rename_i g _
   have h1 := fold_len (defL p g.toNat) (dU p l j)
   have := hd g
   omega
  ·omega
end Go.Proofs.Ytdmcgkcpclepfaa.Idp
-- squeezed
