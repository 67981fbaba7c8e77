import Derived.Test.YtdmcgkcpclepfaaGub
import Derived.Deep.AppendLies
set_option linter.all false
namespace Go.Proofs.Ytdmcgkcpclepfaa.Guc
open Go.ChangeShapes Go.WideShapes Go.ChangeAt Go.RowKit
open PL Mem Sst To AskP StpS Res PrgS IntsP LawI SetM Gua Gub 
theorem isFn_row {p : Pg} {f : Int} (h : isFn p f = true) : ∃ (nf : Nat) (b : List Tr), f = nf ∧ p[nf]? = some b ∧ b.length ≤ 8 ∧ nf < p.length ∧ p.length ≤ 6 ∧ okProg p = true := by
 unfold isFn at h
 simp only [Bool.and_eq_true, decide_eq_true_eq] at h
 obtain ⟨⟨h1, h2⟩, h3⟩ := h
 obtain ⟨nf, rfl⟩ : ∃ nf : Nat, f = nf := ⟨f.toNat, by omega⟩
 have hlt : nf < p.length := by omega
 obtain ⟨-, h6, h8⟩ := okProg_parts h1
 exact ⟨nf, _, rfl, List.getElem?_eq_getElem hlt, (h8 nf _ (List.getElem?_eq_getElem hlt)).1, hlt, h6, h1⟩
def hasR (p : Pg) (g : Int) : Bool := decide (0 < (recL (p.getD g.toNat [])).length)
def guaL (p : Pg) (f : Nat) : List Int := (defL p f).filter (hasR p)
def guardsR (p : Pg) (f : Int) : List Int × Bool := if isFn p f = true then (guaL p f.toNat, true) else ([], false)
def rng (k : Nat) : List Int := (List.range k).map (fun i : Nat => (i : Int))
theorem rng_succ (k : Nat) : rng (k + 1) = rng k ++ [(k : Int)] := by unfold rng; rw [List.range_succ, List.map_append]; rfl
def guaI (p : Pg) (xs : List Tr) (k : Nat) : List Int := (rng k).filter fun g => xs.any (isD g) && hasR p g
theorem guaI_yes {p : Pg} {xs : List Tr} {k : Nat} (h : xs.any (isD k) = true) (h' : hasR p k = true) : guaI p xs (k + 1) = guaI p xs k ++ [(k : Int)] := by
 unfold guaI
 rw [rng_succ, List.filter_append]
 simp [h, h']
theorem guaI_no {p : Pg} {xs : List Tr} {k : Nat} (h : (xs.any (isD k) && hasR p k) = false) : guaI p xs (k + 1) = guaI p xs k := by
 unfold guaI
 rw [rng_succ, List.filter_append]
 simp only [List.filter_cons, List.filter_nil, h]
 simp
theorem guaI_len (p : Pg) (xs : List Tr) (k : Nat) : (guaI p xs k).length ≤ k := by
 have h1 : (guaI p xs k).length ≤ (rng k).length := List.length_filter_le _ _
 have h2 : (rng k).length = k := by unfold rng; simp
 omega
theorem rawD_mem {b : List Tr} {x : Int} : ∀ j, x ∈ rawD b j ↔ ∃ i s, i < j ∧ b[i]? = some s ∧ s.1 = 5 ∧ x = s.2.1
 | 0 => by simp [rawD]
 | j + 1 => by
  have ih := rawD_mem (b := b) (x := x) j
  constructor
  ·intro h
   cases hs : b[j]? with
   | none =>
    rw [rawD, hs] at h
    obtain ⟨i, s, h1, h2⟩ := ih.1 h
    exact ⟨i, s, by omega, h2⟩
   | some s =>
    by_cases hk : s.1 = 5
    ·rw [rawD_yes hs hk] at h
     rcases List.mem_append.1 h with h | h
     ·obtain ⟨i, s, h1, h2⟩ := ih.1 h
      exact ⟨i, s, by omega, h2⟩
     ·exact ⟨j, s, by omega, hs, hk, List.mem_singleton.1 h⟩
    ·rw [rawD_no hs hk] at h
     obtain ⟨i, s, h1, h2⟩ := ih.1 h
     exact ⟨i, s, by omega, h2⟩
  ·rintro ⟨i, s, h1, h2, h3, h4⟩
   by_cases hij : i = j
   ·subst hij
    rw [rawD_yes h2 h3, h4]
    exact List.mem_append.2 (.inr (List.mem_singleton.2 rfl))
   ·have hm := ih.2 ⟨i, s, by omega, h2, h3, h4⟩
    cases hs : b[j]? with
    | none => rw [rawD, hs]; exact hm
    | some s' =>
     by_cases hk : s'.1 = 5
     ·rw [rawD_yes hs hk]; exact List.mem_append.2 (.inl hm)
     ·rw [rawD_no hs hk]; exact hm
theorem any_isD {xs : List Tr} {x : Int} : xs.any (isD x) = true ↔ x ∈ rawD xs xs.length := by
 rw [rawD_mem, List.any_eq_true]
 constructor
 ·rintro ⟨s, hs, h⟩
  unfold isD at h
  simp only [Bool.and_eq_true, beq_iff_eq] at h
  obtain ⟨i, hi, rfl⟩ := List.getElem_of_mem hs
  exact ⟨i, _, hi, List.getElem?_eq_getElem hi, h.1, h.2.symm⟩
 ·rintro ⟨i, s, h1, h2, h3, h4⟩
  refine ⟨s, List.mem_of_getElem? h2, ?_⟩
  unfold isD
  simp only [Bool.and_eq_true, beq_iff_eq]
  exact ⟨h3, h4.symm⟩
theorem def_rng {p : Pg} {nf : Nat} {xs : List Tr} (hp : okProg p = true) (hx : p[nf]? = some xs) {x : Int} (h : x ∈ rawD xs xs.length) : 0 ≤ x ∧ x < p.length := by
 obtain ⟨i, s, h1, h2, h3, rfl⟩ := (rawD_mem _).1 h
 have hs := ((okProg_parts hp).2.2 nf xs hx).2 s (List.mem_of_getElem? h2)
 unfold okStep at hs
 rw [if_neg (by omega), if_neg (by omega), if_pos (.inr h3)] at hs
 simp only [Bool.and_eq_true, decide_eq_true_eq] at hs
 exact ⟨hs.1.1, hs.1.2⟩
theorem rng_asc (k : Nat) : Asc (rng k) := by
 unfold rng Asc
 rw [List.pairwise_map]
 exact List.pairwise_lt_range.imp (fun h => by omega)
theorem defL_at {p : Pg} {nf : Nat} {xs : List Tr} (hx : p[nf]? = some xs) : defL p nf = setS (rawD xs xs.length) := by unfold defL; rw [List.getD_eq_getElem?_getD, hx]; rfl
theorem guaI_all {p : Pg} {nf : Nat} {xs : List Tr} (hp : okProg p = true) (hx : p[nf]? = some xs) : guaI p xs p.length = guaL p nf := by
 unfold guaI guaL
 rw [defL_at hx]
 refine asc_eq ((rng_asc _).filter _) ((setS_asc _).filter _) fun x => ?_
 rw [List.mem_filter, List.mem_filter, setS_mem, Bool.and_eq_true, any_isD]
 constructor
 ·rintro ⟨-, h1, h2⟩
  exact ⟨h1, h2⟩
 ·rintro ⟨h1, h2⟩
  obtain ⟨h3, h4⟩ := def_rng hp hx h1
  refine ⟨?_, h1, h2⟩
  unfold rng
  rw [List.mem_map]
  exact ⟨x.toNat, List.mem_range.2 (by omega), by omega⟩
theorem guardsR_len (p : Pg) (f : Int) : (guardsR p f).1.length ≤ 100000 := by
 unfold guardsR
 split
 ·rename_i h
  obtain ⟨nf, b, rfl, hb, h8, _, h6, hp⟩ := isFn_row h
  show (guaL p nf).length ≤ 100000
  rw [← guaI_all hp hb]
  have := guaI_len p b p.length
  omega
 ·simp
theorem hasR_at {p : Pg} {g : Nat} {ys : List Tr} (h : p[g]? = some ys) : hasR p g = decide (0 < (recL ys).length) := by
 unfold hasR
 rw [show ((g : Int)).toNat = g by omega, List.getD_eq_getElem?_getD, h]
 rfl
end Go.Proofs.Ytdmcgkcpclepfaa.Guc
-- squeezed
