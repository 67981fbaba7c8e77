/- How many calls stand outside each call of a run, itself included. -/
import Derived.Test.YtmfapjjgcjkkcaaM14
namespace Go.Proofs.Ytmfapjjgcjkkcaa.PL
set_option linter.unusedVariables false
set_option linter.unusedSimpArgs false

def depL (cs : List CI) : Nat → List Int
  | 0 => []
  | j + 1 => match cs[j]? with
    | some c => depL cs j ++ [if c.par < 0 then 1 else (depL cs j).getD c.par.toNat 0 + 1]
    | none => depL cs j
theorem depL_next {cs : List CI} {j : Nat} {c : CI} (h : cs[j]? = some c) : depL cs (j + 1) = depL cs j ++ [if c.par < 0 then 1 else (depL cs j).getD c.par.toNat 0 + 1] := by rw [depL, h]
theorem depL_len (cs : List CI) : ∀ j, j ≤ cs.length → (depL cs j).length = j
  | 0, _ => rfl
  | j + 1, hj => by
    obtain ⟨c, hc⟩ : ∃ c, cs[j]? = some c := ⟨_, List.getElem?_eq_getElem (by omega)⟩
    rw [depL_next hc, List.length_append, List.length_singleton, depL_len cs j (by omega)]
theorem depL_bound (cs : List CI) : ∀ j, ∀ v ∈ depL cs j, 1 ≤ v ∧ v ≤ j
  | 0, v, hv => by simp [depL] at hv
  | j + 1, v, hv => by
    have ih := depL_bound cs j
    cases hc : cs[j]? with
    | none =>
      rw [depL, hc] at hv
      have := ih v hv
      omega
    | some c =>
      rw [depL_next hc] at hv
      rcases List.mem_append.1 hv with h | h
      · have := ih v h
        omega
      · obtain rfl := List.mem_singleton.1 h
        split
        · omega
        · have h2 : (depL cs j).getD c.par.toNat 0 = 0 ∨ (depL cs j).getD c.par.toNat 0 ∈ depL cs j := by
            rw [List.getD_eq_getElem?_getD]
            cases hx : (depL cs j)[c.par.toNat]? with
            | none => exact .inl rfl
            | some x => exact .inr (List.mem_of_getElem? hx)
          rcases h2 with h2 | h2
          · omega
          · have := ih _ h2
            omega
theorem depL_le (cs : List CI) (j : Nat) (hj : j ≤ cs.length) (i : Nat) (hi : i < j) : ∃ v, (depL cs j)[i]? = some v ∧ 1 ≤ v ∧ v ≤ j := by
  have hl := depL_len cs j hj
  exact ⟨_, List.getElem?_eq_getElem (by omega), depL_bound cs j _ (List.getElem_mem _)⟩
end Go.Proofs.Ytmfapjjgcjkkcaa.PL
