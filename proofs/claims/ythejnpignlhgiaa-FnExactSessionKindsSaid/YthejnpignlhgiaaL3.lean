import Derived.Test.YthejnpignlhgiaaM3
set_option linter.all false
namespace Go.Proofs.Ythejnpignlhgiaa.Last2
section
variable {P : Program} {ops : Array Oper} {Q : Exit → Act → World → Prop} {md : Region.Mode} {S : World → Prop} {ls : List Nat}
theorem last_three {i j k : Nat} {oi oj ok : Oper} {fuel : Nat} {listed : Array Bool} {a : Act} {w : World} (hr : Region.ready md ops listed = [i, j, k]) (hoi : ops[i]? = some oi) (hoj : ops[j]? = some oj) (hok : ops[k]? = some ok)
  (hwi : Region.wanted oi (yielded ops a.tmps) = true) (hwj : Region.wanted oj (yielded ops a.tmps) = true) (hwk : Region.wanted ok (yielded ops a.tmps) = true)
  (hi : ∀ K : Act → World → Prop, Shut (∀ a' w', (i ∉ ls → S w') → wpAnyL P md ops Q S ls fuel (listed.setIfInBounds i true) a' w' → K a' w') → Oper.wp P oi a w K Q)
  (hj : ∀ K : Act → World → Prop, Shut (∀ a' w', (j ∉ ls → S w') → wpAnyL P md ops Q S ls fuel (listed.setIfInBounds j true) a' w' → K a' w') → Oper.wp P oj a w K Q)
  (hk : ∀ K : Act → World → Prop, Shut (∀ a' w', (k ∉ ls → S w') → wpAnyL P md ops Q S ls fuel (listed.setIfInBounds k true) a' w' → K a' w') → Oper.wp P ok a w K Q) : wpAnyL P md ops Q S ls (fuel + 1) listed a w := by
 refine ⟨fun h0 => absurd (hr ▸ h0) (by simp), fun m hm => ?_⟩
 rw [hr] at hm
 simp only [List.mem_cons, List.not_mem_nil, or_false] at hm
 rcases hm with rfl | rfl | rfl
 ·unfold wpOp
  simp only [hoi, hwi, if_true]
  exact .inl (hi _ (fun a' w' h1 h2 => ⟨h1, h2⟩))
 ·unfold wpOp
  simp only [hoj, hwj, if_true]
  exact .inl (hj _ (fun a' w' h1 h2 => ⟨h1, h2⟩))
 ·unfold wpOp
  simp only [hok, hwk, if_true]
  exact .inl (hk _ (fun a' w' h1 h2 => ⟨h1, h2⟩))
end
end Go.Proofs.Ythejnpignlhgiaa.Last2
-- squeezed
