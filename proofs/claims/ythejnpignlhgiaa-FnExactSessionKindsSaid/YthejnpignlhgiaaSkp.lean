import Derived.Test.YthejnpignlhgiaaM3
set_option linter.all false
namespace Go.Proofs.Ythejnpignlhgiaa.Last2
section
variable {P : Program} {ops : Array Oper} {Q : Exit → Act → World → Prop} {md : Region.Mode} {S : World → Prop} {ls : List Nat}
theorem last_skip {i : Nat} {oi : Oper} {d : Option Tmp} {fuel : Nat} {listed : Array Bool} {a : Act} {w : World} (hi : ops[i]? = some oi) (hd : oi.dst = d)
  (hs : Region.noSelect ops = true) (hf : Region.free md ops listed i = true) (hr : (Region.ready md ops listed).contains i = true)
  (hQ : ∀ c a w, Q (.panic c) (a.put d undef) w → Q (.panic c) a w) (hne : ls.contains i = false) (hwt : (ls.all fun l => waits md ops i ops.size l) = true) (hcl : closedB md ops listed = true)
  (hw : Region.wanted oi (yielded ops a.tmps) = false) (hS : S w)
  (h : wpAnyL P md ops Q S ls fuel (listed.setIfInBounds i true) (a.put d undef) w) : wpAnyL P md ops Q S ls (fuel + 1) listed a w := by
 subst hd
 exact wpAnyL_first hi (Region.noSelect_spec hs) hQ (by simpa using hne) (fun l hl => List.all_eq_true.1 hwt l hl) fuel listed a w (closedB_spec hcl) (Region.free_spec hi hf) (by simpa using hr) (Or.inr ⟨hw, rfl⟩) hS h
end
end Go.Proofs.Ythejnpignlhgiaa.Last2
-- squeezed
