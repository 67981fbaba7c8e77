/- What the functions over readPanics share. (Written by wip/tools/genirf.py.) -/
import Derived.Test.YtgcjlkdahlfjlaaIrs
import Derived.Test.YtgcjlkdahlfjlaaPo
set_option linter.unusedVariables false
set_option linter.unusedSimpArgs false
namespace Go.Proofs.Ytgcjlkdahlfjlaa.Irf
open Go.ChangeShapes Go.WideShapes Go.ChangeAt Go.RowKit
open PL Mem Srun Sst IntsP RowA RowC AccP Swhole Pw Px Ipm Ise Iex Irc Ipa Iun Irs To OwnS AskP Res Sout Irp RunF AcctP TreeP LawI LawA LawN Po

theorem panR_runR (p : Pg) (f arg fuel : Int) : panR p f arg fuel = (mds (runR p f arg fuel).1.trace, (runR p f arg fuel).2) := by
 unfold panR runR
 split <;> rfl
theorem map_set_next {α : Type} {xs : List α} {φ : α → Int} {n j : Nat} {x : α} (hx : xs[j]? = some x) (hn : xs.length = n) : ((xs.take j).map φ ++ List.replicate (n - j) 0).set j (φ x) = (xs.take (j + 1)).map φ ++ List.replicate (n - (j + 1)) 0 := by
 have hj : j < xs.length := (List.getElem?_eq_some_iff.1 hx).1
 have hl : ((xs.take j).map φ).length = j := by rw [List.length_map, List.length_take]; omega
 rw [List.set_append_right _ _ (by omega), hl, Nat.sub_self, show n - j = n - (j + 1) + 1 by omega, List.replicate_succ, List.set_cons_zero, List.take_add_one, hx, List.map_append, List.append_assoc]
 rfl
theorem pa_form {V : World} {lo g ga : Nat} {hp hf ho hr : Hd} {i : IS} (h : IW V lo g ga hp hf ho hr i) (hl : 0 < i.pans.length) : ∃ b, b < V.heap.size ∧ hp.A = some ⟨b, 0, none⟩ := by
 rcases own_form h.pans with ⟨h0, _⟩ | ⟨_, b, cap, hv, hb1, hb2⟩
 ·omega
 ·simp only [Value.slice.injEq, true_and] at hv
  exact ⟨b, hb2, hv.1⟩
theorem pan_at {M k : Nat} {s : MS} {i : IS} {x : PF} (h : Sim M s i) (hx : s.pan[k]? = some x) : i.pans[k]? = some (5, x.f, x.v, (k : Int), (x.call : Int)) := by
 rw [h.pans k (List.getElem?_eq_some_iff.1 hx).1, rzOf_some hx]
end Go.Proofs.Ytgcjlkdahlfjlaa.Irf
-- squeezed
