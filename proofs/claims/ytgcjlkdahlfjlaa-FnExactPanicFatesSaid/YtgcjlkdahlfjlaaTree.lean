/- CallTree and OwnersOf: spec and impl. (Written by wip/tools/gentree.py.) -/
import Derived.Test.YtgcjlkdahlfjlaaM27
import Derived.Test.YtgcjlkdahlfjlaaM26
import Derived.Test.YtgcjlkdahlfjlaaLawC
import Derived.Test.YtgcjlkdahlfjlaaM2
namespace Go.Proofs.Ytgcjlkdahlfjlaa.TreeP
set_option linter.unusedVariables false
set_option linter.unusedSimpArgs false
open Go.ChangeShapes Go.WideShapes Go.ChangeAt Go.RowKit
open PL Mem Srun Sst To OwnS AskP Res Swhole Sout Irp RunF IntsP RowC AccP AcctP Read3 LawC LawI

theorem tds_lens (t : List Tr) : ∀ j, j ≤ t.length → (tds (t.take j)).owners.length = j ∧ (tds (t.take j)).calls.length ≤ j
 | 0, _ => ⟨rfl, Nat.le_refl _⟩
 | j + 1, hj => by
  obtain ⟨e, he⟩ : ∃ e, t[j]? = some e := ⟨_, List.getElem?_eq_getElem (by omega)⟩
  have ih := tds_lens t j (by omega)
  rw [tds_take he]
  have h1 := td_owners (tds (t.take j)) e
  have h2 := td_calls (tds (t.take j)) e
  omega
theorem tds_len (t : List Tr) : (tds t).owners.length = t.length ∧ (tds t).calls.length ≤ t.length := by
 have := tds_lens t t.length (Nat.le_refl _)
 rwa [List.take_length] at this
end Go.Proofs.Ytgcjlkdahlfjlaa.TreeP
-- squeezed
