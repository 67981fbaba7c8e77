/- What the functions over readPanics share. (Written by wip/tools/genirf.py.) -/
import Derived.Test.YtgcjlkdahlfjlaaIrs
import Derived.Test.YtgcjlkdahlfjlaaPo
namespace Go.Proofs.Ytgcjlkdahlfjlaa.Irf
set_option linter.unusedVariables false
set_option linter.unusedSimpArgs false
open Go.ChangeShapes Go.WideShapes Go.ChangeAt Go.RowKit
open PL Mem Srun Sst IntsP RowA RowC AccP Swhole Pw Px Ipm Ise Iex Irc Ipa Iun Irs To OwnS AskP Res Sout Irp RunF AcctP TreeP LawI LawA LawN Po

theorem panR_runR (p : Pg) (f arg fuel : Int) : panR p f arg fuel = (mds (runR p f arg fuel).1.trace, (runR p f arg fuel).2) := by
 unfold panR runR
 split <;> rfl
theorem map_set_next {α : Type} {xs : List α} {φ : α → Int} {n j : Nat} {x : α} (hx : xs[j]? = some x) (hn : xs.length = n) : ((xs.take j).map φ ++ List.replicate (n - j) 0).set j (φ x) = (xs.take (j + 1)).map φ ++ List.replicate (n - (j + 1)) 0 := by
 have hj : j < xs.length := (List.getElem?_eq_some_iff.1 hx).1
 have hl : ((xs.take j).map φ).length = j := by rw [List.length_map, List.length_take]; omega
 rw [List.set_append_right _ _ (by omega), hl, Nat.sub_self, show n - j = n - (j + 1) + 1 by omega, List.replicate_succ, List.set_cons_zero, List.take_add_one, hx, List.map_append, List.append_assoc]
 rfl
theorem fo_cells4 {V : World} {lo g ga bf cf k : Nat} {hp ho hr : Hd} {i : IS} {y : Fo} (h : IW V lo g ga hp ⟨some ⟨bf, 0, none⟩, cf⟩ ho hr i) (hy : i.forts[k]? = some y) :
  ∃ A c, V.cell? ⟨bf, k * 4 + 3, none⟩ = some (.slice A y.unwound.length c) ∧ V.ownsRow lo 3 1 (.slice A y.unwound.length c) y.unwound.length (cellsI y.unwound) := by
 obtain ⟨L, hL, hv, hrow, _⟩ := h.forts
 obtain ⟨v, hLk⟩ : ∃ v, L[k]? = some (y, v) := by
  obtain ⟨⟨y1, v⟩, h1⟩ : ∃ s, L[k]? = some s := ⟨_, List.getElem?_eq_getElem (by rw [foLen hL]; exact (List.getElem?_eq_some_iff.1 hy).1)⟩
  have h2 : (L.map Prod.fst)[k]? = some y1 := by rw [List.getElem?_map, h1]; rfl
  rw [hL, hy] at h2
  obtain rfl : y = y1 := by simpa using h2
  exact ⟨v, h1⟩
 obtain ⟨A, c, rfl, h2⟩ := hrow k y v hLk
 exact ⟨A, c, row_at f4_len hv hLk (o := 3) (by decide) (foLen hL), h2⟩
theorem pa_form {V : World} {lo g ga : Nat} {hp hf ho hr : Hd} {i : IS} (h : IW V lo g ga hp hf ho hr i) (hl : 0 < i.pans.length) : ∃ b, b < V.heap.size ∧ hp.A = some ⟨b, 0, none⟩ := by
 rcases own_form h.pans with ⟨h0, _⟩ | ⟨_, b, cap, hv, hb1, hb2⟩
 ·omega
 ·simp only [Value.slice.injEq, true_and] at hv
  exact ⟨b, hb2, hv.1⟩
theorem pan_at {M k : Nat} {s : MS} {i : IS} {x : PF} (h : Sim M s i) (hx : s.pan[k]? = some x) : i.pans[k]? = some (5, x.f, x.v, (k : Int), (x.call : Int)) := by
 rw [h.pans k (List.getElem?_eq_some_iff.1 hx).1, rzOf_some hx]
theorem pans_map {β : Type} {M : Nat} {s : MS} {i : IS} (h : Sim M s i) (φ : Rz → β) (ψ : PF → β) (hφ : ∀ (k : Nat) (x : PF), s.pan[k]? = some x → φ (5, x.f, x.v, (k : Int), (x.call : Int)) = ψ x) : i.pans.map φ = s.pan.map ψ := by
 apply List.ext_getElem?
 intro k
 rw [List.getElem?_map, List.getElem?_map]
 cases hx : s.pan[k]? with
 | none =>
  have : i.pans[k]? = none := by
   rw [List.getElem?_eq_none_iff] at hx ⊢
   rw [h.plen]
   exact hx
  rw [this]
  rfl
 | some x =>
  rw [pan_at h hx]
  exact congrArg some (hφ k x hx)
end Go.Proofs.Ytgcjlkdahlfjlaa.Irf
-- squeezed
