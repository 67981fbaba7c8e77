import Derived.Test.YtdmcgkcpclepfaaGua
import Derived.Test.YtdmcgkcpclepfaaDefer2
import Derived.Test.YtdmcgkcpclepfaaLawI
import Derived.Test.YtdmcgkcpclepfaaSst
set_option linter.all false
namespace Go.Proofs.Ytdmcgkcpclepfaa.Wr
open Go.ChangeShapes Go.WideShapes Go.ChangeAt Go.RowKit
open PL Mem Sst To MarkP Res Prg PrgS StpS IntsP DeferP DeferW Gua LawI
def setR (s : Tr) : Tr := if s.1 = 7 then (1, s.2.1, 0) else s
def bodyR (b : List Tr) : List Tr := b.map setR
def withoutR (p : Pg) : Pg × Bool := if okProg p = true then (p.map bodyR, true) else ([], false)
def gpart {α : Type} (φ : α → α) (b : List α) (i : Nat) : List α := (b.take i).map φ ++ b.drop i
theorem gpart_at {α : Type} (φ : α → α) (b : List α) (i : Nat) (s : α) (h : b[i]? = some s) : (gpart φ b i)[i]? = some s := by
 have hi := (List.getElem?_eq_some_iff.1 h).1
 unfold gpart
 rw [List.getElem?_append_right (by simp; omega)]
 simpa [Nat.min_eq_left (Nat.le_of_lt hi)] using h
theorem gpart_next {α : Type} (φ : α → α) (b : List α) (i : Nat) (s : α) (h : b[i]? = some s) : (gpart φ b i).set i (φ s) = gpart φ b (i + 1) := by
 have hi := (List.getElem?_eq_some_iff.1 h).1
 have hl : ((b.take i).map φ).length = i := by simp; omega
 unfold gpart
 rw [List.set_append_right _ _ (by omega), hl, Nat.sub_self, List.drop_eq_getElem_cons hi, List.set_cons_zero, List.take_add_one, h]
 simp
theorem gpart_all {α : Type} (φ : α → α) (b : List α) (i : Nat) (h : i = b.length) : gpart φ b i = b.map φ := by subst h; simp [gpart]
theorem gpart_zero {α : Type} (φ : α → α) (b : List α) : gpart φ b 0 = b := by simp [gpart]
theorem recs_pre (xs : List Tr) : ∀ d t, recs xs t <+: recs xs (t + d)
 | 0, t => List.prefix_refl _
 | d + 1, t => by
  refine (recs_pre xs d t).trans ?_
  rw [show t + (d + 1) = t + d + 1 by omega, recs]
  split
  ·split
   ·exact List.prefix_append _ _
   ·exact List.prefix_refl _
  ·exact List.prefix_refl _
theorem recs_next (xs : List Tr) : ∀ d t, t + d = xs.length → (recs xs t).length < (recL xs).length → ∃ (a : Nat) (s : Tr), t ≤ a ∧ a < xs.length ∧ xs[a]? = some s ∧ s.1 = 7 ∧ recs xs a = recs xs t ∧ dpart setR xs a = dpart setR xs t
 | 0, t, h, hl => by
  unfold recL at hl
  rw [← h] at hl
  exact absurd hl (Nat.lt_irrefl _)
 | d + 1, t, h, hl => by
  obtain ⟨s, hs⟩ : ∃ s, xs[t]? = some s := ⟨_, List.getElem?_eq_getElem (by omega)⟩
  by_cases hk : s.1 = 7
  ·exact ⟨t, s, Nat.le_refl _, by omega, hs, hk, rfl, rfl⟩
  ·have h1 := recs_no hs hk
   have h2 := part_same setR xs t s hs (if_neg hk)
   obtain ⟨a, s', g1, g2, g3, g4, g5, g6⟩ := recs_next xs d (t + 1) (by omega) (by rw [h1]; exact hl)
   exact ⟨a, s', by omega, g2, g3, g4, g5.trans h1, g6.trans h2.symm⟩
theorem recs_done (xs : List Tr) : ∀ d t, t + d = xs.length → ¬ (recs xs t).length < (recL xs).length → dpart setR xs t = bodyR xs
 | 0, t, h, hl => part_all setR xs t (by omega)
 | d + 1, t, h, hl => by
  obtain ⟨s, hs⟩ : ∃ s, xs[t]? = some s := ⟨_, List.getElem?_eq_getElem (by omega)⟩
  by_cases hk : s.1 = 7
  ·exfalso
   have h1 := (recs_pre xs d (t + 1)).length_le
   rw [recs_yes hs hk, show t + 1 + d = xs.length by omega, List.length_append, List.length_singleton] at h1
   unfold recL at hl
   omega
  ·rw [part_same setR xs t s hs (if_neg hk)]
   exact recs_done xs d (t + 1) (by omega) (by rw [recs_no hs hk]; exact hl)
theorem recL_at {xs : List Tr} {a : Nat} {s : Tr} (hs : xs[a]? = some s) (hk : s.1 = 7) : (recL xs)[(recs xs a).length]? = some (a : Int) := by
 have ha := (List.getElem?_eq_some_iff.1 hs).1
 obtain ⟨r, hr⟩ := recs_pre xs (xs.length - (a + 1)) (a + 1)
 rw [show a + 1 + (xs.length - (a + 1)) = xs.length by omega] at hr
 unfold recL
 rw [← hr, recs_yes hs hk, List.append_assoc, List.getElem?_append_right (Nat.le_refl _), Nat.sub_self]
 rfl
theorem own_set3 {w : World} {B e n c : Nat} {A : Option Addr} {xs : List Tr} {k : Nat} {s : Tr} {g : Nat} (h : w.ownsRow B e 3 (.slice A n c) n (cells3 xs)) (hA : A = some ⟨g, 0, none⟩) (hk : k < xs.length) :
  (((w.setCell ⟨g, k * 3, none⟩ (.int .i64 s.1)).setCell ⟨g, k * 3 + 1, none⟩ (.int .i64 s.2.1)).setCell ⟨g, k * 3 + 2, none⟩ (.int .i64 s.2.2)).ownsRow B e 3 (.slice A n c) n (cells3 (xs.set k s)) := by
 subst hA
 have := (((h.stored (k * 3) (.int .i64 s.1)).1.stored (k * 3 + 1) (.int .i64 s.2.1)).1.stored (k * 3 + 2) (.int .i64 s.2.2)).1
 rwa [cells3_set xs k s hk] at this
theorem chg_set3 {C : Nat → Prop} {a w : World} (h : Chg C a w) {g : Nat} (hg : C g) (i j k : Nat) (x y z : Value) : Chg C a (((w.setCell ⟨g, i, none⟩ x).setCell ⟨g, j, none⟩ y).setCell ⟨g, k, none⟩ z) :=
 ((h.put ⟨g, i, none⟩ x (.inr hg)).put ⟨g, j, none⟩ y (.inr hg)).put ⟨g, k, none⟩ z (.inr hg)
theorem withoutR_len {p : Pg} (h : okProg p = true) : (p.map bodyR).length = p.length := List.length_map ..
end Go.Proofs.Ytdmcgkcpclepfaa.Wr
-- squeezed
