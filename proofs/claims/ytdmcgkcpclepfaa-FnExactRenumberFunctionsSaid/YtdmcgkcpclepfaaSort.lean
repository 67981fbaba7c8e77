import Derived.Test.YtdmcgkcpclepfaaShelf
import Derived.Test.YtdmcgkcpclepfaaSetM
import Derived.Sort.OwnSortedInts
set_option linter.all false
namespace Go.Proofs.Ytdmcgkcpclepfaa.SortP
open Go.ChangeShapes Go.WideShapes Go.ChangeAt Go.RowKit
open PL Mem IntsP SetM
theorem sort_any (lo n c : Nat) (A : Option Addr) (xs : List Int) (hl : xs.length = n) (hn : n ≤ 1000000) (w : World) (ho : w.ownsRow lo 3 1 (.slice A n c) n (cellsI xs)) :
  Calls Try.prog 122 #[.slice A n c] w fun e w' => e = .returned (.tuple #[]) ∧ w'.ownsRow lo 3 1 (.slice A n c) n (cellsI (sortI xs)) ∧ Chg (fun k => (Value.slice A n c).ownBlock = some k) w w' := by
 rcases ho.2 with ⟨hv, h0⟩ | ⟨g, cap, cur, hv, hg, hh, hnc, hcap, hsz, htake⟩
 ·simp only [Value.slice.injEq] at hv
  obtain ⟨rfl, rfl, rfl⟩ := hv
  obtain rfl : xs = [] := List.eq_nil_of_length_eq_zero hl
  refine (Try.slices_Sort_int_none none 0 w).mono ?_
  rintro e w' ⟨rfl, rfl⟩
  exact ⟨rfl, by simpa [sortI] using ho, Chg.refl _ _⟩
 ·simp only [Value.slice.injEq, true_and] at hv
  obtain ⟨rfl, rfl⟩ := hv
  subst hl
  have hH := holds_of_blockI (ss := xs) hh (by simpa [cellsI] using htake)
  refine (Try.slices_Sort_int g 0 c xs w hH (Array.getElem?_eq_some_iff.1 hh).1 (by omega)).mono ?_
  rintro e w' ⟨rfl, q, os, rfl⟩
  exact ⟨rfl, ownsRow_sortedI (ts := sortI xs) (sortI_len xs) hg hh hnc hcap hsz, (Chg.of_grown (grownBy_sortedI (n := q) (os := os) _)).mono (fun k _ hk => hk.symm)⟩
theorem compact_any (lo n c : Nat) (A : Option Addr) (xs : List Int) (hl : xs.length = n) (hn : n ≤ 1000000) (w : World) (ho : w.ownsRow lo 3 1 (.slice A n c) n (cellsI xs)) :
  Calls Try.prog 143 #[.slice A n c] w fun e w' => e = .returned (.slice A (Lib.compact xs).length c) ∧ w'.ownsRow lo 3 1 (.slice A (Lib.compact xs).length c) (Lib.compact xs).length (cellsI (Lib.compact xs)) ∧ Chg (fun k => (Value.slice A n c).ownBlock = some k) w w' := by
 rcases ho.2 with ⟨hv, h0⟩ | ⟨g, cap, cur, hv, hg, hh, hnc, hcap, hsz, htake⟩
 ·simp only [Value.slice.injEq] at hv
  obtain ⟨rfl, rfl, rfl⟩ := hv
  obtain rfl : xs = [] := List.eq_nil_of_length_eq_zero hl
  refine (Try.slices_Compact_int_empty none 0 w).mono ?_
  rintro e w' ⟨rfl, rfl⟩
  exact ⟨rfl, ho, Chg.refl _ _⟩
 ·simp only [Value.slice.injEq, true_and] at hv
  obtain ⟨rfl, rfl⟩ := hv
  subst hl
  have hH := holds_of_blockI (ss := xs) hh (by simpa [cellsI] using htake)
  have hcl : (Lib.compact xs).length ≤ xs.length := by
   have h1 : ∀ m, (Lib.compactUpTo xs.toArray m).length ≤ m := by
    intro m
    induction m with
    | zero => simp [Lib.compactUpTo]
    | succ m ih =>
     rw [Lib.compactUpTo_succ, List.length_append]
     split <;> simp <;> omega
   exact h1 _
  refine (Try.slices_Compact_int g 0 c xs w hH (by omega) hnc).mono ?_
  rintro e w' ⟨rfl, q, rfl⟩
  have hg0 : ∀ V : World, Go.Sort.grow V #[] = V := fun V => by simp [Go.Sort.grow]
  have hlen : (Lib.compact xs ++ List.replicate (xs.length - (Lib.compact xs).length) (0 : Int)).length = xs.length := by rw [List.length_append, List.length_replicate]; omega
  have h1 := ownsRow_sortedI (n := q) (os := #[]) (ts := Lib.compact xs ++ List.replicate (xs.length - (Lib.compact xs).length) (0 : Int)) hlen hg hh hnc hcap hsz
  have h2 := grownBy_sortedI (w := w) (g := g) (n := q) (os := #[]) (Lib.compact xs ++ List.replicate (xs.length - (Lib.compact xs).length) (0 : Int)).toArray
  rw [hg0] at h1 h2
  refine ⟨rfl, ?_, (Chg.of_grown h2).mono (fun k _ hk => hk.symm)⟩
  have h3 := own_shrink h1 (Lib.compact xs).length hcl
  rwa [List.take_append_of_le_length (Nat.le_refl _), List.take_length] at h3
end Go.Proofs.Ytdmcgkcpclepfaa.SortP
-- squeezed
