import Derived.Test.YtdmcgkcpclepfaaDefer
set_option linter.all false
namespace Go.Proofs.Ytdmcgkcpclepfaa.DeferW
open Go.ChangeShapes Go.WideShapes Go.ChangeAt Go.RowKit
open PL Mem To MarkP Res Prg PrgS StpS DeferP
theorem own_at {w : World} {B e n c : Nat} {A : Option Addr} {xs : List Tr} (h : w.ownsRow B e 3 (.slice A n c) n (cells3 xs)) {k : Nat} {s : Tr} (hs : xs[k]? = some s) (hk : k < n) :
  ∃ g, A = some ⟨g, 0, none⟩ ∧ g < w.heap.size ∧ (∀ o, (w.alloc o).cell? ⟨g, k * 3, none⟩ = some (.int .i64 s.1)) ∧ (∀ o, (w.alloc o).frozen? ⟨g, k * 3, none⟩ = false) ∧ (∀ o, (w.alloc o).cell? ⟨g, k * 3 + 1, none⟩ = some (.int .i64 s.2.1)) ∧ (∀ o, (w.alloc o).frozen? ⟨g, k * 3 + 1, none⟩ = false) ∧
   w.cell? ⟨g, k * 3, none⟩ = some (.int .i64 s.1) ∧ w.cell? ⟨g, k * 3 + 1, none⟩ = some (.int .i64 s.2.1) ∧ w.cell? ⟨g, k * 3 + 2, none⟩ = some (.int .i64 s.2.2) ∧ w.frozen? ⟨g, k * 3, none⟩ = false ∧ w.frozen? ⟨g, k * 3 + 1, none⟩ = false := by
 rcases own_form h with ⟨h0, _⟩ | ⟨_, g, cap, hv, _, hg⟩
 ·omega
 ·simp only [Value.slice.injEq, true_and] at hv
  obtain ⟨rfl, rfl⟩ := hv
  obtain ⟨c0, c1, c2⟩ := cells3_at xs k s hs
  have b : ∀ o, Below w.heap.size w (w.alloc o) := fun o => (Below.refl _ _).alloc (Nat.le_refl _) o
  have d0 := (h.cellAt (k * 3) (by omega)).trans c0
  have d1 := (h.cellAt (k * 3 + 1) (by omega)).trans c1
  have d2 := (h.cellAt (k * 3 + 2) (by omega)).trans c2
  exact ⟨g, rfl, hg, fun o => ((b o).cell (p := ⟨g, k * 3, none⟩) hg).trans d0, fun o => ((b o).frozen (p := ⟨g, k * 3, none⟩) hg).trans (h.frozenAt _), fun o => ((b o).cell (p := ⟨g, k * 3 + 1, none⟩) hg).trans d1, fun o => ((b o).frozen (p := ⟨g, k * 3 + 1, none⟩) hg).trans (h.frozenAt _),
   d0, d1, d2, h.frozenAt _, h.frozenAt _⟩
theorem own_put {w : World} {B e n c : Nat} {A : Option Addr} {xs : List Tr} {k : Nat} {s : Tr} {g : Nat} {a : Int} (h : w.ownsRow B e 3 (.slice A n c) n (cells3 xs)) (hA : A = some ⟨g, 0, none⟩) (hs : xs[k]? = some s) :
  (w.setCell ⟨g, k * 3, none⟩ (.int .i64 a)).ownsRow B e 3 (.slice A n c) n (cells3 (xs.set k (a, s.2.1, s.2.2))) := by
 subst hA
 have := (h.stored (k * 3) (.int .i64 a)).1
 rwa [cells3_set0 xs k s a hs] at this
theorem own_put1 {w : World} {B e n c : Nat} {A : Option Addr} {xs : List Tr} {k : Nat} {s : Tr} {g : Nat} {a : Int} (h : w.ownsRow B e 3 (.slice A n c) n (cells3 xs)) (hA : A = some ⟨g, 0, none⟩) (hs : xs[k]? = some s) :
  (w.setCell ⟨g, k * 3 + 1, none⟩ (.int .i64 a)).ownsRow B e 3 (.slice A n c) n (cells3 (xs.set k (s.1, a, s.2.2))) := by
 subst hA
 have := (h.stored (k * 3 + 1) (.int .i64 a)).1
 rwa [cells3_set1 xs k s a hs] at this
theorem blk_new (w : World) (t : TypeId) (cs : Array Value) : Blk (w.alloc (.cells cs t)) w.heap.size t cs := heap_alloc_new w _
end Go.Proofs.Ytdmcgkcpclepfaa.DeferW
-- squeezed
