import Derived.Test.YtdmcgkcpclepfaaMem
import Derived.OpenShut
import Derived.Deep.Slices
import Derived.Deep.Fields
import Derived.ChangeSame
import Derived.Carry
set_option linter.all false
namespace Go.Proofs.Ytdmcgkcpclepfaa.OpenP
open Go.ChangeShapes Go.WideShapes Go.ChangeAt Go.RowKit Go.Deep
open PL Mem
def fit (z : Int) : Prop := -9223372036854775808 ≤ z ∧ z ≤ 9223372036854775807
def fits (s : Tr) : Prop := fit s.1 ∧ fit s.2.1 ∧ fit s.2.2
def FitP (p : Pg) : Prop := ∀ (i j : Nat) (xs : List Tr) (s : Tr), p[i]? = some xs → xs[j]? = some s → fits s
section
variable {H : Type} {enc : TypeId × Value → H} {w : World} {base : Nat} {spare : Nat → Bool} {held : Bool}
set_option maxRecDepth 100000 in
theorem int_of {fuel : Nat} {cs : List Value} {x : DataW H × List MemPlace} (h : DataW.trod enc Try.prog w base spare held fuel 3 cs = some x) : ∃ z, cs = [.int .i64 z] ∧ fit z := by
 obtain ⟨z, h1, _, h3⟩ := DataW.trod_int Try.underlying3 h
 refine ⟨z, h1, ?_⟩
 simp only [Lit.wf, Bool.and_eq_true, decide_eq_true_eq] at h3
 exact ⟨h3.1, h3.2⟩
set_option maxRecDepth 100000 in
theorem triple_of {fuel : Nat} {cs : List Value} {x : DataW H × List MemPlace} (h : DataW.trod enc Try.prog w base spare held fuel 123 cs = some x) : ∃ s : Tr, cs = c3 s ∧ fits s := by
 obtain ⟨xs, n, _, _, hlen, hxl, hf⟩ := DataW.trod_struct Try.underlying123 h
 have h3 : cs.length = 3 := hlen.trans (by kernel_rfl)
 have h3x : xs.length = 3 := hxl
 match cs, h3 with
 | [c0, c1, c2], _ =>
  match xs, h3x with
  | [y0, y1, y2], _ =>
   have k : Try.prog.cellsOf 3 = 1 := by kernel_rfl
   have g0 : DataW.trod enc Try.prog w base spare held n 3 (([c0, c1, c2].drop 0).take (Try.prog.cellsOf 3)) = some y0 := hf 0 _ rfl
   have g1 : DataW.trod enc Try.prog w base spare held n 3 (([c0, c1, c2].drop 1).take (Try.prog.cellsOf 3)) = some y1 := hf 1 _ rfl
   have g2 : DataW.trod enc Try.prog w base spare held n 3 (([c0, c1, c2].drop 2).take (Try.prog.cellsOf 3)) = some y2 := hf 2 _ rfl
   rw [k] at g0 g1 g2
   obtain ⟨z0, e0, f0⟩ := int_of (x := y0) (by simpa using g0)
   obtain ⟨z1, e1, f1⟩ := int_of (x := y1) (by simpa using g1)
   obtain ⟨z2, e2, f2⟩ := int_of (x := y2) (by simpa using g2)
   refine ⟨(z0, z1, z2), ?_, f0, f1, f2⟩
   simp at e0 e1 e2
   rw [e0, e1, e2]; rfl
set_option maxRecDepth 100000 in
theorem steps_of {fuel : Nat} {cs : List Value} {x : DataW H × List MemPlace} (h : DataW.trod enc Try.prog w base spare held fuel 93 cs = some x) :
  ∃ A c xs, cs = [.slice A xs.length c] ∧ xs.length ≤ maxLen ∧ Rd3 w w.heap.size A xs ∧ ∀ (j : Nat) (s : Tr), xs[j]? = some s → fits s := by
 rcases open_slice Try.underlying93 h with ⟨h0, _⟩ | ⟨a, len, cap, m, n, D, Pl, rfl, hb, hl, hm, hmm, _, hi⟩
 ·exact ⟨none, 0, [], h0, by simp, fun j s hs => by simp at hs, fun j s hs => by simp at hs⟩
 ·have hc : Try.prog.cellsOf 123 = 3 := by kernel_rfl
  rw [hc] at hi
  have hlm : len ≤ m := by rw [hmm]; split <;> omega
  obtain ⟨F, hF⟩ := choose_lt (α := Tr) (n := len) (p := fun i s => fits s ∧ w.cell? (a.add (i * 3)) = some (.int .i64 s.1) ∧ w.cell? ((a.add (i * 3)).add 1) = some (.int .i64 s.2.1) ∧ w.cell? ((a.add (i * 3)).add 2) = some (.int .i64 s.2.2)) (fun i hil => by
   obtain ⟨cs', h1, h2⟩ := hi i (by omega)
   obtain ⟨s, rfl, hs⟩ := triple_of h2
   obtain ⟨_, _, hat⟩ := World.cells?_some h1
   have a0 := hat 0 (by omega)
   have a1 := hat 1 (by omega)
   have a2 := hat 2 (by omega)
   refine ⟨s, hs, ?_, a1, a2⟩
   have z0 : ∀ b : Addr, b.add 0 = b := fun b => by simp [Addr.add]
   rw [z0] at a0
   exact a0)
  refine ⟨some a, cap, (List.range len).map F, by simp, by simp; omega, fun j s hs => ?_, fun j s hs => ?_⟩
  ·have hj : j < len := by have := (List.getElem?_eq_some_iff.1 hs).1; simpa using this
   obtain rfl : F j = s := by simpa [hj] using hs
   obtain ⟨_, g0, g1, g2⟩ := hF j hj
   have hlt := World.block_lt_of_cell? w _ g0
   rw [block_of_add] at hlt
   exact ⟨a, rfl, hlt, g0, g1, g2⟩
  ·have hj : j < len := by have := (List.getElem?_eq_some_iff.1 hs).1; simpa using this
   obtain rfl : F j = s := by simpa [hj] using hs
   exact (hF j hj).1
set_option maxRecDepth 100000 in
theorem prog_of {fuel : Nat} {cs : List Value} {x : DataW H × List MemPlace} (h : DataW.trod enc Try.prog w base spare held fuel 22 cs = some x) :
  ∃ A c p, cs = [.slice A p.length c] ∧ p.length ≤ maxLen ∧ RdP w w.heap.size A p ∧ FitP p ∧ Small p maxLen := by
 rcases open_slice1 Try.underlying22 (by kernel_rfl) h with ⟨h0, _⟩ | ⟨a, len, cap, m, n, V, D, Pl, rfl, hb, hl, hm, hmm, _, hi⟩
 ·exact ⟨none, 0, [], h0, by simp, fun j s hs => by simp at hs, fun i j xs s hs => by simp at hs, fun i xs hs => by simp at hs⟩
 ·have hlm : len ≤ m := by rw [hmm]; split <;> omega
  obtain ⟨F, hF⟩ := choose_lt (α := List Tr) (n := len) (p := fun i xs => (∃ Ai ci, w.cell? (a.add i) = some (.slice Ai xs.length ci) ∧ Rd3 w w.heap.size Ai xs) ∧ xs.length ≤ maxLen ∧ ∀ (j : Nat) (s : Tr), xs[j]? = some s → fits s) (fun i hil => by
   obtain ⟨h1, h2⟩ := hi i (by omega)
   obtain ⟨Ai, ci, xs, e, hlen, hr, hf⟩ := steps_of h2
   have e' : V i = .slice Ai xs.length ci := by simpa using e
   exact ⟨xs, ⟨Ai, ci, by rw [h1, e'], hr⟩, hlen, hf⟩)
  refine ⟨some a, cap, (List.range len).map F, by simp, by simp; omega, fun j s hs => ?_, fun i j xs s hx hs => ?_, fun i xs hs => ?_⟩
  ·have hj : j < len := by have := (List.getElem?_eq_some_iff.1 hs).1; simpa using this
   obtain rfl : F j = s := by simpa [hj] using hs
   obtain ⟨⟨Ai, ci, g0, g1⟩, _⟩ := hF j hj
   have hlt := World.block_lt_of_cell? w _ g0
   rw [block_of_add] at hlt
   exact ⟨a, Ai, ci, rfl, hlt, g0, g1⟩
  ·have hj : i < len := by have := (List.getElem?_eq_some_iff.1 hx).1; simpa using this
   obtain rfl : F i = xs := by simpa [hj] using hx
   exact (hF i hj).2.2 j s hs
  ·have hj : i < len := by have := (List.getElem?_eq_some_iff.1 hs).1; simpa using this
   obtain rfl : F i = xs := by simpa [hj] using hs
   exact (hF i hj).2.1
set_option maxRecDepth 100000 in
theorem open_prog {r : Reach} {b0 : Nat} {v : Value} {d : DataW H} {ps : List MemPlace} (hv : Value.okWide Try.prog w r b0 24 v) (h : DataW.Trod enc Try.prog w base spare held 24 v d ps) :
  ∃ A c p, v = .agg #[.slice A p.length c] ∧ p.length ≤ maxLen ∧ RdP w w.heap.size A p ∧ FitP p ∧ Small p maxLen := by
 obtain ⟨cs, rfl, hsz⟩ := okWide_struct Try.underlying24 hv
 have h1 : cs.size = 1 := hsz.trans (by kernel_rfl)
 obtain ⟨l⟩ := cs
 match l, h1 with
 | [c0], _ =>
  obtain ⟨fuel, hf⟩ := h
  obtain ⟨xs, n, _, _, _, hlen, hg⟩ := DataW.trod_struct Try.underlying24 hf
  have hx1 : xs.length = 1 := hlen
  match xs, hx1 with
  | [y0], _ =>
   have g0 : DataW.trod enc Try.prog w base spare held n 22 (([c0].drop 0).take (Try.prog.cellsOf 22)) = some y0 := hg 0 _ rfl
   have k : Try.prog.cellsOf 22 = 1 := by kernel_rfl
   rw [k] at g0
   obtain ⟨A, c, p, e, r⟩ := prog_of (x := y0) (by simpa [Value.cells] using g0)
   refine ⟨A, c, p, ?_, r⟩
   simp at e
   rw [e]
set_option maxRecDepth 100000 in
theorem open_step {r : Reach} {b0 : Nat} {v : Value} {d : DataW H} {ps : List MemPlace} (hv : Value.okWide Try.prog w r b0 123 v) (h : DataW.Trod enc Try.prog w base spare held 123 v d ps) :
  ∃ k a b, v = .agg #[.int .i64 k, .int .i64 a, .int .i64 b] ∧ fits (k, a, b) := by
 obtain ⟨cs, rfl, hsz⟩ := okWide_struct Try.underlying123 hv
 obtain ⟨l⟩ := cs
 obtain ⟨fuel, hf⟩ := h
 obtain ⟨⟨k, a, b⟩, e, hs⟩ := triple_of hf
 refine ⟨k, a, b, ?_, hs⟩
 simp [Value.cells, c3] at e
 rw [e]
set_option maxRecDepth 100000 in
theorem open_int_fit {r : Reach} {b0 : Nat} {v : Value} {d : DataW H} {ps : List MemPlace} (hv : Value.okWide Try.prog w r b0 3 v) (h : DataW.Trod enc Try.prog w base spare held 3 v d ps) :
  ∃ z, v = .int .i64 z ∧ fit z := by
 obtain ⟨z, rfl, _, _, hw⟩ := open_int Try.underlying3 hv h
 simp only [Lit.wf, Bool.and_eq_true, decide_eq_true_eq] at hw
 exact ⟨z, rfl, hw.1, hw.2⟩
end
theorem laidOut : laidOutB Try.prog = true := by kernel_rfl
end Go.Proofs.Ytdmcgkcpclepfaa.OpenP
-- squeezed
