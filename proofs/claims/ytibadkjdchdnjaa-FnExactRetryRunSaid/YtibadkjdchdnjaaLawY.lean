import Derived.Test.YtibadkjdchdnjaaM2
import Derived.Deep.RegionWith
set_option linter.all false
namespace Go.Proofs.Ytibadkjdchdnjaa.LawY
open Go.ChangeShapes Go.WideShapes Go.ChangeAt Go.RowKit Go.Deep
open PL Mem OpenP
theorem toPolicy_any (t wa fa mo : Int) (w : World) :
  Calls Try.prog 16 #[.agg #[.int .i64 t, .int .i64 wa, .int .i64 fa, .int .i64 mo]] w fun e w' => e = .returned (.agg #[.int .i64 t, .int .i64 wa, .int .i64 fa, .int .i64 mo]) ∧ Below w.heap.size w w' := by
 go_enter Try.func16, Try.ntmps16
 go_wp2
 exact bodyPost_ret (v := .agg #[.int .i64 t, .int .i64 wa, .int .i64 fa, .int .i64 mo]) (by simp [results, Try.results16, go_sem]) rfl ⟨rfl, (((Below.refl _ _).alloc (Nat.le_refl _) _).alloc (by simp) _).alloc (by simp; omega) _⟩
section
variable {H : Type} {enc : TypeId × Value → H} {w : World} {base : Nat} {spare : Nat → Bool} {held : Bool}
set_option maxRecDepth 100000 in
theorem Policy_of {fuel : Nat} {cs : List Value} {x : DataW H × List MemPlace} (h : DataW.trod enc Try.prog w base spare held fuel 23 cs = some x) : ∃ t wa fa mo : Int, cs = [.int .i64 t, .int .i64 wa, .int .i64 fa, .int .i64 mo] ∧ fit t ∧ fit wa ∧ fit fa ∧ fit mo := by
 obtain ⟨xs, n, _, _, hlen, hxl, hf⟩ := DataW.trod_struct Try.underlying23 h
 have h3 : cs.length = 4 := hlen.trans (by kernel_rfl)
 have h3x : xs.length = 4 := hxl
 match cs, h3 with
 | [c0, c1, c2, c3], _ =>
  match xs, h3x with
  | [y0, y1, y2, y3], _ =>
   have k : Try.prog.cellsOf 3 = 1 := by kernel_rfl
   have g0 : DataW.trod enc Try.prog w base spare held n 3 (([c0, c1, c2, c3].drop 0).take (Try.prog.cellsOf 3)) = some y0 := hf 0 _ rfl
   have g1 : DataW.trod enc Try.prog w base spare held n 3 (([c0, c1, c2, c3].drop 1).take (Try.prog.cellsOf 3)) = some y1 := hf 1 _ rfl
   have g2 : DataW.trod enc Try.prog w base spare held n 3 (([c0, c1, c2, c3].drop 2).take (Try.prog.cellsOf 3)) = some y2 := hf 2 _ rfl
   have g3 : DataW.trod enc Try.prog w base spare held n 3 (([c0, c1, c2, c3].drop 3).take (Try.prog.cellsOf 3)) = some y3 := hf 3 _ rfl
   rw [k] at g0 g1 g2 g3
   obtain ⟨z0, e0, f0⟩ := int_of (x := y0) (by simpa using g0)
   obtain ⟨z1, e1, f1⟩ := int_of (x := y1) (by simpa using g1)
   obtain ⟨z2, e2, f2⟩ := int_of (x := y2) (by simpa using g2)
   obtain ⟨z3, e3, f3⟩ := int_of (x := y3) (by simpa using g3)
   refine ⟨z0, z1, z2, z3, ?_, f0, f1, f2, f3⟩
   simp at e0 e1 e2 e3
   rw [e0, e1, e2, e3]
set_option maxRecDepth 100000 in
theorem open_Policy {r : Reach} {b0 : Nat} {v : Value} {d : DataW H} {ps : List MemPlace} (hv : Value.okWide Try.prog w r b0 23 v) (h : DataW.Trod enc Try.prog w base spare held 23 v d ps) :
  ∃ t wa fa mo : Int, v = .agg #[.int .i64 t, .int .i64 wa, .int .i64 fa, .int .i64 mo] ∧ fit t ∧ fit wa ∧ fit fa ∧ fit mo := by
 obtain ⟨cs, rfl, hsz⟩ := okWide_struct Try.underlying23 hv
 obtain ⟨l⟩ := cs
 obtain ⟨fuel, hf⟩ := h
 obtain ⟨t, wa, fa, mo, e, hs⟩ := Policy_of hf
 refine ⟨t, wa, fa, mo, ?_, hs⟩
 simp [Value.cells] at e
 rw [e]
end
theorem toWatch_any (li sp : Int) (w : World) :
  Calls Try.prog 46 #[.agg #[.int .i64 li, .int .i64 sp]] w fun e w' => e = .returned (.agg #[.int .i64 li, .int .i64 sp]) ∧ Below w.heap.size w w' := by
 go_enter Try.func46, Try.ntmps46
 go_wp2
 exact bodyPost_ret (v := .agg #[.int .i64 li, .int .i64 sp]) (by simp [results, Try.results46, go_sem]) rfl ⟨rfl, (((Below.refl _ _).alloc (Nat.le_refl _) _).alloc (by simp) _).alloc (by simp; omega) _⟩
section
variable {H : Type} {enc : TypeId × Value → H} {w : World} {base : Nat} {spare : Nat → Bool} {held : Bool}
set_option maxRecDepth 100000 in
theorem Watch_of {fuel : Nat} {cs : List Value} {x : DataW H × List MemPlace} (h : DataW.trod enc Try.prog w base spare held fuel 67 cs = some x) : ∃ li sp : Int, cs = [.int .i64 li, .int .i64 sp] ∧ fit li ∧ fit sp := by
 obtain ⟨xs, n, _, _, hlen, hxl, hf⟩ := DataW.trod_struct Try.underlying67 h
 have h3 : cs.length = 2 := hlen.trans (by kernel_rfl)
 have h3x : xs.length = 2 := hxl
 match cs, h3 with
 | [c0, c1], _ =>
  match xs, h3x with
  | [y0, y1], _ =>
   have k : Try.prog.cellsOf 3 = 1 := by kernel_rfl
   have g0 : DataW.trod enc Try.prog w base spare held n 3 (([c0, c1].drop 0).take (Try.prog.cellsOf 3)) = some y0 := hf 0 _ rfl
   have g1 : DataW.trod enc Try.prog w base spare held n 3 (([c0, c1].drop 1).take (Try.prog.cellsOf 3)) = some y1 := hf 1 _ rfl
   rw [k] at g0 g1
   obtain ⟨z0, e0, f0⟩ := int_of (x := y0) (by simpa using g0)
   obtain ⟨z1, e1, f1⟩ := int_of (x := y1) (by simpa using g1)
   refine ⟨z0, z1, ?_, f0, f1⟩
   simp at e0 e1
   rw [e0, e1]
set_option maxRecDepth 100000 in
theorem open_Watch {r : Reach} {b0 : Nat} {v : Value} {d : DataW H} {ps : List MemPlace} (hv : Value.okWide Try.prog w r b0 67 v) (h : DataW.Trod enc Try.prog w base spare held 67 v d ps) :
  ∃ li sp : Int, v = .agg #[.int .i64 li, .int .i64 sp] ∧ fit li ∧ fit sp := by
 obtain ⟨cs, rfl, hsz⟩ := okWide_struct Try.underlying67 hv
 obtain ⟨l⟩ := cs
 obtain ⟨fuel, hf⟩ := h
 obtain ⟨li, sp, e, hs⟩ := Watch_of hf
 refine ⟨li, sp, ?_, hs⟩
 simp [Value.cells] at e
 rw [e]
end
end Go.Proofs.Ytibadkjdchdnjaa.LawY
-- squeezed
