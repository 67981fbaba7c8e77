/- FnExactSplitString returns true for every two strings and leaves both as they were; no condition. -/
import Derived.Test.YtlcgfohljkcngaaRows
import Derived.WalkKit
import Derived.ProofKit
import Derived.OpenShut
import Derived.ShutString
import Derived.Test.YtlcgfohljkcngaaMarks
import Derived.Test.YtlcgfohljkcngaaSplitIm
namespace Go.Proofs.Ytlcgfohljkcngaa.fnExactSplitString
open Go.ChangeShapes Go.WideShapes Go.ChangeAt Go.RowKit
open Go.ChangeMaps (open_string shut_string)
open Marks SplitIm SplitPlain
set_option linter.unusedVariables false      -- a walk need not use every 'w<i>' (that an integer argument fits its kind)

theorem own : ownKnob Try.prog.godebug = none := by kernel_rfl

theorem slice_of {e : Ending} {w w' : World} {N : Nat} {l : List Value} (hN : 0 < N) (h : ∃ v, e = .returned (.tuple #[v, .bool true]) ∧ w'.ownsRow w.heap.size 9 1 v N l ∧ Below w.heap.size w w') :
    ∃ g cap, e = .returned (.tuple #[.slice (some ⟨g, 0, none⟩) N cap, .bool true]) ∧ w'.ownsRow w.heap.size 9 1 (.slice (some ⟨g, 0, none⟩) N cap) N l ∧ Below w.heap.size w w' := by
  obtain ⟨v, he, ho, hb⟩ := h
  rcases form ho with ⟨h0, _⟩ | ⟨_, g, cap, rfl, _⟩
  · omega
  · exact ⟨g, cap, he, ho, hb⟩
theorem cells_of {w : World} {B N g cap : Nat} {xs : List ByteArray} (h : w.ownsRow B 9 1 (.slice (some ⟨g, 0, none⟩) N cap) N (xs.map Value.string)) : ∀ j x, xs[j]? = some x → w.cell? ⟨g, j, none⟩ = some (.string x) := by
  intro j x hx
  have hl : xs.length = N := by have := h.1; simpa using this
  have hj : j < xs.length := (List.getElem?_eq_some_iff.1 hx).1
  rw [h.cellAt j (by omega), List.getElem?_map, hx]
  rfl
theorem own_drew {w : World} {B n : Nat} {v : Value} {l : List Value} (h : w.ownsRow B 9 1 v n l) (q : Nat) : (w.drewN q).ownsRow B 9 1 v n l := h
theorem below_undrew {w w' : World} {B q : Nat} (h : Below B (w.drewN q) w') : Below B w w' := ⟨h.os, h.tape, h.output, h.size, h.block⟩

/-! ### STEP 1: THE WALK: the Go text returns true. 'Grown w w'': the world has at most new blocks (Derived/RowKit3.lean). Part the cases AHEAD of 'go_enter' where a test parts the walk; take each callee by a contract of your own. -/
set_option maxHeartbeats 2000000 in
theorem walk (a0 : ByteArray) (a1 : ByteArray) (w0 : a0.size ≤ maxLen) (w1 : a1.size ≤ maxLen) (w : World) :
    Calls Try.prog 4 #[.string a0, .string a1] w fun e w' => e = .returned (.bool true) ∧ Below w.heap.size w w' := by
  unfold maxLen at w0 w1
  by_cases hb : 1048576 < a0.size
  · go_enter Try.func4, Try.ntmps4
    go_wp2
    go_ret
    exact ⟨rfl, Below.refl _ _⟩
  by_cases hb2 : 1048576 < a1.size
  · go_enter Try.func4, Try.ntmps4
    go_wp2
    go_ret
    exact ⟨rfl, Below.refl _ _⟩
  have hs : a0.size ≤ 1048576 := by omega
  have hs2 : a1.size ≤ 1048576 := by omega
  clear hb hb2
  by_cases hg : 4000 < a0.size ∨ a1.size ≠ 1
  · have hI := Lib.hid (fun w => implBad a0 a1 hs hg w)
    have hS := Lib.hid (fun w => specBad a0 a1 hs hg w)
    have hM := Lib.hid markS_none
    have hH := Lib.hid heldS_none
    have hE := Lib.hid eqS_none
    clear hg
    go_enter Try.func4, Try.ntmps4
    go_wp2_with fail
    refine (hS.out _).mono ?_
    rintro e w1 ⟨rfl, b1⟩
    go_wp2_with fail
    refine (hI.out _).mono ?_
    rintro e w2 ⟨rfl, b2⟩
    go_wp2_with fail
    refine (hE.out _ _ _ _ _).mono ?_
    rintro e w3 ⟨rfl, rfl⟩
    go_wp2_with fail
    refine (hM.out _ _ 1 _).mono ?_
    rintro e w3 ⟨rfl, rfl⟩
    go_wp2_with fail
    refine (hH.out _ _ 1 _).mono ?_
    rintro e w3 ⟨rfl, rfl⟩
    go_wp2_with fail
    refine (hI.out _).mono ?_
    rintro e w4 ⟨rfl, b4⟩
    go_wp2_with fail
    refine (hE.out _ _ _ _ _).mono ?_
    rintro e w3 ⟨rfl, rfl⟩
    go_wp2_with fail
    refine (hH.out _ _ 1 _).mono ?_
    rintro e w3 ⟨rfl, rfl⟩
    go_wp2_with fail
    go_ret
    exact ⟨rfl, (b1.trans (b2.mono b1.size)).trans (b4.mono (Nat.le_trans b1.size b2.size))⟩
  · have g1 : a0.size ≤ 4000 := by omega
    have g2 : a1.size = 1 := by omega
    have hI0 := fun w => implGood a0 a1 g1 (by omega) (by omega) _ rfl w
    have hS0 := fun w => specGood a0 a1 g1 (by omega) (by omega) _ rfl w
    have hn1 : 0 < (parts a0 (a1[0]'(by omega))).length := by unfold parts; simp
    have hn2 : (parts a0 (a1[0]'(by omega))).length ≤ 5000 := by
      have := count_le a0 (a1[0]'(by omega)) a0.size
      unfold parts; simp; omega
    generalize parts a0 (a1[0]'(by omega)) = xs at *
    obtain ⟨N, hN⟩ : ∃ N, xs.length = N := ⟨_, rfl⟩
    rw [hN] at hI0 hS0 hn1 hn2
    have hI := Lib.hid (fun w => (hI0 w).mono fun e w' h => slice_of hn1 h)
    have hS := Lib.hid (fun w => (hS0 w).mono fun e w' h => slice_of hn1 h)
    have hL := Lib.hid hN
    clear hI0 hS0 hg hN g1 g2
    go_enter Try.func4, Try.ntmps4
    go_wp2_with fail
    refine (hS.out _).mono ?_
    rintro e w1 ⟨gu, cu, rfl, o1, b1⟩
    have lu := (o1.lt gu rfl).2
    have C1 := Lib.hid (cells_of o1)
    clear o1
    go_wp2_with fail
    refine (hI.out _).mono ?_
    rintro e w2 ⟨gv, cv, rfl, o2, b2⟩
    have s2 := b2.size
    have s1 := b1.size
    have C2 := Lib.hid (cells_of o2)
    have O2 := Lib.hid o2
    clear o2
    have D1 : Hid (∀ j x, xs[j]? = some x → w2.cell? ⟨gu, j, none⟩ = some (.string x)) := Lib.hid (fun j x h => (b2.cell (p := ⟨gu, j, none⟩) lu).trans (C1.out j x h))
    go_wp2_with fail
    refine (eqS_some gv gu N cv cu xs (by omega) hL.out _ C2.out D1.out).mono ?_
    rintro e w3 ⟨rfl, q, rfl⟩
    go_wp2_with fail
    refine (markS_some w1.heap.size gv N cv 1 _ (Nat.le_refl _) (by omega) _ (own_drew O2.out q) (by show w1.heap.size ≤ w2.heap.size; omega)).mono ?_
    rintro e w3 ⟨rfl, o3, b3⟩
    have O3 := Lib.hid o3
    clear o3
    have s3 : w2.heap.size ≤ w3.heap.size := b3.size
    have D3 : Hid (∀ j x, xs[j]? = some x → w3.cell? ⟨gu, j, none⟩ = some (.string x)) := Lib.hid (fun j x h => (b3.cell (p := ⟨gu, j, none⟩) lu).trans (D1.out j x h))
    go_wp2_with fail
    refine (heldS_some w1.heap.size gv N cv 1 (Nat.le_refl _) (by omega) _ O3.out).mono ?_
    rintro e w4 ⟨rfl, b4⟩
    have s4 := b4.size
    have O4 := Lib.hid (own_below O3.out b4)
    have D4 : Hid (∀ j x, xs[j]? = some x → w4.cell? ⟨gu, j, none⟩ = some (.string x)) := Lib.hid (fun j x h => (b4.cell (p := ⟨gu, j, none⟩) (by show gu < w3.heap.size; omega)).trans (D3.out j x h))
    go_wp2_with fail
    refine (hI.out _).mono ?_
    rintro e w5 ⟨gh, ch, rfl, o5, b5⟩
    have s5 := b5.size
    have C5 := Lib.hid (cells_of o5)
    clear o5
    have O5 := Lib.hid (own_below O4.out b5)
    have D5 : Hid (∀ j x, xs[j]? = some x → w5.cell? ⟨gu, j, none⟩ = some (.string x)) := Lib.hid (fun j x h => (b5.cell (p := ⟨gu, j, none⟩) (by show gu < w4.heap.size; omega)).trans (D4.out j x h))
    go_wp2_with fail
    refine (eqS_some gh gu N ch cu xs (by omega) hL.out _ C5.out D5.out).mono ?_
    rintro e w6 ⟨rfl, q2, rfl⟩
    go_wp2_with fail
    refine (heldS_some w1.heap.size gv N cv 1 (Nat.le_refl _) (by omega) _ (own_drew O5.out q2)).mono ?_
    rintro e w7 ⟨rfl, b7⟩
    go_wp2_with fail
    go_ret
    refine ⟨rfl, ?_⟩
    have z3 : Below w1.heap.size w2 w3 := below_undrew b3
    have z7 : Below w5.heap.size w5 w7 := below_undrew b7
    exact ((((b1.trans (b2.mono s1)).trans (z3.mono s1)).trans (b4.mono (by omega))).trans (b5.mono (by omega))).trans (z7.mono (by omega))

/-! ### THE ROW's STEP: WRITTEN OUT: LEAVE IT -/
set_option maxRecDepth 100000 in
theorem lifted (os : Os) (started : os.Started) (H : Type) (enc : TypeId × Value → H) :
    ReturnsInHanded {} Try.checked os 4 .any (Rows.fnExactSplitStringSpec.pre6 enc Try.prog Try.f4 Rows.fnExactSplitStringRow.domain false) (Rows.fnExactSplitStringSpec.post enc Try.prog Try.f4 false true false false) := by
  refine returnsInHanded_of_change (C := Try.checked) own started (by kernel_rfl) Try.func4
    (ChangeSpec.witness6 (enc := enc) (C := Try.checked) false ⟨#[], #[.string ByteArray.empty, .string ByteArray.empty], []⟩ 8 (by kernel_rfl) (by kernel_rfl) (by kernel_rfl) (by kernel_rfl)) ?_
  intro W base args ds gs before hval0 hW hcnd _
  have hval : ∀ (j : Nat) t v, Try.f4.params[j]? = some t → args[j]? = some v → Value.okWide Try.prog W .any base t v := hval0
  have hW' := hW
  obtain ⟨p, q, hA0, hV, rfl, hfz, hnd⟩ := hW
  have hA : DataW.TrodAll enc Try.prog W 0 (fun _ => true) true Try.f4.params.toList args.toList ds p := hA0
  rw [Try.params4] at hA hval
  obtain ⟨v0, vs0, d0, ds0, p0, q0, hargs, rfl, rfl, h0, r0⟩ := trodAll_cons hA
  obtain ⟨v1, vs1, d1, ds1, p1, q1, rfl, rfl, rfl, h1, r1⟩ := trodAll_cons r0
  obtain ⟨rfl, rfl, rfl⟩ := trodAll_nil r1
  obtain rfl : args = #[v0, v1] := by cases args; simp_all
  obtain ⟨rfl, rfl⟩ := trodVars_none hV
  obtain ⟨a0, rfl, rfl, rfl, w0⟩ := open_string Try.underlying9 (hval 0 9 v0 rfl rfl) h0
  obtain ⟨a1, rfl, rfl, rfl, w1⟩ := open_string Try.underlying9 (hval 1 9 v1 rfl rfl) h1
  clear hA0 hval0
  refine (walk a0 a1 w0 w1 W).mono fun e W' ⟨he, hg⟩ => ?_
  subst he
  exact ⟨_, rfl, _, _, _, [], [], [], hW', trodAll_mk1 (shut_bool Try.underlying4 _), (trodAll_cons_mk (shut_string Try.underlying9 w0) (trodAll_cons_mk (shut_string Try.underlying9 w1) trodAll_mk0)), rfl, hg.frame _, fun h => by cases h⟩

theorem over : Rows.fnExactSplitStringRow.holds Try.pinned (OpenSpec.ofChange Rows.fnExactSplitStringSpec) :=
  OpenClaim.holds_of_wide 4 Try.f4 rfl rfl rfl rfl rfl rfl rfl ⟨rfl, rfl, rfl, rfl, rfl⟩ rfl rfl rfl rfl rfl (by kernel_rfl) Try.func4 (by kernel_rfl)
    (of_decide_eq_true (by kernel_rfl)) (by unfold Func.isWrapper; first | (rw [if_pos (by decide +kernel)]; kernel_rfl) | (rw [if_neg (by decide +kernel)]; exact ⟨rfl, rfl⟩))
    (fun os started H enc _ => lifted os started H enc)

/-- ████ THE STATEMENT ████ -/
theorem proved : Rows.FnExactSplitStringSaid :=
  over
#print axioms proved
end Go.Proofs.Ytlcgfohljkcngaa.fnExactSplitString
