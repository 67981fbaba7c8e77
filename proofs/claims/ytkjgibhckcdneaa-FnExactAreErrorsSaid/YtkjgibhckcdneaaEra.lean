/- FnExactAreErrors returns true for all errors and leaves them as they were; no condition. -/
import Derived.Test.YtkjgibhckcdneaaRows
import Derived.Test.YtkjgibhckcdneaaEran
import Derived.Test.YtkjgibhckcdneaaErop
namespace Go.Proofs.Ytkjgibhckcdneaa.fnExactAreErrors
set_option linter.unusedVariables false
set_option linter.unusedSimpArgs false
open Go.ChangeShapes Go.WideShapes Go.ChangeAt Go.RowKit
open Mem IntsP ErP ErM ErT ErA OpenE

theorem own : ownKnob Try.prog.godebug = none := by kernel_rfl
set_option maxHeartbeats 1000000 in
theorem walk (A : Option Addr) (c : Nat) (p : Er) (hn : p.length ≤ maxLen) (hsm : SmallE p maxLen) (w : World) (hr : RdE w w.heap.size A p) :
    Calls Try.prog 3 #[.agg #[.slice A p.length c]] w fun e w' => e = .returned (.bool true) ∧ Below w.heap.size w w' := by
  unfold maxLen at hn hsm
  have hR := Lib.hid hr
  clear hr
  obtain ⟨n, hL⟩ : ∃ n, p.length = n := ⟨_, rfl⟩
  have hz := Lib.hid (fun W h hB => szErrors_any w.heap.size A n c p 1048576 (by omega) (by omega) (by omega) hL hsm W h hB)
  by_cases hneg : szE 1048576 p < 0
  · have hs := Lib.hid (szR_neg _ _ hneg).1
    have hL' := Lib.hid hL
    rw [hL]
    clear hL hneg
    go_enter Try.func3, Try.ntmps3
    go_wp2_with fail
    refine (hz.out _ (hR.out.below ((Below.refl _ _).alloc (Nat.le_refl _) _)) (by simp)).mono ?_
    rintro e w1 ⟨rfl, b1⟩
    rw [szE, hs.out]
    go_wp2_with fail
    go_ret
    exact ⟨rfl, ((Below.refl _ _).alloc (Nat.le_refl _) _).trans (b1.mono (by simp))⟩
  · obtain ⟨hs1, hs2⟩ := szE_small hneg
    rw [hL] at hs1 hn
    have hT := Lib.hid (fun W h hB => toErrors_any w.heap.size A n c p (by omega) hL (hs2.mono (by omega)) W h hB)
    have hS := Lib.hid (fun B A' c' W h hB => areErrorsS_any B A' n c' p (by omega) hL (hs2.mono (by omega)) W h hB)
    have hI := Lib.hid (fun B A' c' W h hB => areErrors_any B A' n c' p (by omega) hL (hs2.mono (by omega)) W h hB)
    have hE := Lib.hid (fun B A' A'' c' c'' W h h' hB => eqErrors_same B A' A'' n c' c'' p (by omega) hL (hs2.mono (by omega)) W h h' hB)
    have hL' := Lib.hid hL
    rw [hL]
    clear hL hs2 hsm
    go_enter Try.func3, Try.ntmps3
    go_wp2_with fail
    refine (hz.out _ (hR.out.below ((Below.refl _ _).alloc (Nat.le_refl _) _)) (by simp)).mono ?_
    rintro e w1 ⟨rfl, b1⟩
    have z1 := b1.size
    have k1 : w1.cell? ⟨w.heap.size, 0, none⟩ = some (.slice A n c) := (b1.cell (p := ⟨w.heap.size, 0, none⟩) (by simp)).trans (by simp [go_sem])
    have bb1 : Below w.heap.size w w1 := ((Below.refl _ _).alloc (Nat.le_refl _) _).trans (b1.mono (by simp))
    generalize szE 1048576 p = z at *
    go_wp2_with fail
    refine (hT.out _ (hR.out.below bb1) bb1.size).mono ?_
    rintro e w2 ⟨gx, rfl, o2, b2⟩
    have O2 := Lib.hid o2
    clear o2
    go_wp2_with fail
    refine (hS.out w2.heap.size _ _ _ O2.out.rd (Nat.le_refl _)).mono ?_
    rintro e w3 ⟨rfl, b3⟩
    have bb3 : Below w.heap.size w w3 := (bb1.trans (b2.mono bb1.size)).trans (b3.mono (Nat.le_trans bb1.size b2.size))
    have k3 : w3.cell? ⟨w.heap.size, 0, none⟩ = some (.slice A n c) := (b3.cell (p := ⟨w.heap.size, 0, none⟩) (by simp at z1; have := b2.size; show w.heap.size < w2.heap.size; omega)).trans ((b2.cell (p := ⟨w.heap.size, 0, none⟩) (by simp at z1; show w.heap.size < w1.heap.size; omega)).trans k1)
    go_wp2_with fail
    refine (hT.out _ (hR.out.below bb3) bb3.size).mono ?_
    rintro e w4 ⟨gy, rfl, o4, b4⟩
    have O4 := Lib.hid o4
    clear o4
    go_wp2_with fail
    have s4 : w.heap.size + 1 ≤ w4.heap.size := by simp at z1; have := b2.size; have := b3.size; have := b4.size; omega
    have bb4 : Below w.heap.size w w4 := bb3.trans (b4.mono bb3.size)
    have k4 : w4.cell? ⟨w.heap.size, 0, none⟩ = some (.slice A n c) := (b4.cell (p := ⟨w.heap.size, 0, none⟩) (by simp at z1; have := b2.size; have := b3.size; show w.heap.size < w3.heap.size; omega)).trans k3
    have R4 := Lib.hid O4.out.rd
    have a4 : ∀ o, Below w4.heap.size w4 (w4.alloc o) := fun o => (Below.refl _ _).alloc (Nat.le_refl _) o
    refine (hI.out w4.heap.size _ _ _ (R4.out.below (a4 _)) (by simp)).mono ?_
    rintro e w5 ⟨rfl, b5⟩
    have s5 : w4.heap.size + 1 ≤ w5.heap.size := by have := b5.size; simpa using this
    have bb5 : Below w4.heap.size w4 w5 := (a4 _).trans (b5.mono (by simp))
    have k5 : w5.cell? ⟨w.heap.size, 0, none⟩ = some (.slice A n c) := (bb5.cell (p := ⟨w.heap.size, 0, none⟩) (by show w.heap.size < w4.heap.size; omega)).trans k4
    have x5 : w5.cell? ⟨w4.heap.size, 0, none⟩ = some (.slice (some ⟨gy, 0, none⟩) n n) := (b5.cell (p := ⟨w4.heap.size, 0, none⟩) (by simp)).trans (by simp [go_sem])
    have cc5 : Below w.heap.size w w5 := bb4.trans (bb5.mono bb4.size)
    have hbb : (okErr p != okErr p) = false := by simp
    generalize okErr p = bb at *
    go_wp2_with fail
    have hT5 := Lib.hid (hT.out w5.drew (hR.out.below cc5.drew) cc5.size)
    have hE6 := Lib.hid (fun (w6 : World) (gz : Nat) (b6 : Below w5.drew.heap.size w5.drew w6) (o6 : Hid (OwnE w6 w5.drew.heap.size (.slice (some ⟨gz, 0, none⟩) n n) p)) =>
      hE.out w6.heap.size (some ⟨gy, 0, none⟩) (some ⟨gz, 0, none⟩) n n w6 (((R4.out.below bb5).below ((below_undrew b6).mono (Nat.le_trans (Nat.le_succ _) s5))).more (Nat.le_trans (Nat.le_trans (Nat.le_succ _) s5) b6.size)) o6.out.rd (Nat.le_refl _))
    have x6' := Lib.hid (fun (w6 : World) (b6 : Below w5.drew.heap.size w5.drew w6) => (b6.cell (p := ⟨w4.heap.size, 0, none⟩) (by show w4.heap.size < w5.heap.size; omega)).trans x5)
    go_region_with (first | (go_at_call 16; refine hT5.out.mono ?_; rintro e w6 ⟨gz, rfl, o6, b6⟩; have x6 := x6'.out _ b6; have O6 := Lib.hid o6; clear o6) | (go_at_call 18; refine (hE6.out _ _ b6 O6).mono ?_; rintro e w7 ⟨rfl, b7⟩))
    all_goals
      go_wp2_with fail
      go_ret
      exact ⟨rfl, (cc5.trans ((below_undrew b6).mono cc5.size)).trans (b7.mono (Nat.le_trans cc5.size b6.size))⟩

/-! ### The row's step. -/
set_option maxRecDepth 100000 in
theorem lifted (os : Os) (started : os.Started) (H : Type) (enc : TypeId × Value → H) :
    ReturnsInHanded {} Try.checked os 3 .any (Rows.fnExactAreErrorsSpec.pre6 enc Try.prog Try.f3 Rows.fnExactAreErrorsRow.domain false) (Rows.fnExactAreErrorsSpec.post enc Try.prog Try.f3 false true false false) := by
  refine returnsInHanded_of_change (C := Try.checked) own started (by kernel_rfl) Try.func3
    (ChangeSpec.witness6 (enc := enc) (C := Try.checked) false ⟨#[], #[.agg #[.slice none 0 0]], []⟩ 8 (by kernel_rfl) (by kernel_rfl) (by kernel_rfl) (by kernel_rfl)) ?_
  intro W base args ds gs before hval0 hW hcnd _
  have hval : ∀ (j : Nat) t v, Try.f3.params[j]? = some t → args[j]? = some v → Value.okWide Try.prog W .any base t v := hval0
  have hW' := hW
  obtain ⟨p, q, hA0, hV, rfl, hfz, hnd⟩ := hW
  have hA : DataW.TrodAll enc Try.prog W 0 (fun _ => true) true Try.f3.params.toList args.toList ds p := hA0
  rw [Try.params3] at hA hval
  obtain ⟨v0, vs0, d0, ds0, p0, q0, hargs, rfl, rfl, h0, r0⟩ := trodAll_cons hA
  obtain ⟨rfl, rfl, rfl⟩ := trodAll_nil r0
  obtain rfl : args = #[v0] := by cases args; simp_all
  obtain ⟨rfl, rfl⟩ := trodVars_none hV
  obtain ⟨A, c, P0, rfl, hn, hr, _, hsm⟩ := open_errs (hval 0 24 v0 rfl rfl) h0
  have lt0 : ∀ x ∈ p0, x.block < W.heap.size := by obtain ⟨m, hm⟩ := h0; exact DataW.trod_lt m _ _ _ hm
  clear hA0 hval0
  refine (walk A c P0 hn hsm W hr).mono fun e W' ⟨he, hg⟩ => ?_
  subst he
  exact ⟨_, rfl, _, _, _, [], _, [], hW', trodAll_mk1 (shut_bool Try.underlying4 _), (trodAll_cons_mk (Below.trod laidOut (by kernel_rfl) (of_decide_eq_true (by kernel_rfl)) h0 hg lt0) trodAll_mk0), rfl, hg.frame _, fun h => by cases h⟩

theorem over : Rows.fnExactAreErrorsRow.holds Try.pinned (OpenSpec.ofChange Rows.fnExactAreErrorsSpec) :=
  OpenClaim.holds_of_wide 3 Try.f3 rfl rfl rfl rfl rfl rfl rfl ⟨rfl, rfl, rfl, rfl, rfl⟩ rfl rfl rfl rfl rfl (by kernel_rfl) Try.func3 (by kernel_rfl)
    (of_decide_eq_true (by kernel_rfl)) (by unfold Func.isWrapper; first | (rw [if_pos (by decide +kernel)]; kernel_rfl) | (rw [if_neg (by decide +kernel)]; exact ⟨rfl, rfl⟩))
    (fun os started H enc _ => lifted os started H enc)

/-- The statement. -/
theorem proved : Rows.FnExactAreErrorsSaid :=
  over
#print axioms proved
end Go.Proofs.Ytkjgibhckcdneaa.fnExactAreErrors
