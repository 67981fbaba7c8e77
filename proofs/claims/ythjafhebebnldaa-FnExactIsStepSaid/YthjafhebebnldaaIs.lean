/- FnExactIsStep returns true for every program and every step and leaves both as they were; no condition. -/
import Derived.Test.YthjafhebebnldaaRows
import Derived.Test.YthjafhebebnldaaSz
import Derived.Test.YthjafhebebnldaaEq
import Derived.Test.YthjafhebebnldaaIsStepC
import Derived.Test.YthjafhebebnldaaOpen
import Derived.Deep.RegionHeld3
namespace Go.Proofs.Ythjafhebebnldaa.fnExactIsStep
set_option linter.unusedVariables false
set_option linter.unusedSimpArgs false
open Go.ChangeShapes Go.WideShapes Go.ChangeAt Go.RowKit
open PL Mem To Sz EqP Prg PrgS OpenP IsStepC

theorem own : ownKnob Try.prog.godebug = none := by kernel_rfl
/-- The two boxes of the arguments. -/
def Bx (h n c : Nat) (A : Option Addr) (k a b : Int) (w' : World) : Prop := w'.cell? ⟨h, 0, none⟩ = some (.slice A n c) ∧ w'.cell? ⟨h + 1, 0, none⟩ = some (.int .i64 k) ∧ w'.cell? ⟨h + 1, 1, none⟩ = some (.int .i64 a) ∧ w'.cell? ⟨h + 1, 2, none⟩ = some (.int .i64 b)
theorem Bx.below {h n c : Nat} {A : Option Addr} {k a b : Int} {w w' : World} (x : Bx h n c A k a b w) {B : Nat} (hb : Below B w w') (hB : h + 2 ≤ B) : Bx h n c A k a b w' :=
  ⟨(hb.cell (p := ⟨h, 0, none⟩) (by show h < B; omega)).trans x.1, (hb.cell (p := ⟨h + 1, 0, none⟩) (by show h + 1 < B; omega)).trans x.2.1, (hb.cell (p := ⟨h + 1, 1, none⟩) (by show h + 1 < B; omega)).trans x.2.2.1, (hb.cell (p := ⟨h + 1, 2, none⟩) (by show h + 1 < B; omega)).trans x.2.2.2⟩
set_option maxHeartbeats 1000000 in
theorem walk (A : Option Addr) (c : Nat) (p : Pg) (k a b' : Int) (hn : p.length ≤ maxLen) (hsm : Small p maxLen) (w : World) (hr : RdP w w.heap.size A p) :
    Calls Try.prog 4 #[.agg #[.slice A p.length c], .agg #[.int .i64 k, .int .i64 a, .int .i64 b']] w fun e w' => e = .returned (.bool true) ∧ Below w.heap.size w w' := by
  unfold maxLen at hn hsm
  have hR := Lib.hid hr
  clear hr
  obtain ⟨n, hL⟩ : ∃ n, p.length = n := ⟨_, rfl⟩
  have hz := Lib.hid (fun W h hB => szProgram_any w.heap.size A n c p 1048576 (by omega) (by omega) (by omega) hL hsm W h hB)
  have h2 : ∀ o o' : Obj, Below w.heap.size w ((w.alloc o).alloc o') := fun o o' => ((Below.refl _ _).alloc (Nat.le_refl _) _).alloc (by simp) _
  have h3 : ∀ o o' : Obj, ((w.alloc o).alloc o').heap.size = w.heap.size + 2 := fun o o' => by simp
  by_cases hneg : szP 1048576 p < 0
  · have hs := Lib.hid (szR_neg _ _ hneg).1
    have hL' := Lib.hid hL
    have H2 := Lib.hid h2
    rw [hL]
    clear hL hneg h2 h3
    go_enter Try.func4, Try.ntmps4
    go_wp2_with fail
    refine (hz.out _ (hR.out.below (H2.out _ _)) (H2.out _ _).size).mono ?_
    rintro e w1 ⟨rfl, b1⟩
    rw [szP, hs.out]
    go_wp2_with fail
    go_ret
    exact ⟨rfl, (H2.out _ _).trans (b1.mono (H2.out _ _).size)⟩
  · obtain ⟨hs1, hs2⟩ := szP_small hneg
    rw [hL] at hs1 hn
    have hT := Lib.hid (fun W h hB => toProgram_any w.heap.size A n c p (by omega) hL (hs2.mono (by omega)) W h hB)
    have hS := Lib.hid (fun B A' c' W h hB => specIsStep B A' n c' p k a b' (by omega) hL (hs2.mono (by omega)) W h hB)
    have hI := Lib.hid (fun B A' c' W h hB => implIsStep B A' n c' p k a b' (by omega) hL (hs2.mono (by omega)) W h hB)
    have hE := Lib.hid (fun B A' A'' c' c'' W h h' hB => eqProgram_same B A' A'' n c' c'' p (by omega) hL (hs2.mono (by omega)) W h h' hB)
    have hL' := Lib.hid hL
    have H2 := Lib.hid h2
    have H3 := Lib.hid h3
    rw [hL]
    clear hL hs2 hsm h2 h3
    have hbb : ∀ b : Bool, (b != b) = false := fun b => by simp
    go_enter Try.func4, Try.ntmps4
    go_wp2_with fail
    refine (hz.out _ (hR.out.below (H2.out _ _)) (H2.out _ _).size).mono ?_
    rintro e w1 ⟨rfl, b1⟩
    have bb1 : Below w.heap.size w w1 := (H2.out _ _).trans (b1.mono (H2.out _ _).size)
    have X0 : Bx w.heap.size n c A k a b' ((w.alloc (.cells #[.slice A n c] 24)).alloc (.cells #[.int .i64 k, .int .i64 a, .int .i64 b'] 34)) := ⟨by simp [go_sem], by simp [go_sem], by simp [go_sem], by simp [go_sem]⟩
    have X1 := Lib.hid (X0.below b1 (by rw [H3.out]; omega))
    clear X0
    have s1 : w.heap.size + 2 ≤ w1.heap.size := by have := b1.size; rwa [H3.out] at this
    clear b1
    generalize szP 1048576 p = z at *
    generalize (okProg p && okStep n (k, a, b')) = q1 at *
    generalize okProg p = q2 at *
    have hT1 := Lib.hid (fun (W : World) (b : Below w1.heap.size w1 W) => (hT.out W (hR.out.below (bb1.trans (b.mono bb1.size))) (Nat.le_trans bb1.size b.size)).mono (fun e w' (h : ∃ g, e = Ending.returned (.agg #[.slice (some ⟨g, 0, none⟩) n n]) ∧ OwnP w' W.heap.size (.slice (some ⟨g, 0, none⟩) n n) p ∧ Below W.heap.size W w') =>
      show ∃ g, e = Ending.returned (.agg #[.slice (some ⟨g, 0, none⟩) n n]) ∧ OwnP w' w1.heap.size (.slice (some ⟨g, 0, none⟩) n n) p ∧ Below w1.heap.size w1 w' ∧ Below W.heap.size W w' from
      let ⟨g, he, ho, hb⟩ := h; ⟨g, he, ho.mono b.size, b.trans (hb.mono b.size), hb⟩))
    have hU1 := Lib.hid (fun (W : World) (b : Below w1.heap.size w1 W) => (toStep_any k a b' W).mono (fun e w' h => show e = Ending.returned (.agg #[.int .i64 k, .int .i64 a, .int .i64 b']) ∧ Below w1.heap.size w1 w' ∧ Below W.heap.size W w' from ⟨h.1, b.trans (h.2.mono b.size), h.2⟩))
    have hS1 := Lib.hid (fun (W W' : World) (g : Nat) (o : OwnP W w1.heap.size (.slice (some ⟨g, 0, none⟩) n n) p) (cb : Below W.heap.size W W') (b : Below w1.heap.size w1 W') => (hS.out W'.heap.size (some ⟨g, 0, none⟩) n W' (o.below cb).rd (Nat.le_refl _)).mono (fun e w' h => show e = Ending.returned (.tuple #[.bool q1, .bool q2]) ∧ Below w1.heap.size w1 w' from ⟨h.1, b.trans (h.2.mono b.size)⟩))
    have hI1 := Lib.hid (fun (W W' : World) (g : Nat) (o : OwnP W w1.heap.size (.slice (some ⟨g, 0, none⟩) n n) p) (cb : Below W.heap.size W W') (b : Below w1.heap.size w1 W') => (hI.out W'.heap.size (some ⟨g, 0, none⟩) n W' (o.below cb).rd (Nat.le_refl _)).mono (fun e w' h => show e = Ending.returned (.tuple #[.bool q1, .bool q2]) ∧ Below w1.heap.size w1 w' ∧ Below W'.heap.size W' w' from ⟨h.1, b.trans (h.2.mono b.size), h.2⟩))
    have hX1 := Lib.hid (fun (W : World) (b : Below w1.heap.size w1 W) => X1.out.below b s1)
    have bD : Below w1.heap.size w1 w1.drew := (Below.refl _ _).drew
    obtain ⟨x1, x2, x3, x4⟩ := X1.out
    go_wp2_with fail
    go_region_held3 (fun w' => w'.cell? ⟨w.heap.size, 0, none⟩ = some (.slice A n c) ∧ w'.cell? ⟨w.heap.size + 1, 0, none⟩ = some (.int .i64 k) ∧ w'.cell? ⟨w.heap.size + 1, 1, none⟩ = some (.int .i64 a) ∧ w'.cell? ⟨w.heap.size + 1, 2, none⟩ = some (.int .i64 b'))
      (first | exact ⟨x1, x2, x3, x4⟩ | (refine hX1.out _ ?_; assumption))
      (first | (go_at_call 15; refine (hT1.out _ ?_).mono ?_; assumption; rintro e wT ⟨gx, rfl, oT, bT, cT⟩; have dT := Below.refl wT.heap.size wT) | (go_at_call 19; refine (hU1.out _ ?_).mono ?_; assumption; rintro e wU ⟨rfl, bU, cU⟩) | (go_at_call 18; refine (hS1.out wT _ gx oT ?_ ?_).mono ?_; assumption; assumption; rintro e wS ⟨rfl, bS⟩))
    all_goals
      go_wp2_with fail
      have y1 := (hX1.out wS bS).1
      clear x1 x2 x3 x4
      go_wp2_with fail
      refine (hT1.out _ bS).mono ?_
      rintro e w4 ⟨gy, rfl, o4, b4, c4⟩
      have bA : ∀ o, Below w1.heap.size w1 (w4.alloc o) := fun o => b4.alloc b4.size o
      have cA : ∀ o, Below w4.heap.size w4 (w4.alloc o) := fun o => (Below.refl _ _).alloc (Nat.le_refl _) o
      have s4 : w.heap.size + 2 ≤ w4.heap.size := Nat.le_trans s1 b4.size
      have O4 := Lib.hid o4
      have bA' := bA (.cells #[.slice (some ⟨gy, 0, none⟩) n n] 29)
      have cA' := cA (.cells #[.slice (some ⟨gy, 0, none⟩) n n] 29)
      obtain ⟨x1, x2, x3, x4⟩ := hX1.out _ bA'
      have x5 : (w4.alloc (.cells #[.slice (some ⟨gy, 0, none⟩) n n] 29)).cell? ⟨w4.heap.size, 0, none⟩ = some (.slice (some ⟨gy, 0, none⟩) n n) := by simp [go_sem]
      generalize hw5 : w4.alloc (.cells #[.slice (some ⟨gy, 0, none⟩) n n] 29) = w5 at *
      have s5 : w4.heap.size + 1 ≤ w5.heap.size := by rw [← hw5]; simp
      have HW := Lib.hid hw5
      clear hw5 bA cA
      have hU5 := Lib.hid (fun (W : World) (b : Below w5.heap.size w5 W) => (toStep_any k a b' W).mono (fun e w' h => show e = Ending.returned (.agg #[.int .i64 k, .int .i64 a, .int .i64 b']) ∧ Below w5.heap.size w5 w' from ⟨h.1, b.trans (h.2.mono b.size)⟩))
      have hI5 := Lib.hid (fun (W : World) (b : Below w5.heap.size w5 W) => (hI.out W.heap.size (some ⟨gy, 0, none⟩) n W ((O4.out.below cA').below b).rd (Nat.le_refl _)).mono (fun e w' h => show e = Ending.returned (.tuple #[.bool q1, .bool q2]) ∧ Below w5.heap.size w5 w' from ⟨h.1, b.trans (h.2.mono b.size)⟩))
      have hT5 := Lib.hid (fun (W : World) (b : Below w5.heap.size w5 W) => (hT1.out W (bA'.trans (b.mono bA'.size))).mono (fun e w' (h : ∃ g, e = Ending.returned (.agg #[.slice (some ⟨g, 0, none⟩) n n]) ∧ OwnP w' w1.heap.size (.slice (some ⟨g, 0, none⟩) n n) p ∧ Below w1.heap.size w1 w' ∧ Below W.heap.size W w') =>
        show ∃ g, e = Ending.returned (.agg #[.slice (some ⟨g, 0, none⟩) n n]) ∧ OwnP w' w1.heap.size (.slice (some ⟨g, 0, none⟩) n n) p ∧ Below w5.heap.size w5 w' from
        let ⟨g, he, ho, _, hb⟩ := h; ⟨g, he, ho, b.trans (hb.mono b.size)⟩))
      have hE5 := Lib.hid (fun (W : World) (g : Nat) (o : OwnP W w1.heap.size (.slice (some ⟨g, 0, none⟩) n n) p) (b : Below w5.heap.size w5 W) => (hE.out W.heap.size (some ⟨gy, 0, none⟩) (some ⟨g, 0, none⟩) n n W ((O4.out.below cA').below b).rd o.rd (Nat.le_refl _)).mono (fun e w' h => show e = Ending.returned (.bool true) ∧ Below w5.heap.size w5 w' from ⟨h.1, b.trans (h.2.mono b.size)⟩))
      have hX5 := Lib.hid (fun (W : World) (b : Below w5.heap.size w5 W) => show W.cell? ⟨w4.heap.size, 0, none⟩ = some (.slice (some ⟨gy, 0, none⟩) n n) ∧ W.cell? ⟨w.heap.size, 0, none⟩ = some (.slice A n c) ∧ W.cell? ⟨w.heap.size + 1, 0, none⟩ = some (.int .i64 k) ∧ W.cell? ⟨w.heap.size + 1, 1, none⟩ = some (.int .i64 a) ∧ W.cell? ⟨w.heap.size + 1, 2, none⟩ = some (.int .i64 b') from ⟨(b.cell (p := ⟨w4.heap.size, 0, none⟩) (by show w4.heap.size < w5.heap.size; omega)).trans x5, X1.out.below (bA'.trans (b.mono bA'.size)) s1⟩)
      have bD5 : Below w5.heap.size w5 w5.drew := (Below.refl _ _).drew
      have hfin : Hid (∀ W, Below w5.heap.size w5 W → Below w.heap.size w W) := Lib.hid (fun W b => bb1.trans ((bA'.trans (b.mono bA'.size)).mono bb1.size))
      go_wp2_with fail
      rw [HW.out]
      go_region_held3 (fun w' => w'.cell? ⟨w4.heap.size, 0, none⟩ = some (.slice (some ⟨gy, 0, none⟩) n n) ∧ w'.cell? ⟨w.heap.size, 0, none⟩ = some (.slice A n c) ∧ w'.cell? ⟨w.heap.size + 1, 0, none⟩ = some (.int .i64 k) ∧ w'.cell? ⟨w.heap.size + 1, 1, none⟩ = some (.int .i64 a) ∧ w'.cell? ⟨w.heap.size + 1, 2, none⟩ = some (.int .i64 b'))
        (first | exact ⟨x5, x1, x2, x3, x4⟩ | (refine hX5.out _ ?_; assumption))
        (first | (go_at_call 19; refine (hU5.out _ ?_).mono ?_; assumption; rintro e wU ⟨rfl, bU⟩) | (go_at_call 20; refine (hI5.out _ ?_).mono ?_; assumption; rintro e wI ⟨rfl, bI⟩))
      clear x1 x2 x3 x4 x5
      obtain ⟨x5, x1, x2, x3, x4⟩ := hX5.out wI bI
      have bE : Below w5.heap.size w5 wI.drew := bI.drew
      go_wp2_with fail
      go_region_held3 (fun w' => w'.cell? ⟨w4.heap.size, 0, none⟩ = some (.slice (some ⟨gy, 0, none⟩) n n) ∧ w'.cell? ⟨w.heap.size, 0, none⟩ = some (.slice A n c) ∧ w'.cell? ⟨w.heap.size + 1, 0, none⟩ = some (.int .i64 k) ∧ w'.cell? ⟨w.heap.size + 1, 1, none⟩ = some (.int .i64 a) ∧ w'.cell? ⟨w.heap.size + 1, 2, none⟩ = some (.int .i64 b'))
        (first | exact ⟨x5, x1, x2, x3, x4⟩ | (refine hX5.out _ ?_; assumption))
        (first | (go_at_call 15; refine (hT5.out _ ?_).mono ?_; assumption; rintro e wT2 ⟨gz, rfl, oT2, bT2⟩) | (go_at_call 17; refine (hE5.out _ gz oT2 ?_).mono ?_; assumption; rintro e wE ⟨rfl, bE2⟩))
      go_wp2_with fail
      go_ret
      exact ⟨rfl, hfin.out _ bE2⟩
/-! ### The row's step. -/
set_option maxRecDepth 100000 in
theorem lifted (os : Os) (started : os.Started) (H : Type) (enc : TypeId × Value → H) :
    ReturnsInHanded {} Try.checked os 4 .any (Rows.fnExactIsStepSpec.pre6 enc Try.prog Try.f4 Rows.fnExactIsStepRow.domain false) (Rows.fnExactIsStepSpec.post enc Try.prog Try.f4 false true false false) := by
  refine returnsInHanded_of_change (C := Try.checked) own started (by kernel_rfl) Try.func4
    (ChangeSpec.witness6 (enc := enc) (C := Try.checked) false ⟨#[], #[.agg #[.slice none 0 0], .agg #[.int .i64 0, .int .i64 0, .int .i64 0]], []⟩ 8 (by kernel_rfl) (by kernel_rfl) (by kernel_rfl) (by kernel_rfl)) ?_
  intro W base args ds gs before hval0 hW hcnd _
  have hval : ∀ (j : Nat) t v, Try.f4.params[j]? = some t → args[j]? = some v → Value.okWide Try.prog W .any base t v := hval0
  have hW' := hW
  obtain ⟨p, q, hA0, hV, rfl, hfz, hnd⟩ := hW
  have hA : DataW.TrodAll enc Try.prog W 0 (fun _ => true) true Try.f4.params.toList args.toList ds p := hA0
  rw [Try.params4] at hA hval
  obtain ⟨v0, vs0, d0, ds0, p0, q0, hargs, rfl, rfl, h0, rest0⟩ := trodAll_cons hA
  obtain ⟨v1, vs1, d1, ds1, p1, q1, rfl, rfl, rfl, h1, rest1⟩ := trodAll_cons rest0
  obtain ⟨rfl, rfl, rfl⟩ := trodAll_nil rest1
  obtain rfl : args = #[v0, v1] := by cases args; simp_all
  obtain ⟨rfl, rfl⟩ := trodVars_none hV
  obtain ⟨A0, c0, P0, rfl, n0, r0, f0, s0⟩ := open_prog (hval 0 24 v0 rfl rfl) h0
  obtain ⟨k1, a1, b1, rfl, f1⟩ := open_step (hval 1 34 v1 rfl rfl) h1
  have lt0 : ∀ x ∈ p0, x.block < W.heap.size := by obtain ⟨m, hm⟩ := h0; exact DataW.trod_lt m _ _ _ hm
  have lt1 : ∀ x ∈ p1, x.block < W.heap.size := by obtain ⟨m, hm⟩ := h1; exact DataW.trod_lt m _ _ _ hm
  clear hA0 hval0
  refine (walk A0 c0 P0 k1 a1 b1 n0 s0 W r0).mono fun e W' ⟨he, hg⟩ => ?_
  subst he
  exact ⟨_, rfl, _, _, _, [], _, [], hW', trodAll_mk1 (shut_bool Try.underlying4 _), (trodAll_cons_mk (Below.trod laidOut (by kernel_rfl) (of_decide_eq_true (by kernel_rfl)) h0 hg lt0) (trodAll_cons_mk (Below.trod laidOut (by kernel_rfl) (of_decide_eq_true (by kernel_rfl)) h1 hg lt1) trodAll_mk0)), rfl, hg.frame _, fun h => by cases h⟩

theorem over : Rows.fnExactIsStepRow.holds Try.pinned (OpenSpec.ofChange Rows.fnExactIsStepSpec) :=
  OpenClaim.holds_of_wide 4 Try.f4 rfl rfl rfl rfl rfl rfl rfl ⟨rfl, rfl, rfl, rfl, rfl⟩ rfl rfl rfl rfl rfl (by kernel_rfl) Try.func4 (by kernel_rfl)
    (of_decide_eq_true (by kernel_rfl)) (by unfold Func.isWrapper; first | (rw [if_pos (by decide +kernel)]; kernel_rfl) | (rw [if_neg (by decide +kernel)]; exact ⟨rfl, rfl⟩))
    (fun os started H enc _ => lifted os started H enc)

/-- The statement. -/
theorem proved : Rows.FnExactIsStepSaid :=
  over
#print axioms proved
end Go.Proofs.Ythjafhebebnldaa.fnExactIsStep
