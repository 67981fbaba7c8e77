import Derived.Test.YtibadkjdchdnjaaRows
import Derived.Test.YtibadkjdchdnjaaLawY
import Derived.Test.YtibadkjdchdnjaaKpw
set_option linter.all false
namespace Go.Proofs.Ytibadkjdchdnjaa.fnExactIsPolicy
open Lib (hid)
open Go.ChangeShapes Go.WideShapes Go.ChangeAt Go.RowKit
open PL Mem Sst IntsP LawI OpenP LawY Kpp Kpw
theorem own : ownKnob Try.prog.godebug = none := by kernel_rfl
set_option maxHeartbeats 4000000 in
set_option maxRecDepth 100000 in
theorem walk (t wa fa mo : Int) (w : World) :
  Calls Try.prog 3 #[.agg #[.int .i64 t, .int .i64 wa, .int .i64 fa, .int .i64 mo]] w fun e w' => e = .returned (.bool true) ∧ Below w.heap.size w w' := by
 have hT := hid (fun W => toPolicy_any t wa fa mo W)
 have hS := hid (fun W => isPolS_any t wa fa mo W)
 have hI := hid (fun W => isPolI_any t wa fa mo W)
 generalize okPol t wa fa mo = b at *
 have hbb : (b != b) = false := by simp
 go_enter Try.func3, Try.ntmps3
 go_upto_region 1 with fail
 change (fun V => Code.wp _ _ _ _ V) _
 refine gen_world (X := fun V => Blk V w.heap.size 23 #[.int .i64 t, .int .i64 wa, .int .i64 fa, .int .i64 mo] ∧ Below w.heap.size w V ∧ w.heap.size < V.heap.size) ⟨heap1_0 w _, (Below.refl _ _).alloc (Nat.le_refl _) _, by simp⟩ ?_
 rintro w1 ⟨x1, b1, l1⟩
 have X := hid x1
 have B1 := hid b1
 have C1 := hid (Chg.refl (fun _ => False) w1)
 have zs := x1.cells
 clear x1 b1
 go_wp2_with fail
 refine (hT.out _).mono ?_
 rintro e w2 ⟨rfl, b2⟩
 have B2 := hid (B1.out.trans (b2.mono B1.out.size))
 have C2 := hid (C1.out.trans (Chg.of_below (C := fun _ => False) b2) (fun _ _ hx => hx.elim))
 clear b2
 go_wp2_with fail
 refine (hS.out _).mono ?_
 rintro e w3 ⟨rfl, b3⟩
 have B3 := hid (B2.out.trans (b3.mono B2.out.size))
 have C3 := hid (C2.out.trans (Chg.of_below (C := fun _ => False) b3) (fun _ _ hx => hx.elim))
 clear b3
 replace zs := (X.out.chg (C := fun _ => False) C3.out (fun h => h)).cells
 go_wp2_with fail
 refine (hT.out _).mono ?_
 rintro e w4 ⟨rfl, b4⟩
 have B4 := hid (B3.out.trans (b4.mono B3.out.size))
 have C4 := hid (C3.out.trans (Chg.of_below (C := fun _ => False) b4) (fun _ _ hx => hx.elim))
 clear b4
 go_wp2_with fail
 refine (hI.out _).mono ?_
 rintro e w5 ⟨rfl, b5⟩
 have B5 := hid (B4.out.trans (b5.mono B4.out.size))
 have C5 := hid (C4.out.trans (Chg.of_below (C := fun _ => False) b5) (fun _ _ hx => hx.elim))
 clear b5
 go_wp2_with fail
 go_ret
 exact ⟨rfl, B5.out⟩
set_option maxRecDepth 100000 in
theorem lifted (os : Os) (started : os.Started) (H : Type) (enc : TypeId × Value → H) :
  ReturnsInHanded {} Try.checked os 3 .any (Rows.fnExactIsPolicySpec.pre6 enc Try.prog Try.f3 Rows.fnExactIsPolicyRow.domain false) (Rows.fnExactIsPolicySpec.post enc Try.prog Try.f3 false true false false) := by
 refine returnsInHanded_of_change (C := Try.checked) own started (by kernel_rfl) Try.func3
  (ChangeSpec.witness6 (enc := enc) (C := Try.checked) false ⟨#[], #[.agg #[.int .i64 0, .int .i64 0, .int .i64 0, .int .i64 0]], []⟩ 8 (by kernel_rfl) (by kernel_rfl) (by kernel_rfl) (by kernel_rfl)) ?_
 intro W base args ds gs before hval0 hW hcnd _
 have hval : ∀ (j : Nat) t v, Try.f3.params[j]? = some t → args[j]? = some v → Value.okWide Try.prog W .any base t v := hval0
 have hW' := hW
 obtain ⟨p, q, hA0, hV, rfl, hfz, hnd⟩ := hW
 have hA : DataW.TrodAll enc Try.prog W 0 (fun _ => true) true Try.f3.params.toList args.toList ds p := hA0
 rw [Try.params3] at hA hval
 obtain ⟨v0, vs0, d0, ds0, p0, q0, hargs, rfl, rfl, h0, rest0⟩ := trodAll_cons hA
 obtain ⟨rfl, rfl, rfl⟩ := trodAll_nil rest0
 obtain rfl : args = #[v0] := by cases args; simp_all
 obtain ⟨rfl, rfl⟩ := trodVars_none hV
 obtain ⟨t0, wa0, fa0, mo0, rfl, f0⟩ := open_Policy (hval 0 23 v0 rfl rfl) h0
 have lt0 : ∀ x ∈ p0, x.block < W.heap.size := by obtain ⟨m, hm⟩ := h0; exact DataW.trod_lt m _ _ _ hm
 clear hA0 hval0
 refine (walk t0 wa0 fa0 mo0 W).mono fun e W' ⟨he, hg⟩ => ?_
 subst he
 exact ⟨_, rfl, _, _, _, [], _, [], hW', trodAll_mk1 (shut_bool Try.underlying4 _), (trodAll_cons_mk (Below.trod laidOut (by kernel_rfl) (of_decide_eq_true (by kernel_rfl)) h0 hg lt0) trodAll_mk0), rfl, hg.frame _, fun h => by cases h⟩
theorem over : Rows.fnExactIsPolicyRow.holds Try.pinned (OpenSpec.ofChange Rows.fnExactIsPolicySpec) :=
 OpenClaim.holds_of_wide 3 Try.f3 rfl rfl rfl rfl rfl rfl rfl ⟨rfl, rfl, rfl, rfl, rfl⟩ rfl rfl rfl rfl rfl (by kernel_rfl) Try.func3 (by kernel_rfl)
  (of_decide_eq_true (by kernel_rfl)) (by unfold Func.isWrapper; first | (rw [if_pos (by decide +kernel)]; kernel_rfl) | (rw [if_neg (by decide +kernel)]; exact ⟨rfl, rfl⟩))
  (fun os started H enc _ => lifted os started H enc)
theorem proved : Rows.FnExactIsPolicySaid :=
 over
#print axioms proved
end Go.Proofs.Ytibadkjdchdnjaa.fnExactIsPolicy
-- squeezed
