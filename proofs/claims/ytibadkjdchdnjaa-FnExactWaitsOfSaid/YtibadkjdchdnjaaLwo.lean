import Derived.Test.YtibadkjdchdnjaaRows
import Derived.Test.YtibadkjdchdnjaaLawY
import Derived.Test.YtibadkjdchdnjaaKpw
set_option linter.all false
namespace Go.Proofs.Ytibadkjdchdnjaa.fnExactWaitsOf
open Lib (hid)
open Go.ChangeShapes Go.WideShapes Go.ChangeAt Go.RowKit
open PL Mem Sst IntsP LawI OpenP LawY Kpp Kpw
theorem own : ownKnob Try.prog.godebug = none := by kernel_rfl
set_option maxHeartbeats 4000000 in
set_option maxRecDepth 100000 in
theorem walk (t wa fa mo : Int) (w : World) :
  Calls Try.prog 4 #[.agg #[.int .i64 t, .int .i64 wa, .int .i64 fa, .int .i64 mo]] w fun e w' => e = .returned (.bool true) ∧ Below w.heap.size w w' := by
 have hT := hid (fun W => toPolicy_any t wa fa mo W)
 have hS := fun W => waitsS_any t wa fa mo W
 have hI := fun W => waitsI_any t wa fa mo W
 have hft := waitsR_len t wa fa mo
 generalize waitsR t wa fa mo = r at hS hI hft
 obtain ⟨q, k0⟩ := r
 dsimp only at hft
 obtain ⟨m, hm⟩ : ∃ m, q.length = m := ⟨_, rfl⟩
 have hEq := hid (fun B A' A'' c' c'' W h h' hB => eqIntS_same B A' A'' m c' c'' q (by omega) hm W h h' hB)
 have hMq := hid (fun B c' A' W h => markIntS_any B m c' A' q 1 (by omega) hm (by omega) (by omega) W h)
 have hHq := hid (fun B c' A' W h => heldIntS_any B m c' A' 1 (by omega) (by omega) (by omega) W h)
 have HS := hid (fun W => (hS W).mono fun e w' (h' : IntsR (q, k0) W e w') => by obtain ⟨x, y, h1, h2, h3⟩ := h'; simp only [hm] at h1 h2; exact (show ∃ Aw cw, e = .returned (.tuple #[.slice Aw m cw, .bool k0]) ∧ OwnI w' W.heap.size (.slice Aw m cw) q ∧ Below W.heap.size W w' from ⟨x, y, h1, h2, h3⟩))
 have HI := hid (fun W => (hI W).mono fun e w' (h' : IntsR (q, k0) W e w') => by obtain ⟨x, y, h1, h2, h3⟩ := h'; simp only [hm] at h1 h2; exact (show ∃ Aw cw, e = .returned (.tuple #[.slice Aw m cw, .bool k0]) ∧ OwnI w' W.heap.size (.slice Aw m cw) q ∧ Below W.heap.size W w' from ⟨x, y, h1, h2, h3⟩))
 have HM := hid hm
 unfold MarkedI at hMq
 have hkq : ¬ (1 + (m : Int)) < 0 := by omega
 generalize 1 + (m : Int) = kq at *
 have hbb : (k0 != k0) = false := by simp
 clear hS hI hft hm
 go_enter Try.func4, Try.ntmps4
 go_upto_region 1 with fail
 change (fun V => Code.wp _ _ _ _ V) _
 refine gen_world (X := fun V => Blk V w.heap.size 23 #[.int .i64 t, .int .i64 wa, .int .i64 fa, .int .i64 mo] ∧ Below w.heap.size w V ∧ w.heap.size < V.heap.size) ⟨heap1_0 w _, (Below.refl _ _).alloc (Nat.le_refl _) _, by simp⟩ ?_
 rintro w1 ⟨x1, b1, l1⟩
 have X := hid x1
 have B1 := hid b1
 have C1 := hid (Chg.refl (fun _ => False) w1)
 have zs := x1.cells
 clear x1 b1
 go_wp2_with fail
 refine (hT.out _).mono ?_
 rintro e w2 ⟨rfl, b2⟩
 have B2 := hid (B1.out.trans (b2.mono B1.out.size))
 have C2 := hid (C1.out.trans (Chg.of_below (C := fun _ => False) b2) (fun _ _ hx => hx.elim))
 clear b2
 go_wp2_with fail
 refine (HS.out _).mono ?_
 rintro e w3 ⟨Aw, cw, rfl, o3, b3⟩
 have B3 := hid (B2.out.trans (b3.mono B2.out.size))
 have C3 := hid (C2.out.trans (Chg.of_below (C := fun _ => False) b3) (fun _ _ hx => hx.elim))
 have OW := hid (OwnIH.of o3)
 have s3 := b3.size
 clear o3
 clear b3
 replace zs := (X.out.chg C3.out (fun h => h)).cells
 go_wp2_with fail
 refine (hT.out _).mono ?_
 rintro e w4 ⟨rfl, b4⟩
 have B4 := hid (B3.out.trans (b4.mono B3.out.size))
 have C4 := hid (C3.out.trans (Chg.of_below (C := fun _ => False) b4) (fun _ _ hx => hx.elim))
 replace OW := hid (OW.out.below b4)
 have s4 := b4.size
 clear b4
 go_wp2_with fail
 refine (HI.out _).mono ?_
 rintro e w5 ⟨Ag, cg, rfl, o5, b5⟩
 have B5 := hid (B4.out.trans (b5.mono B4.out.size))
 have C5 := hid (C4.out.trans (Chg.of_below (C := fun _ => False) b5) (fun _ _ hx => hx.elim))
 replace OW := hid (OW.out.below (b5.mono (by omega)))
 have OG := hid (OwnIH.of o5)
 have s5 := b5.size
 clear o5
 clear b5
 go_wp2_with fail
 refine (hEq.out w5.heap.size Ag Aw cg cw w5 (OG.out.1.rd HM.out) (OW.out.1.rd HM.out) (Nat.le_refl _)).mono ?_
 rintro e w6 ⟨rfl, b6⟩
 have B6 := hid (B5.out.trans (b6.mono B5.out.size))
 have C6 := hid (C5.out.trans (Chg.of_below (C := fun _ => False) b6) (fun _ _ hx => hx.elim))
 replace OW := hid (OW.out.below (b6.mono (by omega)))
 replace OG := hid (OG.out.below b6)
 have s6 := b6.size
 clear b6
 go_wp2_with fail
 refine (hMq.out w4.heap.size cg Ag w6 (by have := OG.out.1; unfold OwnI at this; rw [HM.out] at this; exact this)).mono ?_
 rintro e w7 ⟨rfl, o7, c7⟩
 have hg : ∀ k, (Value.slice Ag m cg).ownBlock = some k → w4.heap.size ≤ k ∧ k < w5.heap.size := fun k hk => ⟨(World.ownsRow.lt OG.out.1 k hk).1, OG.out.2 k hk⟩
 have s7 := c7.size
 have B7 := hid (B6.out.trans (c7.below (by have := B6.out.size; omega) (fun x hx hc => by have := hg x hc; have := B4.out.size; omega)))
 have C7 := hid (C6.out.trans (c7.mono (D := fun k => w4.heap.size ≤ k) (fun x _ hc => (hg x hc).1)) (fun x hx hd => by have := C4.out.size; omega))
 replace OW := hid (OW.out.chg c7 (by omega) (fun k h1 h2 hc => by have := hg k hc; omega))
 have OG7 := hid (show OwnIH w7 w4.heap.size w5.heap.size (.slice Ag m cg) (marksI 1 m) from ⟨by unfold OwnI; rw [marksI_length]; exact o7, OG.out.2⟩)
 clear OG o7 c7 hg
 go_wp2_with fail
 refine (hHq.out w7.heap.size cg Ag w7 (OG7.out.1.rd (marksI_length _ _))).mono ?_
 rintro e w8 ⟨rfl, rfl⟩
 replace zs := (X.out.chg C7.out (fun h => h)).cells
 go_wp2_with fail
 refine (hT.out _).mono ?_
 rintro e w8 ⟨rfl, b8⟩
 have B8 := hid (B7.out.trans (b8.mono B7.out.size))
 have C8 := hid (C7.out.trans (Chg.of_below (C := fun _ => False) b8) (fun _ _ hx => hx.elim))
 replace OW := hid (OW.out.below (b8.mono (by omega)))
 replace OG7 := hid (OG7.out.below (b8.mono (by omega)))
 have s8 := b8.size
 clear b8
 go_wp2_with fail
 refine (HI.out _).mono ?_
 rintro e w9 ⟨Ah, ch, rfl, o9, b9⟩
 have B9 := hid (B8.out.trans (b9.mono B8.out.size))
 have C9 := hid (C8.out.trans (Chg.of_below (C := fun _ => False) b9) (fun _ _ hx => hx.elim))
 replace OW := hid (OW.out.below (b9.mono (by omega)))
 replace OG7 := hid (OG7.out.below (b9.mono (by omega)))
 have O9 := hid o9
 have s9 := b9.size
 clear o9
 clear b9
 go_wp2_with fail
 refine (hEq.out w9.heap.size Ah Aw ch cw w9 (O9.out.rd HM.out) (OW.out.1.rd HM.out) (Nat.le_refl _)).mono ?_
 rintro e w10 ⟨rfl, b10⟩
 have B10 := hid (B9.out.trans (b10.mono B9.out.size))
 have C10 := hid (C9.out.trans (Chg.of_below (C := fun _ => False) b10) (fun _ _ hx => hx.elim))
 replace OG7 := hid (OG7.out.below (b10.mono (by omega)))
 clear b10
 go_wp2_with fail
 refine (hHq.out w10.heap.size cg Ag w10 (OG7.out.1.rd (marksI_length _ _))).mono ?_
 rintro e w11 ⟨rfl, rfl⟩
 go_wp2_with fail
 go_ret
 exact ⟨rfl, B10.out⟩
set_option maxRecDepth 100000 in
theorem lifted (os : Os) (started : os.Started) (H : Type) (enc : TypeId × Value → H) :
  ReturnsInHanded {} Try.checked os 4 .any (Rows.fnExactWaitsOfSpec.pre6 enc Try.prog Try.f4 Rows.fnExactWaitsOfRow.domain false) (Rows.fnExactWaitsOfSpec.post enc Try.prog Try.f4 false true false false) := by
 refine returnsInHanded_of_change (C := Try.checked) own started (by kernel_rfl) Try.func4
  (ChangeSpec.witness6 (enc := enc) (C := Try.checked) false ⟨#[], #[.agg #[.int .i64 0, .int .i64 0, .int .i64 0, .int .i64 0]], []⟩ 8 (by kernel_rfl) (by kernel_rfl) (by kernel_rfl) (by kernel_rfl)) ?_
 intro W base args ds gs before hval0 hW hcnd _
 have hval : ∀ (j : Nat) t v, Try.f4.params[j]? = some t → args[j]? = some v → Value.okWide Try.prog W .any base t v := hval0
 have hW' := hW
 obtain ⟨p, q, hA0, hV, rfl, hfz, hnd⟩ := hW
 have hA : DataW.TrodAll enc Try.prog W 0 (fun _ => true) true Try.f4.params.toList args.toList ds p := hA0
 rw [Try.params4] at hA hval
 obtain ⟨v0, vs0, d0, ds0, p0, q0, hargs, rfl, rfl, h0, rest0⟩ := trodAll_cons hA
 obtain ⟨rfl, rfl, rfl⟩ := trodAll_nil rest0
 obtain rfl : args = #[v0] := by cases args; simp_all
 obtain ⟨rfl, rfl⟩ := trodVars_none hV
 obtain ⟨t0, wa0, fa0, mo0, rfl, f0⟩ := open_Policy (hval 0 23 v0 rfl rfl) h0
 have lt0 : ∀ x ∈ p0, x.block < W.heap.size := by obtain ⟨m, hm⟩ := h0; exact DataW.trod_lt m _ _ _ hm
 clear hA0 hval0
 refine (walk t0 wa0 fa0 mo0 W).mono fun e W' ⟨he, hg⟩ => ?_
 subst he
 exact ⟨_, rfl, _, _, _, [], _, [], hW', trodAll_mk1 (shut_bool Try.underlying4 _), (trodAll_cons_mk (Below.trod laidOut (by kernel_rfl) (of_decide_eq_true (by kernel_rfl)) h0 hg lt0) trodAll_mk0), rfl, hg.frame _, fun h => by cases h⟩
theorem over : Rows.fnExactWaitsOfRow.holds Try.pinned (OpenSpec.ofChange Rows.fnExactWaitsOfSpec) :=
 OpenClaim.holds_of_wide 4 Try.f4 rfl rfl rfl rfl rfl rfl rfl ⟨rfl, rfl, rfl, rfl, rfl⟩ rfl rfl rfl rfl rfl (by kernel_rfl) Try.func4 (by kernel_rfl)
  (of_decide_eq_true (by kernel_rfl)) (by unfold Func.isWrapper; first | (rw [if_pos (by decide +kernel)]; kernel_rfl) | (rw [if_neg (by decide +kernel)]; exact ⟨rfl, rfl⟩))
  (fun os started H enc _ => lifted os started H enc)
theorem proved : Rows.FnExactWaitsOfSaid :=
 over
#print axioms proved
end Go.Proofs.Ytibadkjdchdnjaa.fnExactWaitsOf
-- squeezed
