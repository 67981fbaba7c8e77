import Derived.Test.YtibadkjdchdnjaaRows
import Derived.Test.YtibadkjdchdnjaaLawQ
import Derived.Test.YtibadkjdchdnjaaLawY
import Derived.Deep.RegionHeld3
set_option linter.all false
namespace Go.Proofs.Ytibadkjdchdnjaa.fnExactRetryRun
open Lib (hid)
open Go.ChangeShapes Go.WideShapes Go.ChangeAt Go.RowKit
open PL Mem To Sz EqP OpenP MarkP Srun Sst Sout EvtP LawO LawI LawY LawQ Kpp Krt Krs Krr
theorem own : ownKnob Try.prog.godebug = none := by kernel_rfl
theorem cnt_small {p : Pg} (h : ¬ szP 1048576 p < 0) : cnt p ≤ 1048576 := by
 have ht : tot p ≤ 1048576 := by
  unfold szP szR at h
  split at h <;> omega
 exact Nat.le_trans (tot_cnt p) ht
set_option maxHeartbeats 8000000 in
set_option maxRecDepth 100000 in
theorem walk (A : Option Addr) (c : Nat) (p : Pg) (f arg fuel t wa fa mo : Int) (hn : p.length ≤ maxLen) (hsm : Small p maxLen) (w : World) (hr : RdP w w.heap.size A p) :
  Calls Try.prog 5 #[.agg #[.slice A p.length c], .int .i64 f, .int .i64 arg, .int .i64 fuel, .agg #[.int .i64 t, .int .i64 wa, .int .i64 fa, .int .i64 mo]] w fun e w' => e = .returned (.bool true) ∧ Below w.heap.size w w' := by
 unfold maxLen at hn hsm
 have hR := hid hr
 clear hr
 obtain ⟨n, hL⟩ : ∃ n, p.length = n := ⟨_, rfl⟩
 rw [hL] at hn ⊢
 have hz := hid (fun W h hB => szProgram_any w.heap.size A n c p 1048576 (by omega) (by omega) (by omega) hL hsm W h hB)
 by_cases hneg : szP 1048576 p < 0
 ·have hs := hid (szR_neg _ _ hneg).1
  clear hL hneg hsm
  go_enter Try.func5, Try.ntmps5
  go_upto_region 1 with fail
  change (fun V => Code.wp _ _ _ _ V) _
  refine gen_world (X := fun V => Blk V w.heap.size 35 #[.slice A n c] ∧ Blk V (w.heap.size + 1) 23 #[.int .i64 t, .int .i64 wa, .int .i64 fa, .int .i64 mo] ∧ Below w.heap.size w V) ⟨heap2_0 w _ _, heap2_1 w _ _, ((Below.refl _ _).alloc (Nat.le_refl _) _).alloc (by simp) _⟩ ?_
  rintro w1 ⟨x1, y1, b1⟩
  have l1 := y1.lt
  have HP1 := hid x1
  have HY1 := hid y1
  have HB1 := hid b1
  have sb1 := b1.size
  have za : w1.cell? ⟨w.heap.size, 0, none⟩ = some (.slice A n c) := x1.cells 0
  clear x1 y1 b1
  go_wp2_with fail
  refine (hz.out _ (hR.out.below HB1.out) HB1.out.size).mono ?_
  rintro e w2 ⟨rfl, b2⟩
  rw [szP, hs.out]
  go_wp2_with fail
  go_ret
  exact ⟨rfl, HB1.out.trans (b2.mono HB1.out.size)⟩
 obtain ⟨hs1, hs2⟩ := szP_small hneg
 have hcp := cnt_small hneg
 rw [hL] at hs1
 have hT := hid (fun W h hB => toProgram_any w.heap.size A n c p (by omega) hL (hs2.mono (by omega)) W h hB)
 have hTY := hid (fun W => toPolicy_any t wa fa mo W)
 have hEp := hid (fun B A' A'' c' c'' W h h' hB => eqProgram_same B A' A'' n c' c'' p (by omega) hL (hs2.mono (by omega)) W h h' hB)
 have hMp := hid (fun lo hi c' A' W h h' => markProgram_any lo hi n c' A' p 1 (by omega) hL (hs2.mono (by omega)) (by omega) (by omega) W h h')
 have hS := fun lo c' A' W h => retS_any lo n c' A' p f arg fuel t wa fa mo (by omega) hL (hs2.mono (by omega)) W h
 have hI := fun lo c' A' W h => retI_any lo n c' A' p f arg fuel t wa fa mo (by omega) hL (hs2.mono (by omega)) W h
 have hft := retryR_len p f arg fuel t wa fa mo
 generalize retryR p f arg fuel t wa fa mo = r at hS hI hft
 obtain ⟨⟨ok, ov, q, os⟩, k1, k2, k0⟩ := r
 dsimp only at hft
 obtain ⟨m, hm⟩ : ∃ m, q.length = m := ⟨_, rfl⟩
 have hEq := hid (fun B c' c'' A' A'' W h h' hB => eqOutcome_same B A' A'' m c' c'' q ok ov os (by omega) hm W h h' hB)
 have hMq := hid (fun B c' A' W h => markOutcome_any B m c' A' q ok ov os 1 (by omega) hm (by omega) (by omega) W h)
 have hHq := hid (fun B c' A' W hB h => heldOutcome_any B m c' A' ok ov os 1 (by omega) (by omega) (by omega) W hB h)
 have HS := hid (show ∀ lo c' A' W, OwnP W lo (.slice A' n c') p → Calls Try.prog 24 #[.agg #[.slice A' n c'], .int .i64 f, .int .i64 arg, .int .i64 fuel, .agg #[.int .i64 t, .int .i64 wa, .int .i64 fa, .int .i64 mo]] W fun e w' => ∃ Aw cw, e = Ending.returned (.tuple #[.agg #[.int .i64 ok, .int .i64 ov, .slice Aw m cw, .int .i64 os], .int .i64 k1, .int .i64 k2, .bool k0]) ∧ Tre w' W.heap.size (.slice Aw m cw) q ∧ Below W.heap.size W w' from
  fun lo c' A' W h => (hS lo c' A' W h).mono fun e w' h' => by obtain ⟨x, y, h1, h2, h3⟩ := h'; unfold outval at h1; simp only [hm] at h1 h2; exact ⟨x, y, h1, h2, h3⟩)
 have HI := hid (show ∀ lo c' A' W, OwnP W lo (.slice A' n c') p → Calls Try.prog 26 #[.agg #[.slice A' n c'], .int .i64 f, .int .i64 arg, .int .i64 fuel, .agg #[.int .i64 t, .int .i64 wa, .int .i64 fa, .int .i64 mo]] W fun e w' => ∃ Aw cw, e = Ending.returned (.tuple #[.agg #[.int .i64 ok, .int .i64 ov, .slice Aw m cw, .int .i64 os], .int .i64 k1, .int .i64 k2, .bool k0]) ∧ Tre w' W.heap.size (.slice Aw m cw) q ∧ Below W.heap.size W w' from
  fun lo c' A' W h => (hI lo c' A' W h).mono fun e w' h' => by obtain ⟨x, y, h1, h2, h3⟩ := h'; unfold outval at h1; simp only [hm] at h1 h2; exact ⟨x, y, h1, h2, h3⟩)
 have HM := hid hm
 unfold MarkedP at hMp
 unfold MarkedE at hMq
 have hkp : ¬ (1 + 3 * (cnt p : Int)) < 0 := by omega
 generalize 1 + 3 * (cnt p : Int) = kp at *
 have hkq : ¬ (1 + 3 * (m : Int)) < 0 := by omega
 generalize 1 + 3 * (m : Int) = kq at *
 have hbk0 : (k0 != k0) = false := by simp
 clear hL hs2 hsm hS hI hcp hs1 hn hft hm
 go_enter Try.func5, Try.ntmps5
 go_upto_region 1 with fail
 change (fun V => Code.wp _ _ _ _ V) _
 refine gen_world (X := fun V => Blk V w.heap.size 35 #[.slice A n c] ∧ Blk V (w.heap.size + 1) 23 #[.int .i64 t, .int .i64 wa, .int .i64 fa, .int .i64 mo] ∧ Below w.heap.size w V) ⟨heap2_0 w _ _, heap2_1 w _ _, ((Below.refl _ _).alloc (Nat.le_refl _) _).alloc (by simp) _⟩ ?_
 rintro w1 ⟨x1, y1, b1⟩
 have l1 := y1.lt
 have HP1 := hid x1
 have HY1 := hid y1
 have HB1 := hid b1
 have sb1 := b1.size
 have za : w1.cell? ⟨w.heap.size, 0, none⟩ = some (.slice A n c) := x1.cells 0
 clear x1 y1 b1
 have HB := hid (Below.refl w1.heap.size w1)
 go_wp2_with fail
 refine (hz.out _ (hR.out.below HB1.out) HB1.out.size).mono ?_
 rintro e w2 ⟨rfl, b2⟩
 have sw2 := b2.size
 replace HB := hid (HB.out.trans (b2.mono HB.out.size))
 clear b2 za hz
 generalize szP 1048576 p = z at *
 have hX2 := hid (fun (V : World) (b : Below w2.heap.size w2 V) => (show V.cell? ⟨w.heap.size, 0, none⟩ = some (.slice A n c) ∧ V.cell? ⟨w.heap.size + 1, 0, none⟩ = some (.int .i64 t) ∧ V.cell? ⟨w.heap.size + 1, 1, none⟩ = some (.int .i64 wa) ∧ V.cell? ⟨w.heap.size + 1, 2, none⟩ = some (.int .i64 fa) ∧ V.cell? ⟨w.heap.size + 1, 3, none⟩ = some (.int .i64 mo) from ⟨((HP1.out.below HB.out (by omega)).below b (by omega)).cells 0, ((HY1.out.below HB.out (by omega)).below b (by omega)).cells 0, ((HY1.out.below HB.out (by omega)).below b (by omega)).cells 1, ((HY1.out.below HB.out (by omega)).below b (by omega)).cells 2, ((HY1.out.below HB.out (by omega)).below b (by omega)).cells 3⟩))
 have cP := hid (fun (W : World) (b : Below w2.heap.size w2 W) => (hT.out W (hR.out.below (HB1.out.trans ((HB.out.trans (b.mono HB.out.size)).mono HB1.out.size))) (HB1.out.trans ((HB.out.trans (b.mono HB.out.size)).mono HB1.out.size)).size).mono (fun e w' (h : ∃ g, e = Ending.returned (.agg #[.slice (some ⟨g, 0, none⟩) n n]) ∧ OwnP w' W.heap.size (.slice (some ⟨g, 0, none⟩) n n) p ∧ Below W.heap.size W w') =>
  show ∃ g, e = Ending.returned (.agg #[.slice (some ⟨g, 0, none⟩) n n]) ∧ OwnP w' w2.heap.size (.slice (some ⟨g, 0, none⟩) n n) p ∧ Below w2.heap.size w2 w' ∧ (∀ g, Blk W g 39 #[.int .i64 0, .int .i64 0, .slice none 0 0, .int .i64 0] → Blk w' g 39 #[.int .i64 0, .int .i64 0, .slice none 0 0, .int .i64 0]) from let ⟨g, he, ho, hb⟩ := h; ⟨g, he, ho.mono b.size, b.trans (hb.mono b.size), fun g hg => hg.below hb hg.lt⟩))
 have cY := hid (fun (W : World) (g : Nat) (b : Below w2.heap.size w2 W) (o : OwnP W w2.heap.size (.slice (some ⟨g, 0, none⟩) n n) p) => (hTY.out W).mono (fun e w' (h : e = Ending.returned (.agg #[.int .i64 t, .int .i64 wa, .int .i64 fa, .int .i64 mo]) ∧ Below W.heap.size W w') =>
  show e = Ending.returned (.agg #[.int .i64 t, .int .i64 wa, .int .i64 fa, .int .i64 mo]) ∧ (OwnP w' w2.heap.size (.slice (some ⟨g, 0, none⟩) n n) p) ∧ Below w2.heap.size w2 w' ∧ (∀ g, Blk W g 39 #[.int .i64 0, .int .i64 0, .slice none 0 0, .int .i64 0] → Blk w' g 39 #[.int .i64 0, .int .i64 0, .slice none 0 0, .int .i64 0]) from ⟨h.1, o.below h.2, b.trans (h.2.mono b.size), fun g hg => hg.below h.2 hg.lt⟩))
 have cF := hid (fun (W : World) (g : Nat) (b : Below w2.heap.size w2 W) (o : OwnP W w2.heap.size (.slice (some ⟨g, 0, none⟩) n n) p) => (HS.out _ n (some ⟨g, 0, none⟩) W o).mono (fun e w' (h : ∃ Aw cw, e = Ending.returned (.tuple #[.agg #[.int .i64 ok, .int .i64 ov, .slice Aw m cw, .int .i64 os], .int .i64 k1, .int .i64 k2, .bool k0]) ∧ Tre w' W.heap.size (.slice Aw m cw) q ∧ Below W.heap.size W w') =>
  show ∃ Aw cw, e = Ending.returned (.tuple #[.agg #[.int .i64 ok, .int .i64 ov, .slice Aw m cw, .int .i64 os], .int .i64 k1, .int .i64 k2, .bool k0]) ∧ Tre w' w2.heap.size (.slice Aw m cw) q ∧ Below w2.heap.size w2 w' ∧ (∀ g, Blk W g 39 #[.int .i64 0, .int .i64 0, .slice none 0 0, .int .i64 0] → Blk w' g 39 #[.int .i64 0, .int .i64 0, .slice none 0 0, .int .i64 0]) from let ⟨Aw, cw, he, ho, hb⟩ := h; ⟨Aw, cw, he, own_mono ho b.size, b.trans (hb.mono b.size), fun g hg => hg.below hb hg.lt⟩))
 go_upto_region 5 with fail
 go_cut [12, 13, 14, 15] (fun s1' s2' s3' s4' wx => ∃ b Aw cw, s1' = .pointer (some ⟨b, 0, none⟩) ∧ s2' = .int .i64 k1 ∧ s3' = .int .i64 k2 ∧ s4' = .bool k0 ∧ MidO w2 b #[.int .i64 ok, .int .i64 ov, .slice Aw m cw, .int .i64 os] (.slice Aw m cw) q wx)
 case first =>
  obtain ⟨z0, z1, z2, z3, z4⟩ := hX2.out w2 (Below.refl _ _)
  have bD : Below w2.heap.size w2 w2.drew := (Below.refl _ _).drew
  go_wp2_with fail
  go_region_held3 (fun V => V.cell? ⟨w.heap.size, 0, none⟩ = some (.slice A n c) ∧ V.cell? ⟨w.heap.size + 1, 0, none⟩ = some (.int .i64 t) ∧ V.cell? ⟨w.heap.size + 1, 1, none⟩ = some (.int .i64 wa) ∧ V.cell? ⟨w.heap.size + 1, 2, none⟩ = some (.int .i64 fa) ∧ V.cell? ⟨w.heap.size + 1, 3, none⟩ = some (.int .i64 mo))
   (first | exact ⟨z0, z1, z2, z3, z4⟩ | (refine hX2.out _ ?_; (first | assumption | with_reducible exact Below.refl _ _ | with_reducible exact (Below.refl _ _).drew | with_reducible exact belA _ _ | with_reducible exact belAD _ _ | with_reducible exact belS4 (by assumption) (by first | with_reducible exact Nat.le_refl _ | with_reducible exact Below.size (by assumption)) _ _ _ _ | with_reducible exact belA2 (by assumption) _ | with_reducible exact belAD2 (by assumption) _ | with_reducible exact belD2 (by assumption))))
   (first | (go_at_call 25; refine (cP.out _ ?_).mono ?_; (first | assumption | with_reducible exact Below.refl _ _ | with_reducible exact (Below.refl _ _).drew | with_reducible exact belA _ _ | with_reducible exact belAD _ _ | with_reducible exact belS4 (by assumption) (by first | with_reducible exact Nat.le_refl _ | with_reducible exact Below.size (by assumption)) _ _ _ _ | with_reducible exact belA2 (by assumption) _ | with_reducible exact belAD2 (by assumption) _ | with_reducible exact belD2 (by assumption)); rintro e wT ⟨gt, rfl, oT, bT, hk⟩; (try (have hz := hk w2.heap.size (by first | with_reducible exact boxA _ _ _ | with_reducible exact boxAD _ _ _))); (try (have hz := hk _ hz)); clear hk) | (go_at_call 16; refine (cY.out _ gt ?_ ?_).mono ?_; (first | assumption | with_reducible exact Below.refl _ _ | with_reducible exact (Below.refl _ _).drew | with_reducible exact belA _ _ | with_reducible exact belAD _ _ | with_reducible exact belS4 (by assumption) (by first | with_reducible exact Nat.le_refl _ | with_reducible exact Below.size (by assumption)) _ _ _ _ | with_reducible exact belA2 (by assumption) _ | with_reducible exact belAD2 (by assumption) _ | with_reducible exact belD2 (by assumption)); (first | assumption | with_reducible exact ownA oT _ | with_reducible exact ownAD oT _ | with_reducible exact ownD oT); rintro e wV ⟨rfl, oV, bV, hk⟩; (try (have hz := hk wT.heap.size (by first | with_reducible exact boxA _ _ _ | with_reducible exact boxAD _ _ _))); (try (have hz := hk _ hz)); clear hk) | (go_at_call 24; refine (cF.out _ gt ?_ ?_).mono ?_; (first | assumption | with_reducible exact Below.refl _ _ | with_reducible exact (Below.refl _ _).drew | with_reducible exact belA _ _ | with_reducible exact belAD _ _ | with_reducible exact belS4 (by assumption) (by first | with_reducible exact Nat.le_refl _ | with_reducible exact Below.size (by assumption)) _ _ _ _ | with_reducible exact belA2 (by assumption) _ | with_reducible exact belAD2 (by assumption) _ | with_reducible exact belD2 (by assumption)); (first | assumption | with_reducible exact ownA oV _ | with_reducible exact ownAD oV _ | with_reducible exact ownD oV); rintro e wF ⟨Aw, cw, rfl, tF, bF, hk⟩; (try (have hz := hk wV.heap.size (by first | with_reducible exact boxA _ _ _ | with_reducible exact boxAD _ _ _))); (try (have hz := hk _ hz)); (try (have zz := hz.cells; have fz := hz.frozen)); clear hk))
  all_goals
   go_wp2_with fail
   go_meet
   first
    | exact ⟨_, Aw, cw, rfl, rfl, rfl, rfl, MidO.early hz bF tF (by first | exact Nat.le_refl _ | exact Below.size (by assumption))⟩
    | exact ⟨_, Aw, cw, rfl, rfl, rfl, rfl, MidO.late bF tF⟩
 case rest =>
  obtain ⟨bw, Aw, cw, rfl, rfl, rfl, rfl, hmid⟩ := hcut
  generalize hwx : wc = w3 at *
  clear hwx
  have WB := hid hmid.box
  have OW := hid (OwnEH.of hmid.own)
  have lbw := hmid.hb
  have mbw := hmid.box.lt
  have bF := hmid.below
  clear hmid cY cF hX2 cP
  have sw3 := bF.size
  replace HB := hid (HB.out.trans (bF.mono HB.out.size))
  clear bF
  have z0 : w3.cell? ⟨w.heap.size, 0, none⟩ = some (.slice A n c) := (HP1.out.below HB.out (by omega)).cells 0
  go_wp2_with fail
  refine (hT.out _ (hR.out.below (HB1.out.trans (HB.out.mono HB1.out.size))) (HB1.out.trans (HB.out.mono HB1.out.size)).size).mono ?_
  rintro e w4 ⟨gx, rfl, o4, b4⟩
  have O4 := hid (OwnH.of o4)
  clear o4 z0
  have sw4 := b4.size
  replace HB := hid (HB.out.trans (b4.mono HB.out.size))
  replace WB := hid (WB.out.below b4 (by omega))
  replace OW := hid (OW.out.below (b4.mono (by omega)))
  clear b4
  go_upto_region 7 with fail
  change (fun V => Code.wp _ _ _ _ V) _
  refine gen_world (X := fun V => Blk V w4.heap.size 44 #[.slice (some ⟨gx, 0, none⟩) n n] ∧ Below w4.heap.size w4 V) ⟨heap1_0 w4 _, (Below.refl _ _).alloc (Nat.le_refl _) _⟩ ?_
  rintro w6 ⟨XB0, b5⟩
  have XB := hid XB0
  have lx := XB0.lt
  clear XB0
  have sw6 := b5.size
  replace HB := hid (HB.out.trans (b5.mono HB.out.size))
  replace WB := hid (WB.out.below b5 (by omega))
  replace OW := hid (OW.out.below (b5.mono (by omega)))
  replace O4 := hid (O4.out.below (b5.mono (by omega)))
  clear b5
  generalize w4.heap.size = bx at *
  generalize w3.heap.size = Lx at *
  have XPJ := hid (fun (W : World) (b : Below w6.heap.size w6 W) => (show OwnP W Lx (.slice (some ⟨gx, 0, none⟩) n n) p from (O4.out.below (b.mono (by omega))).own))
  have hX6 := hid (fun (V : World) (b : Below w6.heap.size w6 V) => (show V.cell? ⟨w.heap.size, 0, none⟩ = some (.slice A n c) ∧ V.cell? ⟨w.heap.size + 1, 0, none⟩ = some (.int .i64 t) ∧ V.cell? ⟨w.heap.size + 1, 1, none⟩ = some (.int .i64 wa) ∧ V.cell? ⟨w.heap.size + 1, 2, none⟩ = some (.int .i64 fa) ∧ V.cell? ⟨w.heap.size + 1, 3, none⟩ = some (.int .i64 mo) ∧ V.cell? ⟨bx, 0, none⟩ = some (.slice (some ⟨gx, 0, none⟩) n n) from ⟨((HP1.out.below HB.out (by omega)).below b (by omega)).cells 0, ((HY1.out.below HB.out (by omega)).below b (by omega)).cells 0, ((HY1.out.below HB.out (by omega)).below b (by omega)).cells 1, ((HY1.out.below HB.out (by omega)).below b (by omega)).cells 2, ((HY1.out.below HB.out (by omega)).below b (by omega)).cells 3, (XB.out.below b (by omega)).cells 0⟩))
  have cY := hid (fun (W : World) (g : Nat) (b : Below w6.heap.size w6 W) (o : OwnP W Lx (.slice (some ⟨g, 0, none⟩) n n) p) => (hTY.out W).mono (fun e w' (h : e = Ending.returned (.agg #[.int .i64 t, .int .i64 wa, .int .i64 fa, .int .i64 mo]) ∧ Below W.heap.size W w') =>
   show e = Ending.returned (.agg #[.int .i64 t, .int .i64 wa, .int .i64 fa, .int .i64 mo]) ∧ (OwnP w' Lx (.slice (some ⟨g, 0, none⟩) n n) p) ∧ Below w6.heap.size w6 w' ∧ (∀ g, Blk W g 39 #[.int .i64 0, .int .i64 0, .slice none 0 0, .int .i64 0] → Blk w' g 39 #[.int .i64 0, .int .i64 0, .slice none 0 0, .int .i64 0]) from ⟨h.1, o.below h.2, b.trans (h.2.mono b.size), fun g hg => hg.below h.2 hg.lt⟩))
  have cF := hid (fun (W : World) (g : Nat) (b : Below w6.heap.size w6 W) (o : OwnP W Lx (.slice (some ⟨g, 0, none⟩) n n) p) => (HI.out _ n (some ⟨g, 0, none⟩) W o).mono (fun e w' (h : ∃ Aw cw, e = Ending.returned (.tuple #[.agg #[.int .i64 ok, .int .i64 ov, .slice Aw m cw, .int .i64 os], .int .i64 k1, .int .i64 k2, .bool k0]) ∧ Tre w' W.heap.size (.slice Aw m cw) q ∧ Below W.heap.size W w') =>
   show ∃ Aw cw, e = Ending.returned (.tuple #[.agg #[.int .i64 ok, .int .i64 ov, .slice Aw m cw, .int .i64 os], .int .i64 k1, .int .i64 k2, .bool k0]) ∧ Tre w' w6.heap.size (.slice Aw m cw) q ∧ Below w6.heap.size w6 w' ∧ (∀ g, Blk W g 39 #[.int .i64 0, .int .i64 0, .slice none 0 0, .int .i64 0] → Blk w' g 39 #[.int .i64 0, .int .i64 0, .slice none 0 0, .int .i64 0]) from let ⟨Aw, cw, he, ho, hb⟩ := h; ⟨Aw, cw, he, own_mono ho b.size, b.trans (hb.mono b.size), fun g hg => hg.below hb hg.lt⟩))
  go_upto_region 7 with fail
  go_cut [17, 18, 19, 20] (fun s1' s2' s3' s4' wx => ∃ b Aw cw, s1' = .pointer (some ⟨b, 0, none⟩) ∧ s2' = .int .i64 k1 ∧ s3' = .int .i64 k2 ∧ s4' = .bool k0 ∧ MidO w6 b #[.int .i64 ok, .int .i64 ov, .slice Aw m cw, .int .i64 os] (.slice Aw m cw) q wx)
  case first =>
   obtain ⟨z0, z1, z2, z3, z4, z5⟩ := hX6.out w6 (Below.refl _ _)
   have bD : Below w6.heap.size w6 w6.drew := (Below.refl _ _).drew
   go_wp2_with fail
   go_region_held3 (fun V => V.cell? ⟨w.heap.size, 0, none⟩ = some (.slice A n c) ∧ V.cell? ⟨w.heap.size + 1, 0, none⟩ = some (.int .i64 t) ∧ V.cell? ⟨w.heap.size + 1, 1, none⟩ = some (.int .i64 wa) ∧ V.cell? ⟨w.heap.size + 1, 2, none⟩ = some (.int .i64 fa) ∧ V.cell? ⟨w.heap.size + 1, 3, none⟩ = some (.int .i64 mo) ∧ V.cell? ⟨bx, 0, none⟩ = some (.slice (some ⟨gx, 0, none⟩) n n))
    (first | exact ⟨z0, z1, z2, z3, z4, z5⟩ | (refine hX6.out _ ?_; (first | assumption | with_reducible exact Below.refl _ _ | with_reducible exact (Below.refl _ _).drew | with_reducible exact belA _ _ | with_reducible exact belAD _ _ | with_reducible exact belS4 (by assumption) (by first | with_reducible exact Nat.le_refl _ | with_reducible exact Below.size (by assumption)) _ _ _ _ | with_reducible exact belA2 (by assumption) _ | with_reducible exact belAD2 (by assumption) _ | with_reducible exact belD2 (by assumption))))
    (first | (go_at_call 16; refine (cY.out _ gx ?_ ?_).mono ?_; (first | assumption | with_reducible exact Below.refl _ _ | with_reducible exact (Below.refl _ _).drew | with_reducible exact belA _ _ | with_reducible exact belAD _ _ | with_reducible exact belS4 (by assumption) (by first | with_reducible exact Nat.le_refl _ | with_reducible exact Below.size (by assumption)) _ _ _ _ | with_reducible exact belA2 (by assumption) _ | with_reducible exact belAD2 (by assumption) _ | with_reducible exact belD2 (by assumption)); (first | with_reducible exact XPJ.out _ (Below.refl _ _) | with_reducible exact XPJ.out _ (Below.refl _ _).drew | with_reducible exact XPJ.out _ (belA _ _) | with_reducible exact XPJ.out _ (belAD _ _) | exact XPJ.out _ (by assumption)); rintro e wV ⟨rfl, oV, bV, hk⟩; (try (have hz := hk w6.heap.size (by first | with_reducible exact boxA _ _ _ | with_reducible exact boxAD _ _ _))); (try (have hz := hk _ hz)); clear hk) | (go_at_call 26; refine (cF.out _ gx ?_ ?_).mono ?_; (first | assumption | with_reducible exact Below.refl _ _ | with_reducible exact (Below.refl _ _).drew | with_reducible exact belA _ _ | with_reducible exact belAD _ _ | with_reducible exact belS4 (by assumption) (by first | with_reducible exact Nat.le_refl _ | with_reducible exact Below.size (by assumption)) _ _ _ _ | with_reducible exact belA2 (by assumption) _ | with_reducible exact belAD2 (by assumption) _ | with_reducible exact belD2 (by assumption)); (first | assumption | with_reducible exact ownA oV _ | with_reducible exact ownAD oV _ | with_reducible exact ownD oV); rintro e wF ⟨Aw, cw, rfl, tF, bF, hk⟩; (try (have hz := hk wV.heap.size (by first | with_reducible exact boxA _ _ _ | with_reducible exact boxAD _ _ _))); (try (have hz := hk _ hz)); (try (have zz := hz.cells; have fz := hz.frozen)); clear hk))
   all_goals
    go_wp2_with fail
    go_meet
    first
     | exact ⟨_, Aw, cw, rfl, rfl, rfl, rfl, MidO.early hz bF tF (by first | exact Nat.le_refl _ | exact Below.size (by assumption))⟩
     | exact ⟨_, Aw, cw, rfl, rfl, rfl, rfl, MidO.late bF tF⟩
  case rest =>
   obtain ⟨bg, Ag, cg, rfl, rfl, rfl, rfl, hmid⟩ := hcut
   generalize hwx : wc = w7 at *
   clear hwx
   have GB := hid hmid.box
   have OG := hid (OwnEH.of hmid.own)
   have lbg := hmid.hb
   have mbg := hmid.box.lt
   have bF := hmid.below
   clear hmid cY cF hX6
   have sw7 := bF.size
   replace HB := hid (HB.out.trans (bF.mono HB.out.size))
   replace WB := hid (WB.out.below bF (by omega))
   replace OW := hid (OW.out.below (bF.mono (by omega)))
   replace O4 := hid (O4.out.below (bF.mono (by omega)))
   replace XB := hid (XB.out.below bF (by omega))
   clear bF
   clear XPJ
   have zw := WB.out.cells
   have zg := GB.out.cells
   go_wp2_with fail
   refine (hEq.out w7.heap.size cg cw Ag Aw w7 (Tre.rd OG.out.1 HM.out) (Tre.rd OW.out.1 HM.out) (Nat.le_refl _)).mono ?_
   rintro e w8 ⟨rfl, b8⟩
   clear zw zg
   have sw8 := b8.size
   replace HB := hid (HB.out.trans (b8.mono HB.out.size))
   replace WB := hid (WB.out.below b8 (by omega))
   replace OW := hid (OW.out.below (b8.mono (by omega)))
   replace O4 := hid (O4.out.below (b8.mono (by omega)))
   replace XB := hid (XB.out.below b8 (by omega))
   replace GB := hid (GB.out.below b8 (by omega))
   replace OG := hid (OG.out.below (b8.mono (by omega)))
   clear b8
   have hX8 := hid (fun (V : World) (b : Below w8.heap.size w8 V) => (show V.cell? ⟨w.heap.size, 0, none⟩ = some (.slice A n c) ∧ V.cell? ⟨w.heap.size + 1, 0, none⟩ = some (.int .i64 t) ∧ V.cell? ⟨w.heap.size + 1, 1, none⟩ = some (.int .i64 wa) ∧ V.cell? ⟨w.heap.size + 1, 2, none⟩ = some (.int .i64 fa) ∧ V.cell? ⟨w.heap.size + 1, 3, none⟩ = some (.int .i64 mo) ∧ V.cell? ⟨bx, 0, none⟩ = some (.slice (some ⟨gx, 0, none⟩) n n) from ⟨((HP1.out.below HB.out (by omega)).below b (by omega)).cells 0, ((HY1.out.below HB.out (by omega)).below b (by omega)).cells 0, ((HY1.out.below HB.out (by omega)).below b (by omega)).cells 1, ((HY1.out.below HB.out (by omega)).below b (by omega)).cells 2, ((HY1.out.below HB.out (by omega)).below b (by omega)).cells 3, (XB.out.below b (by omega)).cells 0⟩))
   obtain ⟨z0, z1, z2, z3, z4, z5⟩ := hX8.out w8 (Below.refl _ _)
   have hTk := hid (fun (W : World) (b : Below w8.heap.size w8 W) => (hT.out W (hR.out.below (HB1.out.trans ((HB.out.trans (b.mono HB.out.size)).mono HB1.out.size))) (HB1.out.trans ((HB.out.trans (b.mono HB.out.size)).mono HB1.out.size)).size).mono (fun e w' (h : ∃ g, e = Ending.returned (.agg #[.slice (some ⟨g, 0, none⟩) n n]) ∧ OwnP w' W.heap.size (.slice (some ⟨g, 0, none⟩) n n) p ∧ Below W.heap.size W w') =>
    show ∃ g, e = Ending.returned (.agg #[.slice (some ⟨g, 0, none⟩) n n]) ∧ OwnP w' w8.heap.size (.slice (some ⟨g, 0, none⟩) n n) p ∧ Below w8.heap.size w8 w' from let ⟨g, he, ho, hb⟩ := h; ⟨g, he, ho.mono b.size, b.trans (hb.mono b.size)⟩))
   have hEk := hid (fun (W : World) (g : Nat) (o : OwnP W w8.heap.size (.slice (some ⟨g, 0, none⟩) n n) p) (b : Below w8.heap.size w8 W) => (hEp.out W.heap.size (some ⟨gx, 0, none⟩) (some ⟨g, 0, none⟩) n n W (O4.out.below (b.mono (by omega))).own.rd o.rd (Nat.le_refl _)).mono (fun e w' h => show e = Ending.returned (.bool true) ∧ Below w8.heap.size w8 w' from ⟨h.1, b.trans (h.2.mono b.size)⟩))
   have bD : Below w8.heap.size w8 w8.drew := (Below.refl _ _).drew
   go_wp2_with fail
   go_region_held3 (fun V => V.cell? ⟨w.heap.size, 0, none⟩ = some (.slice A n c) ∧ V.cell? ⟨w.heap.size + 1, 0, none⟩ = some (.int .i64 t) ∧ V.cell? ⟨w.heap.size + 1, 1, none⟩ = some (.int .i64 wa) ∧ V.cell? ⟨w.heap.size + 1, 2, none⟩ = some (.int .i64 fa) ∧ V.cell? ⟨w.heap.size + 1, 3, none⟩ = some (.int .i64 mo) ∧ V.cell? ⟨bx, 0, none⟩ = some (.slice (some ⟨gx, 0, none⟩) n n))
    (first | exact ⟨z0, z1, z2, z3, z4, z5⟩ | (refine hX8.out _ ?_; assumption))
    (first | (go_at_call 25; refine (hTk.out _ ?_).mono ?_; assumption; rintro e wT ⟨gz, rfl, oT, bT⟩) | (go_at_call 28; refine (hEk.out _ gz oT ?_).mono ?_; assumption; rintro e w9 ⟨rfl, b9⟩))
   have sw9 := b9.size
   replace HB := hid (HB.out.trans (b9.mono HB.out.size))
   replace WB := hid (WB.out.below b9 (by omega))
   replace OW := hid (OW.out.below (b9.mono (by omega)))
   replace O4 := hid (O4.out.below (b9.mono (by omega)))
   replace XB := hid (XB.out.below b9 (by omega))
   replace GB := hid (GB.out.below b9 (by omega))
   replace OG := hid (OG.out.below (b9.mono (by omega)))
   clear b9 oT bT bD hTk hEk hX8 z0 z1 z2 z3 z4 z5
   have z0 : w9.cell? ⟨bx, 0, none⟩ = some (.slice (some ⟨gx, 0, none⟩) n n) := XB.out.cells 0
   go_wp2_with fail
   refine (hMp.out Lx bx n (some ⟨gx, 0, none⟩) w9 (by omega) O4.out).mono ?_
   rintro e w10 ⟨rfl, o10, c10⟩
   have s10 := c10.size
   replace HB := hid (HB.out.trans (c10.below (B := w1.heap.size) (by omega) (fun x hx hc => by omega)))
   replace OW := hid (OW.out.chg c10 (by omega) (fun k h1 h2 hc => by omega))
   replace OG := hid (OG.out.chg c10 (by omega) (fun k h1 h2 hc => by omega))
   replace WB := hid (WB.out.chg c10 (fun hc => by omega))
   replace GB := hid (GB.out.chg c10 (fun hc => by omega))
   clear o10 c10 z0 O4 XB
   have zw := WB.out.cells
   have zg := GB.out.cells
   go_wp2_with fail
   refine (hEq.out w10.heap.size cg cw Ag Aw w10 (Tre.rd OG.out.1 HM.out) (Tre.rd OW.out.1 HM.out) (Nat.le_refl _)).mono ?_
   rintro e w11 ⟨rfl, b11⟩
   clear zw zg
   have sw11 := b11.size
   replace HB := hid (HB.out.trans (b11.mono HB.out.size))
   replace OW := hid (OW.out.below (b11.mono (by omega)))
   replace OG := hid (OG.out.below (b11.mono (by omega)))
   replace WB := hid (WB.out.below b11 (by omega))
   replace GB := hid (GB.out.below b11 (by omega))
   clear b11
   have zg := GB.out.cells
   go_wp2_with fail
   refine (hMq.out w6.heap.size cg Ag w11 (Tre.row OG.out.1 HM.out)).mono ?_
   rintro e w12 ⟨rfl, o12, c12⟩
   have s12 := c12.size
   have hg := fun k hk => (show w6.heap.size ≤ k ∧ k < w7.heap.size from ⟨(World.ownsRow.lt OG.out.1 k hk).1, OG.out.2 k hk⟩)
   have hgb := blk_apart OG.out.1 GB.out (by decide)
   replace HB := hid (HB.out.trans (c12.below (B := w1.heap.size) (by omega) (fun x hx hc => by have := hg x hc; omega)))
   replace OW := hid (OW.out.chg c12 (by omega) (fun k h1 h2 hc => by have := hg k hc; omega))
   replace WB := hid (WB.out.chg c12 (fun hc => by have := hg _ hc; omega))
   replace GB := hid (GB.out.chg c12 (fun hc => hgb hc))
   have OGM := hid (show OwnEH w12 w6.heap.size w7.heap.size (.slice Ag m cg) (marks 1 m) from ⟨by unfold Tre; rw [marks_length]; exact o12, OG.out.2⟩)
   clear o12 c12 hg hgb OG zg
   have zg := GB.out.cells
   go_wp2_with fail
   refine (hHq.out w12.heap.size cg Ag w12 (Nat.le_refl _) (Tre.rd OGM.out.1 (marks_length _ _))).mono ?_
   rintro e w13 ⟨rfl, b13⟩
   clear zg
   have sw13 := b13.size
   replace HB := hid (HB.out.trans (b13.mono HB.out.size))
   replace OW := hid (OW.out.below (b13.mono (by omega)))
   replace OGM := hid (OGM.out.below (b13.mono (by omega)))
   replace WB := hid (WB.out.below b13 (by omega))
   replace GB := hid (GB.out.below b13 (by omega))
   clear b13
   have hX13 := hid (fun (V : World) (b : Below w13.heap.size w13 V) => (show V.cell? ⟨w.heap.size, 0, none⟩ = some (.slice A n c) ∧ V.cell? ⟨w.heap.size + 1, 0, none⟩ = some (.int .i64 t) ∧ V.cell? ⟨w.heap.size + 1, 1, none⟩ = some (.int .i64 wa) ∧ V.cell? ⟨w.heap.size + 1, 2, none⟩ = some (.int .i64 fa) ∧ V.cell? ⟨w.heap.size + 1, 3, none⟩ = some (.int .i64 mo) from ⟨((HP1.out.below HB.out (by omega)).below b (by omega)).cells 0, ((HY1.out.below HB.out (by omega)).below b (by omega)).cells 0, ((HY1.out.below HB.out (by omega)).below b (by omega)).cells 1, ((HY1.out.below HB.out (by omega)).below b (by omega)).cells 2, ((HY1.out.below HB.out (by omega)).below b (by omega)).cells 3⟩))
   have cP := hid (fun (W : World) (b : Below w13.heap.size w13 W) => (hT.out W (hR.out.below (HB1.out.trans ((HB.out.trans (b.mono HB.out.size)).mono HB1.out.size))) (HB1.out.trans ((HB.out.trans (b.mono HB.out.size)).mono HB1.out.size)).size).mono (fun e w' (h : ∃ g, e = Ending.returned (.agg #[.slice (some ⟨g, 0, none⟩) n n]) ∧ OwnP w' W.heap.size (.slice (some ⟨g, 0, none⟩) n n) p ∧ Below W.heap.size W w') =>
    show ∃ g, e = Ending.returned (.agg #[.slice (some ⟨g, 0, none⟩) n n]) ∧ OwnP w' w13.heap.size (.slice (some ⟨g, 0, none⟩) n n) p ∧ Below w13.heap.size w13 w' ∧ (∀ g, Blk W g 39 #[.int .i64 0, .int .i64 0, .slice none 0 0, .int .i64 0] → Blk w' g 39 #[.int .i64 0, .int .i64 0, .slice none 0 0, .int .i64 0]) from let ⟨g, he, ho, hb⟩ := h; ⟨g, he, ho.mono b.size, b.trans (hb.mono b.size), fun g hg => hg.below hb hg.lt⟩))
   have cY := hid (fun (W : World) (g : Nat) (b : Below w13.heap.size w13 W) (o : OwnP W w13.heap.size (.slice (some ⟨g, 0, none⟩) n n) p) => (hTY.out W).mono (fun e w' (h : e = Ending.returned (.agg #[.int .i64 t, .int .i64 wa, .int .i64 fa, .int .i64 mo]) ∧ Below W.heap.size W w') =>
    show e = Ending.returned (.agg #[.int .i64 t, .int .i64 wa, .int .i64 fa, .int .i64 mo]) ∧ (OwnP w' w13.heap.size (.slice (some ⟨g, 0, none⟩) n n) p) ∧ Below w13.heap.size w13 w' ∧ (∀ g, Blk W g 39 #[.int .i64 0, .int .i64 0, .slice none 0 0, .int .i64 0] → Blk w' g 39 #[.int .i64 0, .int .i64 0, .slice none 0 0, .int .i64 0]) from ⟨h.1, o.below h.2, b.trans (h.2.mono b.size), fun g hg => hg.below h.2 hg.lt⟩))
   have cF := hid (fun (W : World) (g : Nat) (b : Below w13.heap.size w13 W) (o : OwnP W w13.heap.size (.slice (some ⟨g, 0, none⟩) n n) p) => (HI.out _ n (some ⟨g, 0, none⟩) W o).mono (fun e w' (h : ∃ Aw cw, e = Ending.returned (.tuple #[.agg #[.int .i64 ok, .int .i64 ov, .slice Aw m cw, .int .i64 os], .int .i64 k1, .int .i64 k2, .bool k0]) ∧ Tre w' W.heap.size (.slice Aw m cw) q ∧ Below W.heap.size W w') =>
    show ∃ Aw cw, e = Ending.returned (.tuple #[.agg #[.int .i64 ok, .int .i64 ov, .slice Aw m cw, .int .i64 os], .int .i64 k1, .int .i64 k2, .bool k0]) ∧ Tre w' w13.heap.size (.slice Aw m cw) q ∧ Below w13.heap.size w13 w' ∧ (∀ g, Blk W g 39 #[.int .i64 0, .int .i64 0, .slice none 0 0, .int .i64 0] → Blk w' g 39 #[.int .i64 0, .int .i64 0, .slice none 0 0, .int .i64 0]) from let ⟨Aw, cw, he, ho, hb⟩ := h; ⟨Aw, cw, he, own_mono ho b.size, b.trans (hb.mono b.size), fun g hg => hg.below hb hg.lt⟩))
   go_upto_region 24 with fail
   go_cut [24, 25, 26, 27] (fun s1' s2' s3' s4' wx => ∃ b Aw cw, s1' = .pointer (some ⟨b, 0, none⟩) ∧ s2' = .int .i64 k1 ∧ s3' = .int .i64 k2 ∧ s4' = .bool k0 ∧ MidO w13 b #[.int .i64 ok, .int .i64 ov, .slice Aw m cw, .int .i64 os] (.slice Aw m cw) q wx)
   case first =>
    obtain ⟨z0, z1, z2, z3, z4⟩ := hX13.out w13 (Below.refl _ _)
    have bD : Below w13.heap.size w13 w13.drew := (Below.refl _ _).drew
    go_wp2_with fail
    go_region_held3 (fun V => V.cell? ⟨w.heap.size, 0, none⟩ = some (.slice A n c) ∧ V.cell? ⟨w.heap.size + 1, 0, none⟩ = some (.int .i64 t) ∧ V.cell? ⟨w.heap.size + 1, 1, none⟩ = some (.int .i64 wa) ∧ V.cell? ⟨w.heap.size + 1, 2, none⟩ = some (.int .i64 fa) ∧ V.cell? ⟨w.heap.size + 1, 3, none⟩ = some (.int .i64 mo))
     (first | exact ⟨z0, z1, z2, z3, z4⟩ | (refine hX13.out _ ?_; (first | assumption | with_reducible exact Below.refl _ _ | with_reducible exact (Below.refl _ _).drew | with_reducible exact belA _ _ | with_reducible exact belAD _ _ | with_reducible exact belS4 (by assumption) (by first | with_reducible exact Nat.le_refl _ | with_reducible exact Below.size (by assumption)) _ _ _ _ | with_reducible exact belA2 (by assumption) _ | with_reducible exact belAD2 (by assumption) _ | with_reducible exact belD2 (by assumption))))
     (first | (go_at_call 25; refine (cP.out _ ?_).mono ?_; (first | assumption | with_reducible exact Below.refl _ _ | with_reducible exact (Below.refl _ _).drew | with_reducible exact belA _ _ | with_reducible exact belAD _ _ | with_reducible exact belS4 (by assumption) (by first | with_reducible exact Nat.le_refl _ | with_reducible exact Below.size (by assumption)) _ _ _ _ | with_reducible exact belA2 (by assumption) _ | with_reducible exact belAD2 (by assumption) _ | with_reducible exact belD2 (by assumption)); rintro e wT ⟨gt, rfl, oT, bT, hk⟩; (try (have hz := hk w13.heap.size (by first | with_reducible exact boxA _ _ _ | with_reducible exact boxAD _ _ _))); (try (have hz := hk _ hz)); clear hk) | (go_at_call 16; refine (cY.out _ gt ?_ ?_).mono ?_; (first | assumption | with_reducible exact Below.refl _ _ | with_reducible exact (Below.refl _ _).drew | with_reducible exact belA _ _ | with_reducible exact belAD _ _ | with_reducible exact belS4 (by assumption) (by first | with_reducible exact Nat.le_refl _ | with_reducible exact Below.size (by assumption)) _ _ _ _ | with_reducible exact belA2 (by assumption) _ | with_reducible exact belAD2 (by assumption) _ | with_reducible exact belD2 (by assumption)); (first | assumption | with_reducible exact ownA oT _ | with_reducible exact ownAD oT _ | with_reducible exact ownD oT); rintro e wV ⟨rfl, oV, bV, hk⟩; (try (have hz := hk wT.heap.size (by first | with_reducible exact boxA _ _ _ | with_reducible exact boxAD _ _ _))); (try (have hz := hk _ hz)); clear hk) | (go_at_call 26; refine (cF.out _ gt ?_ ?_).mono ?_; (first | assumption | with_reducible exact Below.refl _ _ | with_reducible exact (Below.refl _ _).drew | with_reducible exact belA _ _ | with_reducible exact belAD _ _ | with_reducible exact belS4 (by assumption) (by first | with_reducible exact Nat.le_refl _ | with_reducible exact Below.size (by assumption)) _ _ _ _ | with_reducible exact belA2 (by assumption) _ | with_reducible exact belAD2 (by assumption) _ | with_reducible exact belD2 (by assumption)); (first | assumption | with_reducible exact ownA oV _ | with_reducible exact ownAD oV _ | with_reducible exact ownD oV); rintro e wF ⟨Aw, cw, rfl, tF, bF, hk⟩; (try (have hz := hk wV.heap.size (by first | with_reducible exact boxA _ _ _ | with_reducible exact boxAD _ _ _))); (try (have hz := hk _ hz)); (try (have zz := hz.cells; have fz := hz.frozen)); clear hk))
    all_goals
     go_wp2_with fail
     go_meet
     first
      | exact ⟨_, Aw, cw, rfl, rfl, rfl, rfl, MidO.early hz bF tF (by first | exact Nat.le_refl _ | exact Below.size (by assumption))⟩
      | exact ⟨_, Aw, cw, rfl, rfl, rfl, rfl, MidO.late bF tF⟩
   case rest =>
    obtain ⟨bh, Ah, ch, rfl, rfl, rfl, rfl, hmid⟩ := hcut
    generalize hwx : wc = w14 at *
    clear hwx
    have HBX := hid hmid.box
    have OH := hid (OwnEH.of hmid.own)
    have lbh := hmid.hb
    have mbh := hmid.box.lt
    have bF := hmid.below
    clear hmid cY cF hX13 cP
    have sw14 := bF.size
    replace HB := hid (HB.out.trans (bF.mono HB.out.size))
    replace OW := hid (OW.out.below (bF.mono (by omega)))
    replace OGM := hid (OGM.out.below (bF.mono (by omega)))
    replace WB := hid (WB.out.below bF (by omega))
    replace GB := hid (GB.out.below bF (by omega))
    clear bF
    have zw := WB.out.cells
    have zg := HBX.out.cells
    go_wp2_with fail
    refine (hEq.out w14.heap.size ch cw Ah Aw w14 (Tre.rd OH.out.1 HM.out) (Tre.rd OW.out.1 HM.out) (Nat.le_refl _)).mono ?_
    rintro e w15 ⟨rfl, b15⟩
    clear zw zg
    have sw15 := b15.size
    replace HB := hid (HB.out.trans (b15.mono HB.out.size))
    replace OW := hid (OW.out.below (b15.mono (by omega)))
    replace OGM := hid (OGM.out.below (b15.mono (by omega)))
    replace WB := hid (WB.out.below b15 (by omega))
    replace GB := hid (GB.out.below b15 (by omega))
    replace HBX := hid (HBX.out.below b15 (by omega))
    replace OH := hid (OH.out.below (b15.mono (by omega)))
    clear b15
    have zg := GB.out.cells
    go_wp2_with fail
    refine (hHq.out w15.heap.size cg Ag w15 (Nat.le_refl _) (Tre.rd OGM.out.1 (marks_length _ _))).mono ?_
    rintro e w16 ⟨rfl, b16⟩
    have hbf := hid (HB.out.trans (b16.mono HB.out.size))
    go_wp2_with fail
    go_ret
    exact ⟨rfl, HB1.out.trans (hbf.out.mono HB1.out.size)⟩
set_option maxRecDepth 100000 in
theorem lifted (os : Os) (started : os.Started) (H : Type) (enc : TypeId × Value → H) :
  ReturnsInHanded {} Try.checked os 5 .any (Rows.fnExactRetryRunSpec.pre6 enc Try.prog Try.f5 Rows.fnExactRetryRunRow.domain false) (Rows.fnExactRetryRunSpec.post enc Try.prog Try.f5 false true false false) := by
 refine returnsInHanded_of_change (C := Try.checked) own started (by kernel_rfl) Try.func5
  (ChangeSpec.witness6 (enc := enc) (C := Try.checked) false ⟨#[], #[.agg #[.slice none 0 0], .int .i64 0, .int .i64 0, .int .i64 0, .agg #[.int .i64 0, .int .i64 0, .int .i64 0, .int .i64 0]], []⟩ 8 (by kernel_rfl) (by kernel_rfl) (by kernel_rfl) (by kernel_rfl)) ?_
 intro W base args ds gs before hval0 hW hcnd _
 have hval : ∀ (j : Nat) t v, Try.f5.params[j]? = some t → args[j]? = some v → Value.okWide Try.prog W .any base t v := hval0
 have hW' := hW
 obtain ⟨p, q, hA0, hV, rfl, hfz, hnd⟩ := hW
 have hA : DataW.TrodAll enc Try.prog W 0 (fun _ => true) true Try.f5.params.toList args.toList ds p := hA0
 rw [Try.params5] at hA hval
 obtain ⟨v0, vs0, d0, ds0, p0, q0, hargs, rfl, rfl, h0, rest0⟩ := trodAll_cons hA
 obtain ⟨v1, vs1, d1, ds1, p1, q1, rfl, rfl, rfl, h1, rest1⟩ := trodAll_cons rest0
 obtain ⟨v2, vs2, d2, ds2, p2, q2, rfl, rfl, rfl, h2, rest2⟩ := trodAll_cons rest1
 obtain ⟨v3, vs3, d3, ds3, p3, q3, rfl, rfl, rfl, h3, rest3⟩ := trodAll_cons rest2
 obtain ⟨v4, vs4, d4, ds4, p4, q4, rfl, rfl, rfl, h4, rest4⟩ := trodAll_cons rest3
 obtain ⟨rfl, rfl, rfl⟩ := trodAll_nil rest4
 obtain rfl : args = #[v0, v1, v2, v3, v4] := by cases args; simp_all
 obtain ⟨rfl, rfl⟩ := trodVars_none hV
 obtain ⟨A0, c0, P0, rfl, n0, r0, f0, s0⟩ := open_prog (hval 0 35 v0 rfl rfl) h0
 obtain ⟨z1, rfl, f1⟩ := open_int_fit (hval 1 3 v1 rfl rfl) h1
 obtain ⟨z2, rfl, f2⟩ := open_int_fit (hval 2 3 v2 rfl rfl) h2
 obtain ⟨z3, rfl, f3⟩ := open_int_fit (hval 3 3 v3 rfl rfl) h3
 obtain ⟨t4, wa4, fa4, mo4, rfl, f4⟩ := open_Policy (hval 4 23 v4 rfl rfl) h4
 have lt0 : ∀ x ∈ p0, x.block < W.heap.size := by obtain ⟨m, hm⟩ := h0; exact DataW.trod_lt m _ _ _ hm
 have lt1 : ∀ x ∈ p1, x.block < W.heap.size := by obtain ⟨m, hm⟩ := h1; exact DataW.trod_lt m _ _ _ hm
 have lt2 : ∀ x ∈ p2, x.block < W.heap.size := by obtain ⟨m, hm⟩ := h2; exact DataW.trod_lt m _ _ _ hm
 have lt3 : ∀ x ∈ p3, x.block < W.heap.size := by obtain ⟨m, hm⟩ := h3; exact DataW.trod_lt m _ _ _ hm
 have lt4 : ∀ x ∈ p4, x.block < W.heap.size := by obtain ⟨m, hm⟩ := h4; exact DataW.trod_lt m _ _ _ hm
 clear hA0 hval0
 refine (walk A0 c0 P0 z1 z2 z3 t4 wa4 fa4 mo4 n0 s0 W r0).mono fun e W' ⟨he, hg⟩ => ?_
 subst he
 exact ⟨_, rfl, _, _, _, [], _, [], hW', trodAll_mk1 (shut_bool Try.underlying4 _), (trodAll_cons_mk (Below.trod laidOut (by kernel_rfl) (of_decide_eq_true (by kernel_rfl)) h0 hg lt0) (trodAll_cons_mk (Below.trod laidOut (by kernel_rfl) (of_decide_eq_true (by kernel_rfl)) h1 hg lt1) (trodAll_cons_mk (Below.trod laidOut (by kernel_rfl) (of_decide_eq_true (by kernel_rfl)) h2 hg lt2) (trodAll_cons_mk (Below.trod laidOut (by kernel_rfl) (of_decide_eq_true (by kernel_rfl)) h3 hg lt3) (trodAll_cons_mk (Below.trod laidOut (by kernel_rfl) (of_decide_eq_true (by kernel_rfl)) h4 hg lt4) trodAll_mk0))))), rfl, hg.frame _, fun h => by cases h⟩
theorem over : Rows.fnExactRetryRunRow.holds Try.pinned (OpenSpec.ofChange Rows.fnExactRetryRunSpec) :=
 OpenClaim.holds_of_wide 5 Try.f5 rfl rfl rfl rfl rfl rfl rfl ⟨rfl, rfl, rfl, rfl, rfl⟩ rfl rfl rfl rfl rfl (by kernel_rfl) Try.func5 (by kernel_rfl)
  (of_decide_eq_true (by kernel_rfl)) (by unfold Func.isWrapper; first | (rw [if_pos (by decide +kernel)]; kernel_rfl) | (rw [if_neg (by decide +kernel)]; exact ⟨rfl, rfl⟩))
  (fun os started H enc _ => lifted os started H enc)
theorem proved : Rows.FnExactRetryRunSaid :=
 over
#print axioms proved
end Go.Proofs.Ytibadkjdchdnjaa.fnExactRetryRun
-- squeezed
