import Derived.Test.YtdmcgkcpclepfaaCxs
import Derived.Test.YtdmcgkcpclepfaaXrl
set_option linter.all false
namespace Go.Proofs.Ytdmcgkcpclepfaa.Cxi
open Lib (hid)
open Go.ChangeShapes Go.WideShapes Go.ChangeAt Go.RowKit
open PL Mem Sst To AskP StpS Res Prg PrgS IntsP LawI SetM Xcp Xpl Xrs Xri Cxp Cxs
theorem usesShared_any (k a b : Int) (w : World) :
  Calls Try.prog 109 #[.agg #[.int .i64 k, .int .i64 a, .int .i64 b]] w fun e w' => e = .returned (.bool (shareS (k, a, b))) ∧ Below w.heap.size w w' := by
 by_cases h1 : k = 12
 ·subst h1
  go_enter Try.func109, Try.ntmps109
  go_wp2_with fail
  go_ret
  exact ⟨rfl, App.Bl.alloc (App.Bl.refl _) _⟩
 ·have k1 : (k == 12) = false := by simpa using h1
  have hs := hid (show shareS (k, a, b) = (k == 13) by unfold shareS; dsimp only; rw [k1]; rfl)
  clear h1
  go_enter Try.func109, Try.ntmps109
  go_wp2_with fail
  go_ret
  exact ⟨by rw [hs.out] <;> rfl, App.Bl.alloc (App.Bl.refl _) _⟩
set_option maxRecDepth 100000 in
theorem isPlain_any (k a b : Int) (hk : K13 k) (w : World) :
  Calls Try.prog 66 #[.agg #[.int .i64 k, .int .i64 a, .int .i64 b]] w fun e w' => e = .returned (.bool (plainS (k, a, b))) ∧ Below w.heap.size w w' := by
 rcases hk with rfl | rfl | rfl | rfl | rfl | rfl | rfl | rfl | rfl | rfl | rfl | rfl | rfl
 ·go_enter Try.func66, Try.ntmps66
  go_wp2_with fail
  go_ret
  exact ⟨rfl, App.Bl.alloc (App.Bl.refl _) _⟩
 ·go_enter Try.func66, Try.ntmps66
  go_wp2_with fail
  go_ret
  exact ⟨rfl, App.Bl.alloc (App.Bl.refl _) _⟩
 ·go_enter Try.func66, Try.ntmps66
  go_wp2_with fail
  go_ret
  exact ⟨rfl, App.Bl.alloc (App.Bl.refl _) _⟩
 ·go_enter Try.func66, Try.ntmps66
  go_wp2_with fail
  go_ret
  exact ⟨rfl, App.Bl.alloc (App.Bl.refl _) _⟩
 ·go_enter Try.func66, Try.ntmps66
  go_wp2_with fail
  go_ret
  exact ⟨rfl, App.Bl.alloc (App.Bl.refl _) _⟩
 ·go_enter Try.func66, Try.ntmps66
  go_wp2_with fail
  go_ret
  exact ⟨rfl, App.Bl.alloc (App.Bl.refl _) _⟩
 ·go_enter Try.func66, Try.ntmps66
  go_wp2_with fail
  go_ret
  exact ⟨rfl, App.Bl.alloc (App.Bl.refl _) _⟩
 ·go_enter Try.func66, Try.ntmps66
  go_wp2_with fail
  go_ret
  exact ⟨rfl, App.Bl.alloc (App.Bl.refl _) _⟩
 ·go_enter Try.func66, Try.ntmps66
  go_wp2_with fail
  go_ret
  exact ⟨rfl, App.Bl.alloc (App.Bl.refl _) _⟩
 ·go_enter Try.func66, Try.ntmps66
  go_wp2_with fail
  go_ret
  exact ⟨rfl, App.Bl.alloc (App.Bl.refl _) _⟩
 ·go_enter Try.func66, Try.ntmps66
  go_wp2_with fail
  go_ret
  exact ⟨rfl, App.Bl.alloc (App.Bl.refl _) _⟩
 ·go_enter Try.func66, Try.ntmps66
  go_wp2_with fail
  go_ret
  exact ⟨rfl, App.Bl.alloc (App.Bl.refl _) _⟩
 ·go_enter Try.func66, Try.ntmps66
  go_wp2_with fail
  go_ret
  exact ⟨rfl, App.Bl.alloc (App.Bl.refl _) _⟩
set_option maxRecDepth 100000 in
theorem areOrdered_any (k a b k' a' b' : Int) (w : World) :
  Calls Try.prog 67 #[.agg #[.int .i64 k, .int .i64 a, .int .i64 b], .agg #[.int .i64 k', .int .i64 a', .int .i64 b']] w fun e w' => e = .returned (.bool (ordS (k, a, b) (k', a', b'))) ∧ Below w.heap.size w w' := by
 have cS := hid (fun W => usesShared_any k a b W)
 have cT := hid (fun W => usesShared_any k' a' b' W)
 have h2 := hid (App.Bl.alloc (App.Bl.alloc (App.Bl.refl w) (.cells #[.int .i64 k, .int .i64 a, .int .i64 b] 58)) (.cells #[.int .i64 k', .int .i64 a', .int .i64 b'] 58))
 have hf : ordS (k, a, b) (k', a', b') = ((k == 3 && k' == 3) || (shareS (k, a, b) && shareS (k', a', b'))) := rfl
 by_cases h3 : (k == 3 && k' == 3) = true
 ·have hr := hid (show ordS (k, a, b) (k', a', b') = true by rw [hf, h3]; rfl)
  simp only [Bool.and_eq_true, beq_iff_eq] at h3
  obtain ⟨rfl, rfl⟩ := h3
  clear hf cS cT
  go_enter Try.func67, Try.ntmps67
  go_wp2_with fail
  go_ret
  exact ⟨by rw [hr.out] <;> rfl, h2.out⟩
 ·have h3' : (k == 3 && k' == 3) = false := by simpa using h3
  rw [h3', Bool.false_or] at hf
  generalize ordS (k, a, b) (k', a', b') = R at *
  have go : ∀ W : World, True := fun _ => trivial
  cases hs : shareS (k, a, b) with
  | false =>
   rw [hs] at cS hf
   have hr := hid (show R = false from hf)
   clear hf hs cT
   by_cases hk : k = 3
   ·subst hk
    have hk' : (k' == 3) = false := by simpa using h3'
    clear h3 h3'
    go_enter Try.func67, Try.ntmps67
    go_wp2_with fail
    refine (cS.out _).mono ?_
    rintro e w1 ⟨rfl, b1⟩
    have B1 := hid (h2.out.trans (b1.mono h2.out.size))
    clear b1
    go_wp2_with fail
    go_ret
    exact ⟨by rw [hr.out] <;> rfl, B1.out⟩
   ·have hk' : (k == 3) = false := by simpa using hk
    clear h3 h3' hk
    go_enter Try.func67, Try.ntmps67
    go_wp2_with fail
    refine (cS.out _).mono ?_
    rintro e w1 ⟨rfl, b1⟩
    have B1 := hid (h2.out.trans (b1.mono h2.out.size))
    clear b1
    go_wp2_with fail
    go_ret
    exact ⟨by rw [hr.out] <;> rfl, B1.out⟩
  | true =>
   have hk' : (k == 3) = false := by
    unfold shareS at hs
    simp only [Bool.or_eq_true, beq_iff_eq] at hs
    simp
    omega
   rw [hs, Bool.true_and] at hf
   rw [hs] at cS
   rw [← hf] at cT
   clear hf hs h3 h3'
   go_enter Try.func67, Try.ntmps67
   go_upto_region 1 with fail
   change (fun V => Code.wp _ _ _ _ V) _
   refine gen_world (X := fun V => Blk V w.heap.size 58 #[.int .i64 k, .int .i64 a, .int .i64 b] ∧ Blk V (w.heap.size + 1) 58 #[.int .i64 k', .int .i64 a', .int .i64 b'] ∧ Below w.heap.size w V) ⟨heap2_0 w _ _, heap2_1 w _ _, h2.out⟩ ?_
   rintro w1 ⟨x1, x2, b1⟩
   have y0 := x1.cells 0
   have y1 := x1.cells 1
   have y2 := x1.cells 2
   have X2 := hid x2
   have B1 := hid b1
   clear x1 x2 b1
   go_wp2_with fail
   refine (cS.out _).mono ?_
   rintro e w2 ⟨rfl, b2⟩
   have B2 := hid (B1.out.trans (b2.mono B1.out.size))
   have u0 := (X2.out.below b2 X2.out.lt).cells 0
   have u1 := (X2.out.below b2 X2.out.lt).cells 1
   have u2 := (X2.out.below b2 X2.out.lt).cells 2
   clear b2 y0 y1 y2
   go_wp2_with fail
   refine (cT.out _).mono ?_
   rintro e w3 ⟨rfl, b3⟩
   have B3 := hid (B2.out.trans (b3.mono B2.out.size))
   clear b3
   go_wp2_with fail
   go_ret
   exact ⟨rfl, B3.out⟩
theorem meetB_iff (b c : Int → Bool) : meetB b c = true ↔ ((b 0 && c 0) = true ∨ (b 1 && c 1) = true ∨ (b 2 && c 2) = true ∨ (b 3 && c 3) = true) := by
 unfold meetB
 rw [Bool.or_eq_true, Bool.or_eq_true, Bool.or_eq_true]
set_option maxRecDepth 100000 in
set_option maxHeartbeats 4000000 in
theorem meets_any (b c : Int → Bool) (w : World) :
  Calls Try.prog 110 #[.agg #[.bool (b 0), .bool (b 1), .bool (b 2), .bool (b 3)], .agg #[.bool (c 0), .bool (c 1), .bool (c 2), .bool (c 3)]] w fun e w' => e = .returned (.bool (meetB b c)) ∧ Below w.heap.size w w' := by
 have HM := hid (meetB_iff b c)
 generalize meetB b c = R at *
 generalize b 0 = b0 at *
 generalize b 1 = b1 at *
 generalize b 2 = b2 at *
 generalize b 3 = b3 at *
 generalize c 0 = c0 at *
 generalize c 1 = c1 at *
 generalize c 2 = c2 at *
 generalize c 3 = c3 at *
 go_enter Try.func110, Try.ntmps110
 go_upto_region 1 with fail
 change (fun V => Code.wp _ _ _ _ V) _
 refine gen_world (X := fun V => Blk V w.heap.size 97 #[.bool b0, .bool b1, .bool b2, .bool b3] ∧ Blk V (w.heap.size + 1) 97 #[.bool c0, .bool c1, .bool c2, .bool c3] ∧ Below w.heap.size w V) ⟨heap2_0 w _ _, heap2_1 w _ _, App.Bl.alloc (App.Bl.alloc (App.Bl.refl _) _) _⟩ ?_
 rintro w1 ⟨x1, x2, bb1⟩
 have y0 := x1.cells 0
 have y1 := x1.cells 1
 have y2 := x1.cells 2
 have y3 := x1.cells 3
 have X2 := hid x2
 have B1 := hid bb1
 clear x1 x2 bb1
 go_wp2_with fail
 go_loopw [8] (fun i wr => ((i = .int .i64 0) ∨ (i = .int .i64 1 ∧ Hid ((b0 && c0) = false)) ∨ (i = .int .i64 2 ∧ Hid ((b0 && c0) = false ∧ (b1 && c1) = false)) ∨ (i = .int .i64 3 ∧ Hid ((b0 && c0) = false ∧ (b1 && c1) = false ∧ (b2 && c2) = false)) ∨ (i = .int .i64 4 ∧ Hid ((b0 && c0) = false ∧ (b1 && c1) = false ∧ (b2 && c2) = false ∧ (b3 && c3) = false))) ∧ w1 = wr) (fun i _ => 4 - (intOf i).toNat)
 case atStart => exact ⟨.inl rfl, rfl⟩
 case round =>
  obtain ⟨hc, rfl⟩ := hrel
  clear y0 y1 y2 y3
  have u0 := X2.out.cells 0
  have u1 := X2.out.cells 1
  have u2 := X2.out.cells 2
  have u3 := X2.out.cells 3
  rcases hc with rfl | ⟨rfl, hh⟩ | ⟨rfl, hh⟩ | ⟨rfl, hh⟩ | ⟨rfl, hh⟩
  ·have hix := fun u => Xrl.ix0 b0 b1 b2 b3 u
   cases b0 with
   | false =>
    go_wp2_with fail
    go_roundw
    case rel => exact ⟨.inr (.inl ⟨rfl, hid (rfl)⟩), by first | rfl | trivial⟩
    case measure => simp [intOf]
   | true =>
    cases c0 with
    | false =>
     go_wp2_with fail
     go_roundw
     case rel => exact ⟨.inr (.inl ⟨rfl, hid (rfl)⟩), by first | rfl | trivial⟩
     case measure => simp [intOf]
    | true =>
     have hs := hid (show R = true from HM.out.2 (.inl rfl))
     go_wp2_with fail
     go_ret
     exact ⟨by rw [hs.out] <;> rfl, B1.out⟩
  ·have hix := fun u => Xrl.ix1 b0 b1 b2 b3 u
   cases b1 with
   | false =>
    go_wp2_with fail
    go_roundw
    case rel => exact ⟨.inr (.inr (.inl ⟨rfl, hid ⟨hh.out, rfl⟩⟩)), by first | rfl | trivial⟩
    case measure => simp [intOf]
   | true =>
    cases c1 with
    | false =>
     go_wp2_with fail
     go_roundw
     case rel => exact ⟨.inr (.inr (.inl ⟨rfl, hid ⟨hh.out, rfl⟩⟩)), by first | rfl | trivial⟩
     case measure => simp [intOf]
    | true =>
     have hs := hid (show R = true from HM.out.2 (.inr (.inl rfl)))
     go_wp2_with fail
     go_ret
     exact ⟨by rw [hs.out] <;> rfl, B1.out⟩
  ·have hix := fun u => Xrl.ix2 b0 b1 b2 b3 u
   cases b2 with
   | false =>
    go_wp2_with fail
    go_roundw
    case rel => exact ⟨.inr (.inr (.inr (.inl ⟨rfl, hid ⟨hh.out.1, hh.out.2, rfl⟩⟩))), by first | rfl | trivial⟩
    case measure => simp [intOf]
   | true =>
    cases c2 with
    | false =>
     go_wp2_with fail
     go_roundw
     case rel => exact ⟨.inr (.inr (.inr (.inl ⟨rfl, hid ⟨hh.out.1, hh.out.2, rfl⟩⟩))), by first | rfl | trivial⟩
     case measure => simp [intOf]
    | true =>
     have hs := hid (show R = true from HM.out.2 (.inr (.inr (.inl rfl))))
     go_wp2_with fail
     go_ret
     exact ⟨by rw [hs.out] <;> rfl, B1.out⟩
  ·have hix := fun u => Xrl.ix3 b0 b1 b2 b3 u
   cases b3 with
   | false =>
    go_wp2_with fail
    go_roundw
    case rel => exact ⟨.inr (.inr (.inr (.inr (⟨rfl, hid ⟨hh.out.1, hh.out.2.1, hh.out.2.2, rfl⟩⟩)))), by first | rfl | trivial⟩
    case measure => simp [intOf]
   | true =>
    cases c3 with
    | false =>
     go_wp2_with fail
     go_roundw
     case rel => exact ⟨.inr (.inr (.inr (.inr (⟨rfl, hid ⟨hh.out.1, hh.out.2.1, hh.out.2.2, rfl⟩⟩)))), by first | rfl | trivial⟩
     case measure => simp [intOf]
    | true =>
     have hs := hid (show R = true from HM.out.2 (.inr (.inr (.inr rfl))))
     go_wp2_with fail
     go_ret
     exact ⟨by rw [hs.out] <;> rfl, B1.out⟩
  ·have hs := hid (show R = false by
    cases R with
    | false => rfl
    | true =>
     have h1 := HM.out.1 rfl
     rw [hh.out.1, hh.out.2.1, hh.out.2.2.1, hh.out.2.2.2] at h1
     simp at h1)
   clear hh
   go_wp2_with fail
   go_ret
   exact ⟨by rw [hs.out] <;> rfl, B1.out⟩
set_option maxRecDepth 100000 in
set_option maxHeartbeats 8000000 in
theorem disturbs_any (m : Nat) (k a b k' a' b' : Int) (hs : okStep m (k, a, b) = true) (ht : okStep m (k', a', b') = true) (w : World) :
  Calls Try.prog 68 #[.agg #[.int .i64 k, .int .i64 a, .int .i64 b], .agg #[.int .i64 k', .int .i64 a', .int .i64 b']] w fun e w' => e = .returned (.bool (distS (k, a, b) (k', a', b'))) ∧ Below w.heap.size w w' := by
 have cW := hid (fun W => writtenBy_any m k a b hs W)
 have cR' := hid (fun W => readBy_any m k' a' b' ht W)
 have cW' := hid (fun W => writtenBy_any m k' a' b' ht W)
 have hf : distS (k, a, b) (k', a', b') = (meetB (inB (wrL (k, a, b))) (inB (rdL (k', a', b'))) || meetB (inB (wrL (k, a, b))) (inB (wrL (k', a', b')))) := by
  rw [meet_in (wr_regs hs), meet_in (wr_regs hs)]
  rfl
 have h2 := hid (App.Bl.alloc (App.Bl.alloc (App.Bl.refl w) (.cells #[.int .i64 k, .int .i64 a, .int .i64 b] 58)) (.cells #[.int .i64 k', .int .i64 a', .int .i64 b'] 58))
 generalize distS (k, a, b) (k', a', b') = R at *
 generalize wrL (k, a, b) = ws at *
 generalize rdL (k', a', b') = rt at *
 generalize wrL (k', a', b') = wt at *
 unfold RB at cW cR' cW'
 have cM1 := hid (fun W => meets_any (inB ws) (inB rt) W)
 have cM2 := hid (fun W => meets_any (inB ws) (inB wt) W)
 generalize meetB (inB ws) (inB rt) = m1 at *
 generalize meetB (inB ws) (inB wt) = m2 at *
 clear hs ht
 go_enter Try.func68, Try.ntmps68
 go_upto_region 1 with fail
 change (fun V => Code.wp _ _ _ _ V) _
 refine gen_world (X := fun V => Blk V w.heap.size 58 #[.int .i64 k, .int .i64 a, .int .i64 b] ∧ Blk V (w.heap.size + 1) 58 #[.int .i64 k', .int .i64 a', .int .i64 b'] ∧ Below w.heap.size w V) ⟨heap2_0 w _ _, heap2_1 w _ _, h2.out⟩ ?_
 rintro w0 ⟨x1, x2, b0⟩
 have y0 := x1.cells 0
 have y1 := x1.cells 1
 have y2 := x1.cells 2
 have X2 := hid x2
 have B0 := hid b0
 clear x1 x2 b0
 go_wp2_with fail
 refine (cW.out _).mono ?_
 rintro e w2 ⟨rfl, b2⟩
 have B2 := hid (B0.out.trans (b2.mono B0.out.size))
 have X22 := hid (X2.out.below b2 X2.out.lt)
 clear b2 y0 y1 y2 X2
 go_upto_region 2 with fail
 change (fun V => Code.wp _ _ _ _ V) _
 refine gen_world (X := fun V => Blk V w2.heap.size 97 #[.bool (inB ws 0), .bool (inB ws 1), .bool (inB ws 2), .bool (inB ws 3)] ∧ Below w2.heap.size w2 V) ⟨heap1_0 w2 _, (Below.refl _ _).alloc (Nat.le_refl _) _⟩ ?_
 rintro w1 ⟨x3, b3⟩
 have B1 := hid (B2.out.trans (b3.mono B2.out.size))
 have X1 := hid x3
 have X2 := hid (X22.out.below b3 X22.out.lt)
 clear x3 b3
 generalize w2.heap.size = gb at *
 have hX := hid (fun (V : World) (bV : Below w1.heap.size w1 V) => (show V.cell? ⟨w.heap.size + 1, 0, none⟩ = some (.int .i64 k') ∧ V.cell? ⟨w.heap.size + 1, 1, none⟩ = some (.int .i64 a') ∧ V.cell? ⟨w.heap.size + 1, 2, none⟩ = some (.int .i64 b') ∧ V.cell? ⟨gb, 0, none⟩ = some (.bool (inB ws 0)) ∧ V.cell? ⟨gb, 1, none⟩ = some (.bool (inB ws 1)) ∧ V.cell? ⟨gb, 2, none⟩ = some (.bool (inB ws 2)) ∧ V.cell? ⟨gb, 3, none⟩ = some (.bool (inB ws 3)) from ⟨(X2.out.below bV X2.out.lt).cells 0, (X2.out.below bV X2.out.lt).cells 1, (X2.out.below bV X2.out.lt).cells 2, (X1.out.below bV X1.out.lt).cells 0, (X1.out.below bV X1.out.lt).cells 1, (X1.out.below bV X1.out.lt).cells 2, (X1.out.below bV X1.out.lt).cells 3⟩))
 go_wp2_with fail
 have S0 : (fun V => V.cell? ⟨w.heap.size + 1, 0, none⟩ = some (.int .i64 k') ∧ V.cell? ⟨w.heap.size + 1, 1, none⟩ = some (.int .i64 a') ∧ V.cell? ⟨w.heap.size + 1, 2, none⟩ = some (.int .i64 b') ∧ V.cell? ⟨gb, 0, none⟩ = some (.bool (inB ws 0)) ∧ V.cell? ⟨gb, 1, none⟩ = some (.bool (inB ws 1)) ∧ V.cell? ⟨gb, 2, none⟩ = some (.bool (inB ws 2)) ∧ V.cell? ⟨gb, 3, none⟩ = some (.bool (inB ws 3))) w1.drew := hX.out _ (Below.refl _ _).drew
 refine Last2.region_last [] (fun V => V.cell? ⟨w.heap.size + 1, 0, none⟩ = some (.int .i64 k') ∧ V.cell? ⟨w.heap.size + 1, 1, none⟩ = some (.int .i64 a') ∧ V.cell? ⟨w.heap.size + 1, 2, none⟩ = some (.int .i64 b') ∧ V.cell? ⟨gb, 0, none⟩ = some (.bool (inB ws 0)) ∧ V.cell? ⟨gb, 1, none⟩ = some (.bool (inB ws 1)) ∧ V.cell? ⟨gb, 2, none⟩ = some (.bool (inB ws 2)) ∧ V.cell? ⟨gb, 3, none⟩ = some (.bool (inB ws 3))) (by kernel_rfl) ?_
 refine Last2.tk 0 8 (.agg #[.bool (inB ws 0), .bool (inB ws 1), .bool (inB ws 2), .bool (inB ws 3)]) S0 ?_
 simp only [Act.put, Last2.s]
 refine Last2.tk 1 9 (.agg #[.int .i64 k', .int .i64 a', .int .i64 b']) S0 ?_
 simp only [Act.put, Last2.s]
 refine Last2.last_one (i := 2) (o := { dst := some 10, op := .call { callee := .value (.func 56), args := #[.tmp 9], argTypes := #[58] }, type := _, pos := _, after := _, guard := _ }) (by kernel_rfl) rfl rfl (fun K hK => ?_)
 go_simp
 refine (cR'.out w1.drew).mono ?_
 rintro e wa ⟨rfl, ba⟩
 have ta : Below w1.heap.size w1 wa := (Below.refl _ _).drew.trans ba
 refine hK.out _ _ (fun _ => hX.out _ ta) ?_
 clear hK K
 try simp only [Act.put, Last2.s]
 refine Last2.last_one (i := 3) (o := { dst := some 11, op := .call { callee := .value (.func 110), args := #[.tmp 8, .tmp 10], argTypes := #[97, 97] }, type := _, pos := _, after := _, guard := _ }) (by kernel_rfl) rfl rfl (fun K hK => ?_)
 go_simp
 refine (cM1.out wa).mono ?_
 rintro e wb ⟨rfl, bb⟩
 have tb : Below w1.heap.size w1 wb := ta.trans (bb.mono ta.size)
 refine hK.out _ _ (fun _ => hX.out _ tb) ?_
 clear hK K
 try simp only [Act.put, Last2.s]
 have S1 := hX.out _ tb
 cases m1 with
 | true =>
  have hr := hid (show R = true by rw [hf]; rfl)
  clear hf
  refine Last2.last_take (i := 4) (d := some 12) (v := .bool true) rfl rfl (by kernel_rfl) (by kernel_rfl) (by kernel_rfl) (fun _ _ _ h => h) rfl (by kernel_rfl) (by kernel_rfl) rfl ?_ S1 ?_
  ·(intro V hV; (try dsimp only at hV); go_simp; try with_reducible rfl)
  simp only [Act.put, Last2.s]
  refine Last2.last_skip (i := 5) (d := some 13) rfl rfl (by kernel_rfl) (by kernel_rfl) (by kernel_rfl) (fun _ _ _ h => h) rfl (by kernel_rfl) (by kernel_rfl) (by rfl) S1 ?_
  simp only [Act.put, Last2.s]
  refine Last2.last_skip (i := 6) (d := some 14) rfl rfl (by kernel_rfl) (by kernel_rfl) (by kernel_rfl) (fun _ _ _ h => h) rfl (by kernel_rfl) (by kernel_rfl) (by rfl) S1 ?_
  simp only [Act.put, Last2.s]
  refine Last2.last_skip (i := 7) (d := some 15) rfl rfl (by kernel_rfl) (by kernel_rfl) (by kernel_rfl) (fun _ _ _ h => h) rfl (by kernel_rfl) (by kernel_rfl) (by rfl) S1 ?_
  simp only [Act.put, Last2.s]
  refine Last2.last_skip (i := 8) (d := some 16) rfl rfl (by kernel_rfl) (by kernel_rfl) (by kernel_rfl) (fun _ _ _ h => h) rfl (by kernel_rfl) (by kernel_rfl) (by rfl) S1 ?_
  simp only [Act.put, Last2.s]
  refine Last2.last_take (i := 9) (d := some 17) (v := .bool true) rfl rfl (by kernel_rfl) (by kernel_rfl) (by kernel_rfl) (fun _ _ _ h => h) rfl (by kernel_rfl) (by kernel_rfl) rfl ?_ S1 ?_
  ·(intro V hV; (try dsimp only at hV); go_simp; try with_reducible rfl)
  simp only [Act.put, Last2.s]
  refine Last2.last_take (i := 10) (d := some 4) (v := .bool true) rfl rfl (by kernel_rfl) (by kernel_rfl) (by kernel_rfl) (fun _ _ _ h => h) rfl (by kernel_rfl) (by kernel_rfl) rfl ?_ S1 ?_
  ·(intro V hV; (try dsimp only at hV); go_simp; try with_reducible rfl)
  simp only [Act.put, Last2.s]
  refine Last2.last_done (by kernel_rfl) ?_ _
  have TT := hid tb
  go_wp2_with fail
  go_ret
  exact ⟨by rw [hr.out] <;> rfl, B1.out.trans (TT.out.mono B1.out.size)⟩
 | false =>
  have hr := hid (show R = m2 by rw [hf]; rfl)
  clear hf
  refine Last2.last_take (i := 4) (d := some 12) (v := .bool false) rfl rfl (by kernel_rfl) (by kernel_rfl) (by kernel_rfl) (fun _ _ _ h => h) rfl (by kernel_rfl) (by kernel_rfl) rfl ?_ S1 ?_
  ·(intro V hV; (try dsimp only at hV); go_simp; try with_reducible rfl)
  simp only [Act.put, Last2.s]
  refine Last2.last_take (i := 5) (d := some 13) (v := .agg #[.bool (inB ws 0), .bool (inB ws 1), .bool (inB ws 2), .bool (inB ws 3)]) rfl rfl (by kernel_rfl) (by kernel_rfl) (by kernel_rfl) (fun _ _ _ h => h) rfl (by kernel_rfl) (by kernel_rfl) rfl ?_ S1 ?_
  ·(intro V hV; (try dsimp only at hV); go_simp; try with_reducible rfl)
  simp only [Act.put, Last2.s]
  refine Last2.last_take (i := 6) (d := some 14) (v := .agg #[.int .i64 k', .int .i64 a', .int .i64 b']) rfl rfl (by kernel_rfl) (by kernel_rfl) (by kernel_rfl) (fun _ _ _ h => h) rfl (by kernel_rfl) (by kernel_rfl) rfl ?_ S1 ?_
  ·(intro V hV; (try dsimp only at hV); go_simp; try with_reducible rfl)
  simp only [Act.put, Last2.s]
  refine Last2.last_one (i := 7) (o := { dst := some 15, op := .call { callee := .value (.func 60), args := #[.tmp 14], argTypes := #[58] }, type := _, pos := _, after := _, guard := _ }) (by kernel_rfl) rfl rfl (fun K hK => ?_)
  go_simp
  refine (cW'.out wb).mono ?_
  rintro e wc ⟨rfl, bc⟩
  have tc : Below w1.heap.size w1 wc := tb.trans (bc.mono tb.size)
  refine hK.out _ _ (fun _ => hX.out _ tc) ?_
  clear hK K
  try simp only [Act.put, Last2.s]
  refine Last2.last_one (i := 8) (o := { dst := some 16, op := .call { callee := .value (.func 110), args := #[.tmp 13, .tmp 15], argTypes := #[97, 97] }, type := _, pos := _, after := _, guard := _ }) (by kernel_rfl) rfl rfl (fun K hK => ?_)
  go_simp
  refine (cM2.out wc).mono ?_
  rintro e wd ⟨rfl, bd⟩
  have td : Below w1.heap.size w1 wd := tc.trans (bd.mono tc.size)
  refine hK.out _ _ (fun _ => hX.out _ td) ?_
  clear hK K
  try simp only [Act.put, Last2.s]
  have S2 := hX.out _ td
  refine Last2.last_take (i := 9) (d := some 17) (v := .bool m2) rfl rfl (by kernel_rfl) (by kernel_rfl) (by kernel_rfl) (fun _ _ _ h => h) rfl (by kernel_rfl) (by kernel_rfl) rfl ?_ S2 ?_
  ·(intro V hV; (try dsimp only at hV); go_simp; try with_reducible rfl)
  simp only [Act.put, Last2.s]
  refine Last2.last_take (i := 10) (d := some 4) (v := .bool m2) rfl rfl (by kernel_rfl) (by kernel_rfl) (by kernel_rfl) (fun _ _ _ h => h) rfl (by kernel_rfl) (by kernel_rfl) rfl ?_ S2 ?_
  ·(intro V hV; (try dsimp only at hV); go_simp; try with_reducible rfl)
  simp only [Act.put, Last2.s]
  refine Last2.last_done (by kernel_rfl) ?_ _
  have TT := hid td
  go_wp2_with fail
  go_ret
  exact ⟨by rw [hr.out] <;> rfl, B1.out.trans (TT.out.mono B1.out.size)⟩
end Go.Proofs.Ytdmcgkcpclepfaa.Cxi
-- squeezed
