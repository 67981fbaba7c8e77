import Derived.Test.YtikdcnlbjpabjabPrg
import Derived.Test.YtikdcnlbjpabjabSort
set_option linter.all false
namespace Go.Proofs.Ytikdcnlbjpabjab.Pvl
open Lib (hid)
open Go.ChangeShapes Go.WideShapes Go.ChangeAt Go.RowKit
open PL Mem Srun Sst To OwnS AskP StpS Res Swhole Sout Irp RunF IntsP TreeP LawI PArgP Prg SetM SortP
def pvalR (p : Pg) (f low high fuel : Int) : List Int × Bool := (setS (pvalL p f low high fuel), rangeOk p f low high fuel)
theorem pvalL_len (p : Pg) (f low high fuel : Int) : (pvalL p f low high fuel).length ≤ 100000 := by
 unfold pvalL
 split
 ·rename_i h
  have := range_num h
  have h2 := pVals_len p f low fuel (high - low + 1).toNat
  omega
 ·simp
theorem pvalR_len (p : Pg) (f low high fuel : Int) : (pvalR p f low high fuel).1.length ≤ 100000 := Nat.le_trans (setS_len _) (pvalL_len p f low high fuel)
set_option maxRecDepth 100000 in
set_option maxHeartbeats 8000000 in
theorem pvalS_any (lo n c : Nat) (A : Option Addr) (p : Pg) (f low high fuel : Int) (hn : n ≤ 9223372036854775807) (hl : p.length = n) (hsm : Small p 9223372036854775807) (w : World) (ho : OwnP w lo (.slice A n c) p) :
  Calls Try.prog 25 #[.agg #[.slice A n c], .int .i64 f, .int .i64 low, .int .i64 high, .int .i64 fuel] w (IntsR (pvalR p f low high fuel) w) := by
 have hq := hid (fun W (h : Below w.heap.size w W) => l4Range_any w.heap.size A n c p f low high fuel hn hl hsm W (ho.rd.below h) h.size)
 have hr0 : pvalR p f low high fuel = (setS (if rangeOk p f low high fuel = true then pVals p f low fuel (high - low + 1).toNat else []), rangeOk p f low high fuel) := rfl
 cases ha : rangeOk p f low high fuel with
 | false =>
  rw [ha] at hq hr0
  have hr := hid (show pvalR p f low high fuel = ([], false) from hr0.trans (by rw [if_neg (by decide)]; rfl))
  clear ha ho hsm hr0
  go_enter Try.func25, Try.ntmps25
  go_upto_region 1 with fail
  change (fun V => Code.wp _ _ _ _ V) _
  refine gen_world (X := fun V => Blk V w.heap.size 31 #[.slice A n c] ∧ Below w.heap.size w V ∧ w.heap.size < V.heap.size) ⟨heap1_0 w _, (Below.refl _ _).alloc (Nat.le_refl _) _, by simp⟩ ?_
  rintro w1 ⟨x1, b1, l1⟩
  have z1 : w1.cell? ⟨w.heap.size, 0, none⟩ = some (.slice A n c) := x1.cells 0
  have B1 := hid b1
  have B2 := hid (b1.alloc b1.size (.cells #[] 3))
  have HE := hid (show OwnI (w1.alloc (.cells #[] 3)) w.heap.size (.slice (some ⟨w1.heap.size, 0, none⟩) 0 0) [] from App.empty_own (heap1_0 w1 _) b1.size)
  clear x1 b1
  go_wp2_with fail
  refine (hq.out _ B2.out).mono ?_
  rintro e w2 ⟨rfl, b2⟩
  have O := hid (own_below HE.out b2 (Nat.le_refl _))
  have B := hid (B2.out.trans (b2.mono B2.out.size))
  clear b2
  go_wp2_with fail
  go_ret2
  exact ⟨_, _, by rw [hr.out] <;> rfl, by rw [hr.out]; exact O.out, B.out⟩
 | true =>
  obtain ⟨h1, h2, h3, h4, h5⟩ := range_num ha
  have hn6 := okProg_small (start_wf (n := n) h1).1
  have hru := hid (fun (q : Nat) (hq : low + q ≤ high) W (h : Below w.heap.size w W) => l2Run_any lo n c A p f (low + q) fuel hl (hn6.2.mono (by omega)) (by omega) (range_mid ha hq) W (ho.below h))
  have hrr := hid (fun (q : Nat) (hq : low + q ≤ high) => (show runR p f (low + q) fuel = (run p fuel f (low + q), true) by unfold runR; rw [range_mid ha hq]; rfl))
  rw [ha] at hq hr0
  have hr := hid (show pvalR p f low high fuel = (setS (pVals p f low fuel (high - low + 1).toNat), true) from hr0.trans (by rw [if_pos rfl]))
  have HLE := hid (fun q => Nat.le_trans (setS_len (pVals p f low fuel q)) (pVals_len p f low fuel q))
  have HYES := hid (fun (q : Nat) (h : (runR p f (low + q) fuel).1.kind = 2) => (show setS (pVals p f low fuel (q + 1)) = putS (setS (pVals p f low fuel q)) (runR p f (low + q) fuel).1.value by rw [pVals_yes h, setS_snoc]))
  have HNO := hid (fun (q : Nat) (h : (runR p f (low + q) fuel).1.kind ≠ 2) => (show setS (pVals p f low fuel (q + 1)) = setS (pVals p f low fuel q) by rw [pVals_no h]))
  clear ha ho hsm hr0 h1 hn6
  go_enter Try.func25, Try.ntmps25
  go_upto_region 1 with fail
  change (fun V => Code.wp _ _ _ _ V) _
  refine gen_world (X := fun V => Blk V w.heap.size 31 #[.slice A n c] ∧ Below w.heap.size w V ∧ w.heap.size < V.heap.size) ⟨heap1_0 w _, (Below.refl _ _).alloc (Nat.le_refl _) _, by simp⟩ ?_
  rintro w1 ⟨x1, b1, l1⟩
  have z1 : w1.cell? ⟨w.heap.size, 0, none⟩ = some (.slice A n c) := x1.cells 0
  have X1 := hid x1
  have B1 := hid b1
  have B2 := hid (show Below w1.heap.size w1 (w1.alloc (.cells #[] 3)) from (Below.refl _ _).alloc (Nat.le_refl _) _)
  have HE := hid (show OwnI (w1.alloc (.cells #[] 3)) w1.heap.size (.slice (some ⟨w1.heap.size, 0, none⟩) 0 0) [] from App.empty_own (heap1_0 w1 _) (Nat.le_refl _))
  clear x1 b1
  go_wp2_with fail
  refine (hq.out _ (B1.out.trans (B2.out.mono B1.out.size))).mono ?_
  rintro e w2 ⟨rfl, b2⟩
  have O2 := hid (own_below HE.out b2 (Nat.le_refl _))
  have C2 := hid (B2.out.trans (b2.mono B2.out.size))
  clear b2 B2 HE z1 hq
  go_wp2_with fail
  go_loopw [12, 13] (fun v i wr => ∃ (q : Nat) (A' : Option Addr) (c' : Nat), low + q ≤ high + 1 ∧ i = .int .i64 (low + q) ∧ v = .slice A' (setS (pVals p f low fuel q)).length c' ∧ OwnI wr w1.heap.size (.slice A' (setS (pVals p f low fuel q)).length c') (setS (pVals p f low fuel q)) ∧ Below w1.heap.size w1 wr) (fun _ i _ => (high + 1 - intOf i).toNat)
  case atStart => exact ⟨0, _, _, by omega, by simp, rfl, O2.out, C2.out⟩
  case round =>
   obtain ⟨q, A', c', hq, rfl, rfl, hown, hb⟩ := hrel
   clear O2 C2
   have hlo := hb.size
   have hle := HLE.out q
   have HB := hid hb
   have O := hid hown
   have z1 : wr.cell? ⟨w.heap.size, 0, none⟩ = some (.slice A n c) := ((X1.out.below hb l1).cells 0)
   clear hb hown
   by_cases hlt : low + q ≤ high
   ·have HR := hid (hru.out q hlt wr (B1.out.trans (HB.out.mono B1.out.size)))
    have hk := hrr.out q hlt
    have hY := HYES.out q
    have hN := HNO.out q
    rw [hk] at hY hN
    dsimp only at hY hN
    generalize run p fuel f (low + q) = r at *
    obtain ⟨k, v, t, s⟩ := r
    have HY := hid hY
    have HN := hid hN
    clear hk hY hN
    go_wp2_with fail
    refine HR.out.mono ?_
    rintro e V ⟨A2, c2, rfl, ht, bV⟩
    unfold outval
    dsimp only
    have OV := hid (own_below O.out bV (Nat.le_refl _))
    have BV := hid (HB.out.trans (bV.mono hlo))
    have hlV := Nat.le_trans hlo bV.size
    clear ht bV z1 O HB HR
    go_upto_region 8 with fail
    change (fun V => Code.wp _ _ _ _ V) _
    refine gen_world (X := fun Z => Blk Z V.heap.size 59 #[.int .i64 k, .int .i64 v, .slice A2 t.length c2, .int .i64 s] ∧ OwnI Z w1.heap.size (.slice A' (setS (pVals p f low fuel q)).length c') (setS (pVals p f low fuel q)) ∧ Below w1.heap.size w1 Z) ⟨heap1_0 V _, own_below OV.out ((Below.refl _ _).alloc (Nat.le_refl _) _) (Nat.le_refl _), BV.out.alloc BV.out.size _⟩ ?_
    clear OV BV
    generalize V.heap.size = bx
    rintro Z ⟨eZ, oZ, bZ⟩
    have y0 : Z.cell? ⟨bx, 0, none⟩ = some (.int .i64 k) := eZ.cells 0
    have y1 : Z.cell? ⟨bx, 1, none⟩ = some (.int .i64 v) := eZ.cells 1
    have OZ := hid oZ
    have BZ := hid bZ
    have hlz := bZ.size
    clear eZ oZ bZ
    by_cases k2 : k = 2
    ·subst k2
     have HX := hid (HY.out rfl)
     have hc' : (setS (pVals p f low fuel q)).length ≤ c' := SetM.cap_own OZ.out
     have HP := hid (l1Put_any w1.heap.size (setS (pVals p f low fuel q)).length c' A' (setS (pVals p f low fuel q)) v (by omega) rfl hc' Z OZ.out hlz)
     generalize setS (pVals p f low fuel q) = x at *
     go_wp2_with fail
     refine HP.out.mono ?_
     rintro e w3 ⟨A3, c3, rfl, o3, b3⟩
     have O3 := hid o3
     have B3 := hid (BZ.out.trans (b3.mono hlz))
     clear o3 b3 HP OZ BZ y0 y1
     go_wp2_with fail
     go_roundw
     case rel => exact ⟨q + 1, A3, c3, by omega, by go_num, by rw [HX.out], by rw [HX.out]; exact O3.out, B3.out⟩
     case measure => simp [intOf]; omega
    ·have hcb : (k == 2) = false := by simpa using k2
     have HX := hid (HN.out k2)
     clear k2
     generalize setS (pVals p f low fuel q) = x at *
     go_wp2_with fail
     go_roundw
     case rel => exact ⟨q + 1, A', c', by omega, by go_num, by rw [HX.out], by rw [HX.out]; exact OZ.out, BZ.out⟩
     case measure => simp [intOf]; omega
   ·have hqe : (high - low + 1).toNat = q := by omega
    have hcb : decide (low + (q : Int) ≤ high) = false := by simpa using hlt
    have HQ := hid hqe
    clear hqe hlt
    go_wp2_with fail
    go_ret2
    exact ⟨A', c', by rw [hr.out, HQ.out] <;> rfl, by rw [hr.out, HQ.out]; exact own_mono O.out (Nat.le_of_lt l1), B1.out.trans (HB.out.mono B1.out.size)⟩
theorem pvalR_two (p : Pg) (f low high fuel : Int) : pvalR p f low high fuel = (setS (pvalL p f low high fuel), (pargR p f low high fuel).2) := by
 unfold pvalR pargR
 cases rangeOk p f low high fuel <;> rfl
set_option maxRecDepth 100000 in
set_option maxHeartbeats 4000000 in
theorem pvalI_any (lo n c : Nat) (A : Option Addr) (p : Pg) (f low high fuel : Int) (hn : n ≤ 9223372036854775807) (hl : p.length = n) (hsm : Small p 9223372036854775807) (w : World) (ho : OwnP w lo (.slice A n c) p) :
  Calls Try.prog 26 #[.agg #[.slice A n c], .int .i64 f, .int .i64 low, .int .i64 high, .int .i64 fuel] w (IntsR (pvalR p f low high fuel) w) := by
 have hq := hid (fun W (h : Below w.heap.size w W) => runs_any lo n c A p f low high fuel hn hl hsm W (ho.below h))
 have HALs := hid (show Below w.heap.size w (w.alloc (.cells #[.slice A n c] 31)) from (Below.refl _ _).alloc (Nat.le_refl _) _)
 have hR := pvalR_two p f low high fuel
 have hlen := pvalL_len p f low high fuel
 generalize pargR p f low high fuel = r at *
 generalize pvalL p f low high fuel = vs at *
 have HR := hid hR
 obtain ⟨xs, b⟩ := r
 unfold RunsR at hq
 dsimp only at hq
 obtain ⟨m, hm⟩ : ∃ m, vs.length = m := ⟨_, rfl⟩
 rw [hm] at hq hlen
 have HM := hid hm
 clear ho hsm hR hm
 go_enter Try.func26, Try.ntmps26
 go_wp2_with fail
 refine (hq.out _ HALs.out).mono ?_
 rintro e w2 ⟨A1, c1, A2, c2, rfl, o1, o2, b2⟩
 have O2 := hid (show w2.ownsRow w.heap.size 3 1 (.slice A2 m c2) m (cellsI vs) from (by have := own_mono (B' := w.heap.size) o2 HALs.out.size; rwa [HM.out] at this))
 have B2 := hid (HALs.out.trans (b2.mono HALs.out.size))
 clear o1 o2 b2 hq
 have HS := hid (sort_any w.heap.size m c2 A2 vs HM.out (by omega) w2 O2.out)
 go_wp2_with fail
 refine HS.out.mono ?_
 rintro e w3 ⟨rfl, o3, ch3⟩
 have O3 := hid o3
 have B3 := hid (B2.out.trans (ch3.below B2.out.size (fun x hx e => by have := (World.ownsRow.lt O2.out x e).1; omega)))
 have HC := hid (compact_any w.heap.size m c2 A2 (sortI vs) ((sortI_len vs).trans HM.out) (by omega) w3 o3)
 clear o3 ch3 HS O2 B2
 go_wp2_with fail
 refine HC.out.mono ?_
 rintro e w4 ⟨rfl, o4, ch4⟩
 have O4 := hid o4
 have B4 := hid (B3.out.trans (ch4.below B3.out.size (fun x hx e => by have := (World.ownsRow.lt O3.out x e).1; omega)))
 clear o4 ch4 HC O3 B3
 go_wp2_with fail
 go_ret2
 exact ⟨A2, c2, by rw [HR.out]; dsimp only; rw [← compact_sort] <;> rfl, by rw [HR.out]; dsimp only; rw [← compact_sort]; exact O4.out, B4.out⟩
end Go.Proofs.Ytikdcnlbjpabjab.Pvl
-- squeezed
