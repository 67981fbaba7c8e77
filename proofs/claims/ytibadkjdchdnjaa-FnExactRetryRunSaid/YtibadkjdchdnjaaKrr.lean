import Derived.Test.YtibadkjdchdnjaaKrs
import Derived.Test.YtibadkjdchdnjaaKri
set_option linter.all false
namespace Go.Proofs.Ytibadkjdchdnjaa.Krr
open Lib (hid)
open Go.ChangeShapes Go.WideShapes Go.ChangeAt Go.RowKit
open PL Mem Srun Sst To OwnS AskP StpS Res Swhole Sout IntsP LawI LawN PArgP Kpp Kpw Krt Krs Kri Kfg
set_option maxRecDepth 100000 in
set_option maxHeartbeats 8000000 in
theorem retI_any (lo n c : Nat) (A : Option Addr) (p : Pg) (f arg fuel t wa fa mo : Int) (hn : n ≤ 9223372036854775807) (hl : p.length = n) (hsm : Small p 9223372036854775807) (w : World) (ho : OwnP w lo (.slice A n c) p) :
  Calls Try.prog 26 #[.agg #[.slice A n c], .int .i64 f, .int .i64 arg, .int .i64 fuel, .agg #[.int .i64 t, .int .i64 wa, .int .i64 fa, .int .i64 mo]] w (RetR (retryR p f arg fuel t wa fa mo) w) := by
 have hr0 : retryR p f arg fuel t wa fa mo = if (asks p f arg fuel && okPol t wa fa mo) = true then (tr p f arg fuel (made p f arg fuel t - 1), (made p f arg fuel t : Int), wsum wa fa mo (made p f arg fuel t - 1), true) else (noOut, 0, 0, false) := rfl
 have hq := hid (fun W (h : Below w.heap.size w W) => canRun_any w.heap.size A n c p f arg fuel hn hl hsm W (ho.rd.below h) h.size)
 have hwo := fun W => waitsI_any t wa fa mo W
 have hw0 : waitsR t wa fa mo = if okPol t wa fa mo = true then (waitL wa fa mo (t.toNat - 1), true) else ([], false) := rfl
 cases hok : okPol t wa fa mo with
 | false =>
  rw [hok, if_neg (by decide)] at hw0
  rw [hw0] at hwo
  rw [hok] at hr0
  have hr := hid (hr0.trans (if_neg (by simp)))
  have HWO := hid hwo
  clear ho hsm hr0 hok hw0 hwo
  go_enter Try.func26, Try.ntmps26
  go_upto_region 1 with fail
  change (fun V => Code.wp _ _ _ _ V) _
  refine gen_world (X := fun V => Blk V w.heap.size 44 #[.slice A n c] ∧ Blk V (w.heap.size + 1) 25 #[.int .i64 t, .int .i64 wa, .int .i64 fa, .int .i64 mo] ∧ Blk V (w.heap.size + 2) 39 #[.int .i64 0, .int .i64 0, .slice none 0 0, .int .i64 0] ∧ Below w.heap.size w V) ⟨heap3_0 w _ _ _, heap3_1 w _ _ _, heap3_2 w _ _ _, (((Below.refl _ _).alloc (Nat.le_refl _) _).alloc (by simp) _).alloc (by simp; omega) _⟩ ?_
  rintro w1 ⟨x1, y1, r1, b1⟩
  have l1 := r1.lt
  have z1 : w1.cell? ⟨w.heap.size, 0, none⟩ = some (.slice A n c) := x1.cells 0
  have zy := y1.cells
  have X := hid x1
  have Y := hid y1
  have HRES := hid r1
  have HB := hid b1
  clear x1 y1 r1 b1
  go_wp2_with fail
  refine (HWO.out _).mono ?_
  rintro e w2 ⟨A2, c2, rfl, o2, b2⟩
  have s2 := b2.size
  replace X := hid (X.out.below b2 (by omega))
  replace Y := hid (Y.out.below b2 (by omega))
  replace HRES := hid (HRES.out.below b2 (by omega))
  replace HB := hid (HB.out.trans (b2.mono HB.out.size))
  clear o2
  clear b2
  clear z1 zy
  dsimp only
  have zf := HRES.out.frozen
  have zc := HRES.out.cells
  go_wp2_with fail
  refine gen_post (X := fun V => Blk V (w.heap.size + 2) 39 #[.int .i64 0, .int .i64 0, .slice none 0 0, .int .i64 0] ∧ Below w.heap.size w V) ⟨Blk.set4 HRES.out _ _ _ _, ?_⟩ ?_
  ·iterate 4 refine Below.setCell ?_ (by show w.heap.size ≤ w.heap.size + 1 + 1; omega) _
   exact HB.out
  rintro V ⟨v1, v2⟩
  have V1 := v1.cells
  have HV := hid v2
  clear v1 v2
  exact bodyPost_ret (v := .tuple #[.agg #[.int .i64 0, .int .i64 0, .slice none 0 0, .int .i64 0], .int .i64 0, .int .i64 0, .bool false]) (by simp [results, Try.results26, go_sem, V1]) rfl ⟨none, 0, by rw [hr.out]; rfl, by rw [hr.out]; exact World.ownsRow_nil _ _ _ _, HV.out⟩
 | true =>
  obtain ⟨⟨ht1, ht2⟩, ⟨hw1, hw2⟩, ⟨hm1, hm2⟩, hf1, hf2⟩ := okPol_iff hok
  rw [hok, if_pos rfl] at hw0
  rw [hw0] at hwo
  have HWO := hid (fun W => (hwo W).mono fun e w' (h' : IntsR (waitL wa fa mo (t.toNat - 1), true) W e w') => by
   obtain ⟨x, y, h1, h2, h3⟩ := h'
   unfold OwnI at h2
   simp only [waitL_len] at h1 h2
   exact (show ∃ Aw cw, e = .returned (.tuple #[.slice Aw (t.toNat - 1) cw, .bool true]) ∧ w'.ownsRow W.heap.size 3 1 (.slice Aw (t.toNat - 1) cw) (t.toNat - 1) (cellsI (waitL wa fa mo (t.toNat - 1))) ∧ Below W.heap.size W w' from ⟨x, y, h1, h2, h3⟩))
  clear hwo hw0
  cases ha : asks p f arg fuel with
  | false =>
   rw [ha] at hq hr0
   have hr := hid (hr0.trans (if_neg (by simp)))
   clear ha ho hsm hr0 hok
   go_enter Try.func26, Try.ntmps26
   go_upto_region 1 with fail
   change (fun V => Code.wp _ _ _ _ V) _
   refine gen_world (X := fun V => Blk V w.heap.size 44 #[.slice A n c] ∧ Blk V (w.heap.size + 1) 25 #[.int .i64 t, .int .i64 wa, .int .i64 fa, .int .i64 mo] ∧ Blk V (w.heap.size + 2) 39 #[.int .i64 0, .int .i64 0, .slice none 0 0, .int .i64 0] ∧ Below w.heap.size w V) ⟨heap3_0 w _ _ _, heap3_1 w _ _ _, heap3_2 w _ _ _, (((Below.refl _ _).alloc (Nat.le_refl _) _).alloc (by simp) _).alloc (by simp; omega) _⟩ ?_
   rintro w1 ⟨x1, y1, r1, b1⟩
   have l1 := r1.lt
   have z1 : w1.cell? ⟨w.heap.size, 0, none⟩ = some (.slice A n c) := x1.cells 0
   have zy := y1.cells
   have X := hid x1
   have Y := hid y1
   have HRES := hid r1
   have HB := hid b1
   clear x1 y1 r1 b1
   go_wp2_with fail
   refine (HWO.out _).mono ?_
   rintro e w2 ⟨A2, c2, rfl, o2, b2⟩
   have s2 := b2.size
   replace X := hid (X.out.below b2 (by omega))
   replace Y := hid (Y.out.below b2 (by omega))
   replace HRES := hid (HRES.out.below b2 (by omega))
   replace HB := hid (HB.out.trans (b2.mono HB.out.size))
   clear o2
   clear b2
   replace z1 : w2.cell? ⟨w.heap.size, 0, none⟩ = some (.slice A n c) := X.out.cells 0
   clear zy
   go_wp2_with fail
   refine (hq.out _ HB.out).mono ?_
   rintro e w3 ⟨rfl, b3⟩
   have s3 := b3.size
   replace X := hid (X.out.below b3 (by omega))
   replace Y := hid (Y.out.below b3 (by omega))
   replace HRES := hid (HRES.out.below b3 (by omega))
   replace HB := hid (HB.out.trans (b3.mono HB.out.size))
   clear b3
   clear z1
   have zf := HRES.out.frozen
   have zc := HRES.out.cells
   go_wp2_with fail
   refine gen_post (X := fun V => Blk V (w.heap.size + 2) 39 #[.int .i64 0, .int .i64 0, .slice none 0 0, .int .i64 0] ∧ Below w.heap.size w V) ⟨Blk.set4 HRES.out _ _ _ _, ?_⟩ ?_
   ·iterate 4 refine Below.setCell ?_ (by show w.heap.size ≤ w.heap.size + 1 + 1; omega) _
    exact HB.out
   rintro V ⟨v1, v2⟩
   have V1 := v1.cells
   have HV := hid v2
   clear v1 v2
   exact bodyPost_ret (v := .tuple #[.agg #[.int .i64 0, .int .i64 0, .slice none 0 0, .int .i64 0], .int .i64 0, .int .i64 0, .bool false]) (by simp [results, Try.results26, go_sem, V1]) rfl ⟨none, 0, by rw [hr.out]; rfl, by rw [hr.out]; exact World.ownsRow_nil _ _ _ _, HV.out⟩
  | true =>
   rw [hok, ha] at hr0
   rw [ha] at hq
   have hr := hid (hr0.trans (if_pos rfl))
   have harg := asks_num ha
   have HRUN := hid (fun (g i : Nat) (W : World) (h : Below w.heap.size w W) (hb : RunB W g A n c f fuel) => runOf1_any lo n c g A p f (wrap16 (arg + i)) fuel hn hl hsm (asks_any ha _ (wrap16_N (arg + i))) W (ho.below h) hb)
   have HTR : ∀ i : Nat, run p fuel f (wrap16 (arg + i)) = tr p f arg fuel i := fun _ => rfl
   have HMD : made p f arg fuel t = rtGo (tr p f arg fuel) (t.toNat - 1) 1 := rfl
   simp only [HTR] at HRUN
   rw [HMD] at hr
   generalize tr p f arg fuel = T at *
   clear ha ho hsm hr0 hok HTR HMD
   go_enter Try.func26, Try.ntmps26
   go_upto_region 1 with fail
   change (fun V => Code.wp _ _ _ _ V) _
   refine gen_world (X := fun V => Blk V w.heap.size 44 #[.slice A n c] ∧ Blk V (w.heap.size + 1) 25 #[.int .i64 t, .int .i64 wa, .int .i64 fa, .int .i64 mo] ∧ Blk V (w.heap.size + 2) 39 #[.int .i64 0, .int .i64 0, .slice none 0 0, .int .i64 0] ∧ Below w.heap.size w V) ⟨heap3_0 w _ _ _, heap3_1 w _ _ _, heap3_2 w _ _ _, (((Below.refl _ _).alloc (Nat.le_refl _) _).alloc (by simp) _).alloc (by simp; omega) _⟩ ?_
   rintro w1 ⟨x1, y1, r1, b1⟩
   have l1 := r1.lt
   have z1 : w1.cell? ⟨w.heap.size, 0, none⟩ = some (.slice A n c) := x1.cells 0
   have zy := y1.cells
   have X := hid x1
   have Y := hid y1
   have HRES := hid r1
   have HB := hid b1
   clear x1 y1 r1 b1
   go_wp2_with fail
   refine (HWO.out _).mono ?_
   rintro e w2 ⟨A2, c2, rfl, o2, b2⟩
   have s2 := b2.size
   replace X := hid (X.out.below b2 (by omega))
   replace Y := hid (Y.out.below b2 (by omega))
   replace HRES := hid (HRES.out.below b2 (by omega))
   replace HB := hid (HB.out.trans (b2.mono HB.out.size))
   have OW := hid o2
   clear o2
   clear b2
   replace z1 : w2.cell? ⟨w.heap.size, 0, none⟩ = some (.slice A n c) := X.out.cells 0
   clear zy
   go_wp2_with fail
   refine (hq.out _ HB.out).mono ?_
   rintro e w3 ⟨rfl, b3⟩
   have s3 := b3.size
   replace X := hid (X.out.below b3 (by omega))
   replace Y := hid (Y.out.below b3 (by omega))
   replace HRES := hid (HRES.out.below b3 (by omega))
   replace HB := hid (HB.out.trans (b3.mono HB.out.size))
   replace OW := hid (own_below OW.out b3 (Nat.le_refl _))
   clear b3
   replace z1 : w3.cell? ⟨w.heap.size, 0, none⟩ = some (.slice A n c) := X.out.cells 0
   go_wp2_with fail
   refine (runOf_any A n c f fuel _).mono ?_
   rintro e w4 ⟨rfl, rb4, b4⟩
   have s4 := b4.size
   replace X := hid (X.out.below b4 (by omega))
   replace Y := hid (Y.out.below b4 (by omega))
   replace HRES := hid (HRES.out.below b4 (by omega))
   replace HB := hid (HB.out.trans (b4.mono HB.out.size))
   replace OW := hid (own_below OW.out b4 (Nat.le_refl _))
   have RB := hid rb4
   have lg := rb4.lt
   clear rb4
   clear b4
   unfold runV
   clear z1 X Y
   generalize hg : w3.heap.size = g at *
   generalize hnw : t.toNat - 1 = nw at *
   have hnw19 : nw ≤ 19 := by omega
   go_upto_region 5 with fail
   change (fun V => Code.wp _ _ _ _ V) _
   refine gen_world (X := fun V => Blk V w4.heap.size 91 (rc g (.slice A2 nw c2) noOut (.slice none 0 0) 0 0) ∧ RunB V g A n c f fuel ∧ Blk V (w.heap.size + 2) 39 #[.int .i64 0, .int .i64 0, .slice none 0 0, .int .i64 0] ∧ RdI V w4.heap.size A2 (waitL wa fa mo nw) ∧ Below w.heap.size w V ∧ Below w4.heap.size w4 V) ⟨heap1_0 w4 _, RB.out.below ((Below.refl w4.heap.size w4).alloc (Nat.le_refl _) _) lg, HRES.out.alloc _, (rdI_own OW.out).below ((Below.refl w4.heap.size w4).alloc (Nat.le_refl _) _), HB.out.alloc HB.out.size _, (Below.refl w4.heap.size w4).alloc (Nat.le_refl _) _⟩ ?_
   clear RB HRES OW HB
   rintro w5 ⟨v1, v2, v3, v4, v5, v6⟩
   have l5 := v1.lt
   have KB := hid v1
   have RB := hid v2
   have HRES := hid v3
   have RW := hid v4
   have HB := hid v5
   clear v1 v2 v3 v4 v5 v6
   have hre := hid (retry_any w4.heap.size w4.heap.size g nw c2 A2 arg wa fa mo T harg hnw19 hw1 hm1 hm2 hf1 w5 (by omega) (Nat.le_refl _) (fun i W b => HRUN.out g i W (HB.out.trans (b.mono (by omega))) (RB.out.below b lg)) KB.out RW.out)
   clear KB RB RW HRUN
   generalize rtGo T nw 1 = M at *
   generalize T (M - 1) = o at *
   go_wp2_with fail
   refine hre.out.mono ?_
   rintro e w6 ⟨rfl, A6, c6, r6⟩
   have s6 := r6.chg.size
   replace HRES := hid (HRES.out.chg r6.chg (by omega))
   replace HB := hid (HB.out.trans (r6.chg.below (B := w.heap.size) (by omega) (fun x hx e => by omega)))
   have HT := hid (own_mono (B' := w.heap.size) r6.tre (by omega))
   have zs := r6.blk.cells
   unfold rc runV at zs
   have zr := HRES.out.cells
   have zf := HRES.out.frozen
   clear r6 hre
   go_wp2_with fail
   go_region
   first | change (fun V => Exit.then _ _ _ _ V) _ | change (fun V => Code.wp _ _ _ _ V) _
   refine gen_world (X := fun V => Blk V (w.heap.size + 2) 39 #[.int .i64 o.kind, .int .i64 o.value, .slice A6 o.trace.length c6, .int .i64 o.spent] ∧ Tre V w.heap.size (.slice A6 o.trace.length c6) o.trace ∧ Below w.heap.size w V) ?_ ?_
   ·refine ⟨blk_drew (Blk.set4 HRES.out _ _ _ _), World.ownsRow.drew (own_set4 HT.out HRES.out _ _ _ _), Below.drew ?_⟩
    iterate 4 refine Below.setCell ?_ (by show w.heap.size ≤ w.heap.size + 1 + 1; omega) _
    exact HB.out
   clear zs zr zf
   rintro V ⟨v1, v2⟩
   have V1 := v1.cells
   have HV := hid v2
   clear v1 v2
   go_wp2_with fail
   exact bodyPost_ret (v := .tuple #[.agg #[.int .i64 o.kind, .int .i64 o.value, .slice A6 o.trace.length c6, .int .i64 o.spent], .int .i64 M, .int .i64 (wsum wa fa mo (M - 1)), .bool true]) (by simp [results, Try.results26, go_sem, V1]) rfl ⟨A6, c6, by rw [hr.out] <;> rfl, by rw [hr.out]; exact HV.out.1, HV.out.2⟩
set_option maxRecDepth 100000 in
set_option maxHeartbeats 4000000 in
theorem needI_any (lo n c : Nat) (A : Option Addr) (p : Pg) (f arg fuel : Int) (hn : n ≤ 9223372036854775807) (hl : p.length = n) (hsm : Small p 9223372036854775807) (w : World) (ho : OwnP w lo (.slice A n c) p) :
  Calls Try.prog 35 #[.agg #[.slice A n c], .int .i64 f, .int .i64 arg, .int .i64 fuel] w (NumR (neededR p f arg fuel) w) := by
 have hre := fun W (h : Below w.heap.size w W) => retI_any lo n c A p f arg fuel 20 0 1 0 hn hl hsm W (ho.below h)
 have hr0 : neededR p f arg fuel = if asks p f arg fuel = true then (if (tr p f arg fuel (made p f arg fuel 20 - 1)).kind = 1 then ((made p f arg fuel 20 : Int), true) else (0, false)) else (0, false) := rfl
 have hr1 : retryR p f arg fuel 20 0 1 0 = if (asks p f arg fuel && okPol 20 0 1 0) = true then (tr p f arg fuel (made p f arg fuel 20 - 1), (made p f arg fuel 20 : Int), wsum 0 1 0 (made p f arg fuel 20 - 1), true) else (noOut, 0, 0, false) := rfl
 have hok : okPol 20 0 1 0 = true := by decide
 rw [hok, Bool.and_true] at hr1
 cases ha : asks p f arg fuel with
 | false =>
  rw [ha, if_neg (by decide)] at hr0
  rw [ha, if_neg (by decide)] at hr1
  simp only [hr1] at hre
  have HRE := hid hre
  have hr := hid hr0
  clear ha ho hsm hr0 hr1 hok hre
  go_enter Try.func35, Try.ntmps35
  go_wp2_with fail
  refine (HRE.out _ ((Below.refl _ _).alloc (Nat.le_refl _) _)).mono ?_
  rintro e w1 ⟨A1, c1, rfl, t1, b1⟩
  have B1 := hid (((Below.refl _ _).alloc (Nat.le_refl _) _).trans (b1.mono (by simp)))
  clear b1 t1 HRE
  unfold outval noOut
  dsimp only
  go_wp2_with fail
  go_ret2
  exact ⟨by rw [hr.out] <;> rfl, B1.out.alloc B1.out.size _⟩
 | true =>
  rw [ha, if_pos rfl] at hr0
  rw [ha, if_pos rfl] at hr1
  simp only [hr1] at hre
  generalize tr p f arg fuel (made p f arg fuel 20 - 1) = o at *
  generalize made p f arg fuel 20 = M at *
  have HRE := hid hre
  have HR0 := hid hr0
  clear ha ho hsm hr0 hr1 hok hre
  obtain ⟨k, v, tt, s⟩ := o
  by_cases hk : k = 1
  ·subst hk
   have hr := hid (HR0.out.trans (if_pos rfl))
   go_enter Try.func35, Try.ntmps35
   go_wp2_with fail
   refine (HRE.out _ ((Below.refl _ _).alloc (Nat.le_refl _) _)).mono ?_
   rintro e w1 ⟨A1, c1, rfl, t1, b1⟩
   have B1 := hid (((Below.refl _ _).alloc (Nat.le_refl _) _).trans (b1.mono (by simp)))
   clear b1 t1 HRE HR0
   unfold outval
   dsimp only
   go_wp2_with fail
   go_ret2
   exact ⟨by rw [hr.out] <;> rfl, B1.out.alloc B1.out.size _⟩
  ·have hr := hid (HR0.out.trans (if_neg hk))
   have hkb : (k != 1) = true := by simp [hk]
   have hkc : (k == 1) = false := by simpa using hk
   go_enter Try.func35, Try.ntmps35
   go_wp2_with fail
   refine (HRE.out _ ((Below.refl _ _).alloc (Nat.le_refl _) _)).mono ?_
   rintro e w1 ⟨A1, c1, rfl, t1, b1⟩
   have B1 := hid (((Below.refl _ _).alloc (Nat.le_refl _) _).trans (b1.mono (by simp)))
   clear b1 t1 HRE HR0 hk
   unfold outval
   dsimp only
   go_wp2_with fail
   go_ret2
   exact ⟨by rw [hr.out] <;> rfl, B1.out.alloc B1.out.size _⟩
end Go.Proofs.Ytibadkjdchdnjaa.Krr
-- squeezed
