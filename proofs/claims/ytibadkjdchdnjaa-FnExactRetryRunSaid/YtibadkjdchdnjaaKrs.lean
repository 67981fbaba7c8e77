import Derived.Test.YtibadkjdchdnjaaKrt
set_option linter.all false
namespace Go.Proofs.Ytibadkjdchdnjaa.Krs
open Lib (hid)
open Go.ChangeShapes Go.WideShapes Go.ChangeAt Go.RowKit
open PL Mem Srun Sst To OwnS AskP StpS Res Swhole Sout IntsP LawI LawN PArgP Kpp Kpw Krt
def RetR (r : Out × Int × Int × Bool) (w : World) (e : Ending) (w' : World) : Prop :=
 ∃ A c, e = .returned (.tuple #[outval r.1 (.slice A r.1.trace.length c), .int .i64 r.2.1, .int .i64 r.2.2.1, .bool r.2.2.2]) ∧ Tre w' w.heap.size (.slice A r.1.trace.length c) r.1.trace ∧ Below w.heap.size w w'
set_option maxRecDepth 100000 in
set_option maxHeartbeats 8000000 in
theorem retS_any (lo n c : Nat) (A : Option Addr) (p : Pg) (f arg fuel t wa fa mo : Int) (hn : n ≤ 9223372036854775807) (hl : p.length = n) (hsm : Small p 9223372036854775807) (w : World) (ho : OwnP w lo (.slice A n c) p) :
  Calls Try.prog 24 #[.agg #[.slice A n c], .int .i64 f, .int .i64 arg, .int .i64 fuel, .agg #[.int .i64 t, .int .i64 wa, .int .i64 fa, .int .i64 mo]] w (RetR (retryR p f arg fuel t wa fa mo) w) := by
 have hr0 : retryR p f arg fuel t wa fa mo = if (asks p f arg fuel && okPol t wa fa mo) = true then (tr p f arg fuel (made p f arg fuel t - 1), (made p f arg fuel t : Int), wsum wa fa mo (made p f arg fuel t - 1), true) else (noOut, 0, 0, false) := rfl
 have hq := hid (fun W (h : Below w.heap.size w W) => l2Ask_any w.heap.size A n c p f arg fuel hn hl hsm W (ho.rd.below h) h.size)
 have hp := hid (fun W => l8Policy_any t wa fa mo W)
 cases ha : asks p f arg fuel with
 | false =>
  rw [ha] at hq hr0
  have hr := hid (hr0.trans (if_neg (by simp)))
  clear ha ho hsm hr0
  go_enter Try.func24, Try.ntmps24
  go_upto_region 1 with fail
  change (fun V => Code.wp _ _ _ _ V) _
  refine gen_world (X := fun V => Blk V w.heap.size 44 #[.slice A n c] ∧ Blk V (w.heap.size + 1) 25 #[.int .i64 t, .int .i64 wa, .int .i64 fa, .int .i64 mo] ∧ Blk V (w.heap.size + 2) 39 #[.int .i64 0, .int .i64 0, .slice none 0 0, .int .i64 0] ∧ Below w.heap.size w V) ⟨heap3_0 w _ _ _, heap3_1 w _ _ _, heap3_2 w _ _ _, (((Below.refl _ _).alloc (Nat.le_refl _) _).alloc (by simp) _).alloc (by simp; omega) _⟩ ?_
  rintro w1 ⟨x1, y1, r1, b1⟩
  have l1 := r1.lt
  have z1 : w1.cell? ⟨w.heap.size, 0, none⟩ = some (.slice A n c) := x1.cells 0
  have zy := y1.cells
  have X := hid x1
  have Y := hid y1
  have HRES := hid r1
  have HB := hid b1
  clear x1 y1 r1 b1
  go_wp2_with fail
  refine (hq.out _ HB.out).mono ?_
  rintro e w2 ⟨rfl, b2⟩
  have s2 := b2.size
  replace X := hid (X.out.below b2 (by omega))
  replace Y := hid (Y.out.below b2 (by omega))
  replace HRES := hid (HRES.out.below b2 (by omega))
  replace HB := hid (HB.out.trans (b2.mono HB.out.size))
  clear b2
  clear z1 zy
  have zf := HRES.out.frozen
  have zc := HRES.out.cells
  go_wp2_with fail
  refine gen_post (X := fun V => Blk V (w.heap.size + 2) 39 #[.int .i64 0, .int .i64 0, .slice none 0 0, .int .i64 0] ∧ Below w.heap.size w V) ⟨Blk.set4 HRES.out _ _ _ _, ?_⟩ ?_
  ·iterate 4 refine Below.setCell ?_ (by show w.heap.size ≤ w.heap.size + 1 + 1; omega) _
   exact HB.out
  rintro V ⟨v1, v2⟩
  have V1 := v1.cells
  have HV := hid v2
  clear v1 v2
  exact bodyPost_ret (v := .tuple #[.agg #[.int .i64 0, .int .i64 0, .slice none 0 0, .int .i64 0], .int .i64 0, .int .i64 0, .bool false]) (by simp [results, Try.results24, go_sem, V1]) rfl ⟨none, 0, by rw [hr.out]; rfl, by rw [hr.out]; exact World.ownsRow_nil _ _ _ _, HV.out⟩
 | true =>
  cases hok : okPol t wa fa mo with
  | false =>
   rw [ha] at hq
   rw [hok] at hp
   rw [ha, hok] at hr0
   have hr := hid (hr0.trans (if_neg (by simp)))
   clear ha ho hsm hr0 hok
   go_enter Try.func24, Try.ntmps24
   go_upto_region 1 with fail
   change (fun V => Code.wp _ _ _ _ V) _
   refine gen_world (X := fun V => Blk V w.heap.size 44 #[.slice A n c] ∧ Blk V (w.heap.size + 1) 25 #[.int .i64 t, .int .i64 wa, .int .i64 fa, .int .i64 mo] ∧ Blk V (w.heap.size + 2) 39 #[.int .i64 0, .int .i64 0, .slice none 0 0, .int .i64 0] ∧ Below w.heap.size w V) ⟨heap3_0 w _ _ _, heap3_1 w _ _ _, heap3_2 w _ _ _, (((Below.refl _ _).alloc (Nat.le_refl _) _).alloc (by simp) _).alloc (by simp; omega) _⟩ ?_
   rintro w1 ⟨x1, y1, r1, b1⟩
   have l1 := r1.lt
   have z1 : w1.cell? ⟨w.heap.size, 0, none⟩ = some (.slice A n c) := x1.cells 0
   have zy := y1.cells
   have X := hid x1
   have Y := hid y1
   have HRES := hid r1
   have HB := hid b1
   clear x1 y1 r1 b1
   go_wp2_with fail
   refine (hq.out _ HB.out).mono ?_
   rintro e w2 ⟨rfl, b2⟩
   have s2 := b2.size
   replace X := hid (X.out.below b2 (by omega))
   replace Y := hid (Y.out.below b2 (by omega))
   replace HRES := hid (HRES.out.below b2 (by omega))
   replace HB := hid (HB.out.trans (b2.mono HB.out.size))
   clear b2
   replace zy := Y.out.cells
   clear z1
   go_wp2_with fail
   refine (hp.out _).mono ?_
   rintro e w3 ⟨rfl, b3⟩
   have s3 := b3.size
   replace X := hid (X.out.below b3 (by omega))
   replace Y := hid (Y.out.below b3 (by omega))
   replace HRES := hid (HRES.out.below b3 (by omega))
   replace HB := hid (HB.out.trans (b3.mono HB.out.size))
   clear b3
   clear zy
   have zf := HRES.out.frozen
   have zc := HRES.out.cells
   go_wp2_with fail
   refine gen_post (X := fun V => Blk V (w.heap.size + 2) 39 #[.int .i64 0, .int .i64 0, .slice none 0 0, .int .i64 0] ∧ Below w.heap.size w V) ⟨Blk.set4 HRES.out _ _ _ _, ?_⟩ ?_
   ·iterate 4 refine Below.setCell ?_ (by show w.heap.size ≤ w.heap.size + 1 + 1; omega) _
    exact HB.out
   rintro V ⟨v1, v2⟩
   have V1 := v1.cells
   have HV := hid v2
   clear v1 v2
   exact bodyPost_ret (v := .tuple #[.agg #[.int .i64 0, .int .i64 0, .slice none 0 0, .int .i64 0], .int .i64 0, .int .i64 0, .bool false]) (by simp [results, Try.results24, go_sem, V1]) rfl ⟨none, 0, by rw [hr.out]; rfl, by rw [hr.out]; exact World.ownsRow_nil _ _ _ _, HV.out⟩
  | true =>
   have hn6 := okProg_small (start_wf (n := n) ha).1
   obtain ⟨⟨ht1, ht2⟩, ⟨hw1, hw2⟩, ⟨hm1, hm2⟩, hf1, hf2⟩ := okPol_iff hok
   have hre := hid (fun W (h : Below w.heap.size w W) => l8Retry_any lo n c A p f arg fuel t hl (hn6.2.mono (by omega)) (by omega) ha ht1 ht2 W (ho.below h))
   have hwa := hid (fun W => l8Waits_any t wa fa mo hok W)
   obtain ⟨hmd1, hmd2⟩ := made_in p f arg fuel t ht1
   have HSI := hid (fun k => wsum_in hw1 hm1 hm2 hf1 k)
   have HSS := hid (fun k => (show wsum wa fa mo (k + 1) = wsum wa fa mo k + wt wa fa mo k from rfl))
   have HWI := hid (fun k => wt_in hw1 hm1 hf1 k)
   have HWG := hid (fun k (h : k < t.toNat - 1) => waitL_get wa fa mo (t.toNat - 1) k h)
   rw [ha] at hq
   rw [hok] at hp
   rw [ha, hok] at hr0
   have hr := hid (hr0.trans (if_pos rfl))
   clear ha ho hsm hr0 hok hn6
   generalize tr p f arg fuel (made p f arg fuel t - 1) = o at *
   generalize made p f arg fuel t = M at *
   go_enter Try.func24, Try.ntmps24
   go_upto_region 1 with fail
   change (fun V => Code.wp _ _ _ _ V) _
   refine gen_world (X := fun V => Blk V w.heap.size 44 #[.slice A n c] ∧ Blk V (w.heap.size + 1) 25 #[.int .i64 t, .int .i64 wa, .int .i64 fa, .int .i64 mo] ∧ Blk V (w.heap.size + 2) 39 #[.int .i64 0, .int .i64 0, .slice none 0 0, .int .i64 0] ∧ Below w.heap.size w V) ⟨heap3_0 w _ _ _, heap3_1 w _ _ _, heap3_2 w _ _ _, (((Below.refl _ _).alloc (Nat.le_refl _) _).alloc (by simp) _).alloc (by simp; omega) _⟩ ?_
   rintro w1 ⟨x1, y1, r1, b1⟩
   have l1 := r1.lt
   have z1 : w1.cell? ⟨w.heap.size, 0, none⟩ = some (.slice A n c) := x1.cells 0
   have zy := y1.cells
   have X := hid x1
   have Y := hid y1
   have HRES := hid r1
   have HB := hid b1
   clear x1 y1 r1 b1
   go_wp2_with fail
   refine (hq.out _ HB.out).mono ?_
   rintro e w2 ⟨rfl, b2⟩
   have s2 := b2.size
   replace X := hid (X.out.below b2 (by omega))
   replace Y := hid (Y.out.below b2 (by omega))
   replace HRES := hid (HRES.out.below b2 (by omega))
   replace HB := hid (HB.out.trans (b2.mono HB.out.size))
   clear b2
   replace zy := Y.out.cells
   clear z1
   go_wp2_with fail
   refine (hp.out _).mono ?_
   rintro e w3 ⟨rfl, b3⟩
   have s3 := b3.size
   replace X := hid (X.out.below b3 (by omega))
   replace Y := hid (Y.out.below b3 (by omega))
   replace HRES := hid (HRES.out.below b3 (by omega))
   replace HB := hid (HB.out.trans (b3.mono HB.out.size))
   clear b3
   replace zy := Y.out.cells
   have z1 : w3.cell? ⟨w.heap.size, 0, none⟩ = some (.slice A n c) := X.out.cells 0
   go_wp2_with fail
   refine (hre.out _ HB.out).mono ?_
   rintro e w4 ⟨A4, c4, rfl, t4, b4⟩
   have s4 := b4.size
   replace X := hid (X.out.below b4 (by omega))
   replace Y := hid (Y.out.below b4 (by omega))
   replace HRES := hid (HRES.out.below b4 (by omega))
   replace HB := hid (HB.out.trans (b4.mono HB.out.size))
   have HT := hid (own_mono (B' := w.heap.size) t4 (by omega))
   clear b4
   unfold outval
   clear t4 z1 zy hre
   go_upto_region 4 with fail
   change (fun V => Code.wp _ _ _ _ V) _
   refine gen_world (X := fun V => Blk V w4.heap.size 39 (cellsO o (.slice A4 o.trace.length c4)) ∧ Blk V (w.heap.size + 1) 25 #[.int .i64 t, .int .i64 wa, .int .i64 fa, .int .i64 mo] ∧ Blk V (w.heap.size + 2) 39 #[.int .i64 0, .int .i64 0, .slice none 0 0, .int .i64 0] ∧ Tre V w.heap.size (.slice A4 o.trace.length c4) o.trace ∧ Below w.heap.size w V) ⟨heap1_0 w4 _, Y.out.alloc _, HRES.out.alloc _, World.ownsRow.alloc HT.out _, HB.out.alloc HB.out.size _⟩ ?_
   clear X Y HRES HT HB
   rintro w5 ⟨v1, v2, v3, v4, v5⟩
   have l5 := v1.lt
   have HOB := hid v1
   have zy := v2.cells
   have HRES := hid v3
   have HT := hid v4
   have HB := hid v5
   clear v1 v2 v3 v4 v5
   go_wp2_with fail
   refine (hwa.out _).mono ?_
   rintro e w6 ⟨A6, c6, rfl, o6, b6⟩
   have RW := hid (rdI_own (by have := o6; unfold OwnI at this; rw [waitL_len] at this; exact this : w6.ownsRow w5.heap.size 3 1 (.slice A6 (t.toNat - 1) c6) (t.toNat - 1) (cellsI (waitL wa fa mo (t.toNat - 1)))))
   replace HOB := hid (HOB.out.below b6 l5)
   replace HRES := hid (HRES.out.below b6 (by omega))
   replace HT := hid (own_below HT.out b6 (Nat.le_refl _))
   replace HB := hid (HB.out.trans (b6.mono HB.out.size))
   clear o6 b6 zy hwa
   go_wp2_with fail
   go_loop [17, 18] (fun s i => ∃ k : Nat, i = .int .i64 k ∧ s = .int .i64 (wsum wa fa mo k) ∧ k + 1 ≤ M) (fun _ i => M - (intOf i).toNat)
   case atStart => exact ⟨0, by simp, rfl, hmd1⟩
   case round =>
    obtain ⟨k, rfl, rfl, hk⟩ := hrel
    obtain ⟨hs1, hs2⟩ := HSI.out k
    by_cases hlt : k + 1 < M
    ·obtain ⟨hu1, hu2⟩ := HWI.out k
     obtain ⟨ad, rfl, hab, d0⟩ := RW.out k _ (HWG.out k (by omega))
     have HS := hid (HSS.out k)
     have hkt : k < t.toNat - 1 := by omega
     generalize wsum wa fa mo k = sk at *
     generalize wt wa fa mo k = uk at *
     go_wp2_with fail
     go_round
     case rel => exact ⟨k + 1, by go_num, by rw [HS.out], by omega⟩
     case measure => simp [intOf]; omega
    ·have hMk : M - 1 = k := by omega
     have hcb : decide ((k : Int) + 1 < (M : Int)) = false := by simp; omega
     have HK := hid hMk
     have HKM := hid (show M = k + 1 by omega)
     have zf := HRES.out.frozen
     have zr := HRES.out.cells
     have zo := HOB.out.cells
     unfold cellsO at zo
     clear hMk hlt
     go_wp2_with fail
     refine gen_post (X := fun V => Blk V (w.heap.size + 2) 39 #[.int .i64 o.kind, .int .i64 o.value, .slice A4 o.trace.length c4, .int .i64 o.spent] ∧ Tre V w.heap.size (.slice A4 o.trace.length c4) o.trace ∧ Below w.heap.size w V) ⟨Blk.set4 HRES.out _ _ _ _, own_set4 HT.out HRES.out _ _ _ _, ?_⟩ ?_
     ·iterate 4 refine Below.setCell ?_ (by show w.heap.size ≤ w.heap.size + 1 + 1; omega) _
      exact HB.out
     rintro V ⟨v1, v2⟩
     have V1 := v1.cells
     have HV := hid v2
     clear v1 v2
     exact bodyPost_ret (v := .tuple #[.agg #[.int .i64 o.kind, .int .i64 o.value, .slice A4 o.trace.length c4, .int .i64 o.spent], .int .i64 M, .int .i64 (wsum wa fa mo k), .bool true]) (by simp [results, Try.results24, go_sem, V1]) rfl ⟨A4, c4, by rw [hr.out, HK.out] <;> rfl, by rw [hr.out]; exact HV.out.1, HV.out.2⟩
end Go.Proofs.Ytibadkjdchdnjaa.Krs
-- squeezed
