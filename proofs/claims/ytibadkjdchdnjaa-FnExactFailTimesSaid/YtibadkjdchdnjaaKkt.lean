import Derived.Test.YtibadkjdchdnjaaKks
set_option linter.all false
namespace Go.Proofs.Ytibadkjdchdnjaa.Kkt
open Lib (hid)
open Go.ChangeShapes Go.WideShapes Go.ChangeAt Go.RowKit
open PL Mem Srun Sst To OwnS AskP StpS Res Swhole Sout IntsP LawI LawN PArgP Kpp Kkp Kka Kkb Krt Kks
theorem kept_field1 (a b c d : Value) (w : World) : (Instr.field 117 (.agg #[a, b, c, d]) 1).run Try.prog w = .ok b w := by kernel_rfl
theorem kept_field3 (a b c d : Value) (w : World) : (Instr.field 117 (.agg #[a, b, c, d]) 3).run Try.prog w = .ok d w := by kernel_rfl
set_option maxRecDepth 100000 in
set_option maxHeartbeats 4000000 in
theorem failsS_any (lo n c nj cj : Nat) (A Aj : Option Addr) (p : Pg) (f : Int) (js : List Int) (fuel li sp : Int) (hn : n ≤ 9223372036854775807) (hl : p.length = n) (hsm : Small p 9223372036854775807) (hnj : nj ≤ 9223372036854775807) (hlj : js.length = nj) (w : World) (ho : OwnP w lo (.slice A n c) p) (hj : RdI w w.heap.size Aj js) :
  Calls Try.prog 48 #[.agg #[.slice A n c], .int .i64 f, .slice Aj nj cj, .int .i64 fuel, .agg #[.int .i64 li, .int .i64 sp]] w (IntsR (failsR p f js fuel li sp) w) := by
 have hq := hid (fun W (h : Below w.heap.size w W) => l8Jobs_any n c nj cj w.heap.size A Aj p f js fuel hn hl hsm hnj hlj W (ho.rd.below h) (hj.below h) h.size)
 have hwa := hid (fun W => l8Watch_any li sp W)
 have hk : keepOk p f js fuel li sp = (asks p f 0 fuel && areJ js && okWatch li sp) := rfl
 have hr0 : keepR p f js fuel li sp = if keepOk p f js fuel li sp = true then (keepGo (fun j => run p fuel f j) li sp js k0, true) else (k0, false) := rfl
 cases ha : (asks p f 0 fuel && areJ js) with
 | false =>
  rw [hk, ha] at hr0
  rw [ha] at hq
  have hr := hid (show failsR p f js fuel li sp = ([], false) by unfold failsR; rw [hr0.trans (if_neg (by simp))]; rfl)
  clear ho hj hsm hr0 hk ha
  go_enter Try.func48, Try.ntmps48
  go_upto_region 1 with fail
  change (fun V => Code.wp _ _ _ _ V) _
  refine gen_world (X := fun V => Blk V w.heap.size 44 #[.slice A n c] ∧ Blk V (w.heap.size + 1) 71 #[.int .i64 li, .int .i64 sp] ∧ Below w.heap.size w V) ⟨heap2_0 w _ _, heap2_1 w _ _, ((Below.refl _ _).alloc (Nat.le_refl _) _).alloc (by simp) _⟩ ?_
  rintro w1 ⟨x1, y1, b1⟩
  have l1 := y1.lt
  have z1 : w1.cell? ⟨w.heap.size, 0, none⟩ = some (.slice A n c) := x1.cells 0
  have zy := y1.cells
  have X := hid x1
  have Y := hid y1
  have HB := hid b1
  clear x1 y1 b1
  go_wp2_with fail
  refine (hq.out _ HB.out).mono ?_
  rintro e w2 ⟨rfl, b2⟩
  have s2 := b2.size
  replace X := hid (X.out.below b2 (by omega))
  replace Y := hid (Y.out.below b2 (by omega))
  replace HB := hid (HB.out.trans (b2.mono HB.out.size))
  clear b2
  have HE := hid (show OwnI (w2.alloc (.cells #[] 3)) w.heap.size (.slice (some ⟨w2.heap.size, 0, none⟩) 0 0) [] from App.empty_own (heap1_0 w2 _) HB.out.size)
  have HBE := hid (HB.out.alloc HB.out.size (.cells #[] 3))
  go_wp2_with fail
  go_ret2
  exact ⟨_, _, by rw [hr.out] <;> rfl, by rw [hr.out]; exact HE.out, HBE.out⟩
 | true =>
  cases how : okWatch li sp with
  | false =>
   rw [hk, ha, how] at hr0
   rw [ha] at hq
   rw [how] at hwa
   have hr := hid (show failsR p f js fuel li sp = ([], false) by unfold failsR; rw [hr0.trans (if_neg (by simp))]; rfl)
   clear ho hj hsm hr0 hk ha how
   go_enter Try.func48, Try.ntmps48
   go_upto_region 1 with fail
   change (fun V => Code.wp _ _ _ _ V) _
   refine gen_world (X := fun V => Blk V w.heap.size 44 #[.slice A n c] ∧ Blk V (w.heap.size + 1) 71 #[.int .i64 li, .int .i64 sp] ∧ Below w.heap.size w V) ⟨heap2_0 w _ _, heap2_1 w _ _, ((Below.refl _ _).alloc (Nat.le_refl _) _).alloc (by simp) _⟩ ?_
   rintro w1 ⟨x1, y1, b1⟩
   have l1 := y1.lt
   have z1 : w1.cell? ⟨w.heap.size, 0, none⟩ = some (.slice A n c) := x1.cells 0
   have zy := y1.cells
   have X := hid x1
   have Y := hid y1
   have HB := hid b1
   clear x1 y1 b1
   go_wp2_with fail
   refine (hq.out _ HB.out).mono ?_
   rintro e w2 ⟨rfl, b2⟩
   have s2 := b2.size
   replace X := hid (X.out.below b2 (by omega))
   replace Y := hid (Y.out.below b2 (by omega))
   replace HB := hid (HB.out.trans (b2.mono HB.out.size))
   clear b2
   replace zy := Y.out.cells
   go_wp2_with fail
   refine (hwa.out _).mono ?_
   rintro e w3 ⟨rfl, b3⟩
   have s3 := b3.size
   replace X := hid (X.out.below b3 (by omega))
   replace Y := hid (Y.out.below b3 (by omega))
   replace HB := hid (HB.out.trans (b3.mono HB.out.size))
   clear b3
   have HE := hid (show OwnI (w3.alloc (.cells #[] 3)) w.heap.size (.slice (some ⟨w3.heap.size, 0, none⟩) 0 0) [] from App.empty_own (heap1_0 w3 _) HB.out.size)
   have HBE := hid (HB.out.alloc HB.out.size (.cells #[] 3))
   go_wp2_with fail
   go_ret2
   exact ⟨_, _, by rw [hr.out] <;> rfl, by rw [hr.out]; exact HE.out, HBE.out⟩
  | true =>
   have hok : keepOk p f js fuel li sp = true := by rw [hk, ha, how]; rfl
   have hke := hid (fun W (h : Below w.heap.size w W) => l8Keep_any lo n c nj cj A Aj p f js fuel li sp hl hlj hok W (ho.below h) ((hj.below h).more h.size))
   rw [hk, ha, how] at hr0
   rw [ha] at hq
   rw [how] at hwa
   have hr1 := hr0.trans (if_pos rfl)
   clear ho hj hsm hr0 hk ha how hok
   generalize keepGo (fun j => run p fuel f j) li sp js k0 = R at *
   have HR1 := hid hr1
   clear hr1
   go_enter Try.func48, Try.ntmps48
   go_upto_region 1 with fail
   change (fun V => Code.wp _ _ _ _ V) _
   refine gen_world (X := fun V => Blk V w.heap.size 44 #[.slice A n c] ∧ Blk V (w.heap.size + 1) 71 #[.int .i64 li, .int .i64 sp] ∧ Below w.heap.size w V) ⟨heap2_0 w _ _, heap2_1 w _ _, ((Below.refl _ _).alloc (Nat.le_refl _) _).alloc (by simp) _⟩ ?_
   rintro w1 ⟨x1, y1, b1⟩
   have l1 := y1.lt
   have z1 : w1.cell? ⟨w.heap.size, 0, none⟩ = some (.slice A n c) := x1.cells 0
   have zy := y1.cells
   have X := hid x1
   have Y := hid y1
   have HB := hid b1
   clear x1 y1 b1
   go_wp2_with fail
   refine (hq.out _ HB.out).mono ?_
   rintro e w2 ⟨rfl, b2⟩
   have s2 := b2.size
   replace X := hid (X.out.below b2 (by omega))
   replace Y := hid (Y.out.below b2 (by omega))
   replace HB := hid (HB.out.trans (b2.mono HB.out.size))
   clear b2
   replace zy := Y.out.cells
   go_wp2_with fail
   refine (hwa.out _).mono ?_
   rintro e w3 ⟨rfl, b3⟩
   have s3 := b3.size
   replace X := hid (X.out.below b3 (by omega))
   replace Y := hid (Y.out.below b3 (by omega))
   replace HB := hid (HB.out.trans (b3.mono HB.out.size))
   clear b3
   replace zy := Y.out.cells
   replace z1 : w3.cell? ⟨w.heap.size, 0, none⟩ = some (.slice A n c) := X.out.cells 0
   have hb3 := HB.out.size
   go_wp2_with fail
   refine (hke.out _ HB.out).mono ?_
   rintro e w4 ⟨Ak, ck, Af, cf, rfl, ok4, of4, b4⟩
   have HB4 := hid (HB.out.trans (b4.mono hb3))
   have OK4 := hid (own_mono ok4 hb3)
   have OF4 := hid (own_mono of4 hb3)
   clear ok4 of4 b4 z1 zy hke
   have hr := hid (show failsR p f js fuel li sp = (R.fails, true) by unfold failsR; rw [HR1.out])
   have hf1 := fun u => kept_field1 (.slice Ak R.kinds.length ck) (.slice Af R.fails.length cf) (.int .i64 R.clock) (.bool (decide (li < R.most))) u
   generalize decide (li < R.most) = gv at *
   go_wp2_with fail
   go_ret2
   exact ⟨Af, cf, by rw [hr.out] <;> rfl, by rw [hr.out]; exact OF4.out, HB4.out⟩
set_option maxRecDepth 100000 in
set_option maxHeartbeats 4000000 in
theorem keptS_any (lo n c nj cj : Nat) (A Aj : Option Addr) (p : Pg) (f : Int) (js : List Int) (fuel li sp : Int) (hn : n ≤ 9223372036854775807) (hl : p.length = n) (hsm : Small p 9223372036854775807) (hnj : nj ≤ 9223372036854775807) (hlj : js.length = nj) (w : World) (ho : OwnP w lo (.slice A n c) p) (hj : RdI w w.heap.size Aj js) :
  Calls Try.prog 44 #[.agg #[.slice A n c], .int .i64 f, .slice Aj nj cj, .int .i64 fuel, .agg #[.int .i64 li, .int .i64 sp]] w (KeptR (keptR p f js fuel li sp) w) := by
 have hq := hid (fun W (h : Below w.heap.size w W) => l8Jobs_any n c nj cj w.heap.size A Aj p f js fuel hn hl hsm hnj hlj W (ho.rd.below h) (hj.below h) h.size)
 have hwa := hid (fun W => l8Watch_any li sp W)
 have hk : keepOk p f js fuel li sp = (asks p f 0 fuel && areJ js && okWatch li sp) := rfl
 have hr0 : keepR p f js fuel li sp = if keepOk p f js fuel li sp = true then (keepGo (fun j => run p fuel f j) li sp js k0, true) else (k0, false) := rfl
 cases ha : (asks p f 0 fuel && areJ js) with
 | false =>
  rw [hk, ha] at hr0
  rw [ha] at hq
  have hr := hid (show keptR p f js fuel li sp = ([], 0, false, false) by unfold keptR; rw [hr0.trans (if_neg (by simp))]; rfl)
  clear ho hj hsm hr0 hk ha
  go_enter Try.func44, Try.ntmps44
  go_upto_region 1 with fail
  change (fun V => Code.wp _ _ _ _ V) _
  refine gen_world (X := fun V => Blk V w.heap.size 44 #[.slice A n c] ∧ Blk V (w.heap.size + 1) 71 #[.int .i64 li, .int .i64 sp] ∧ Below w.heap.size w V) ⟨heap2_0 w _ _, heap2_1 w _ _, ((Below.refl _ _).alloc (Nat.le_refl _) _).alloc (by simp) _⟩ ?_
  rintro w1 ⟨x1, y1, b1⟩
  have l1 := y1.lt
  have z1 : w1.cell? ⟨w.heap.size, 0, none⟩ = some (.slice A n c) := x1.cells 0
  have zy := y1.cells
  have X := hid x1
  have Y := hid y1
  have HB := hid b1
  clear x1 y1 b1
  go_wp2_with fail
  refine (hq.out _ HB.out).mono ?_
  rintro e w2 ⟨rfl, b2⟩
  have s2 := b2.size
  replace X := hid (X.out.below b2 (by omega))
  replace Y := hid (Y.out.below b2 (by omega))
  replace HB := hid (HB.out.trans (b2.mono HB.out.size))
  clear b2
  have HE := hid (show OwnI (w2.alloc (.cells #[] 3)) w.heap.size (.slice (some ⟨w2.heap.size, 0, none⟩) 0 0) [] from App.empty_own (heap1_0 w2 _) HB.out.size)
  have HBE := hid (HB.out.alloc HB.out.size (.cells #[] 3))
  go_wp2_with fail
  exact bodyPost_ret (v := .tuple #[.slice (some ⟨w2.heap.size, 0, none⟩) 0 0, .int .i64 0, .bool false, .bool false]) (by simp [results, Try.results44, go_sem]) rfl ⟨_, _, by rw [hr.out] <;> rfl, by rw [hr.out]; exact HE.out, HBE.out⟩
 | true =>
  cases how : okWatch li sp with
  | false =>
   rw [hk, ha, how] at hr0
   rw [ha] at hq
   rw [how] at hwa
   have hr := hid (show keptR p f js fuel li sp = ([], 0, false, false) by unfold keptR; rw [hr0.trans (if_neg (by simp))]; rfl)
   clear ho hj hsm hr0 hk ha how
   go_enter Try.func44, Try.ntmps44
   go_upto_region 1 with fail
   change (fun V => Code.wp _ _ _ _ V) _
   refine gen_world (X := fun V => Blk V w.heap.size 44 #[.slice A n c] ∧ Blk V (w.heap.size + 1) 71 #[.int .i64 li, .int .i64 sp] ∧ Below w.heap.size w V) ⟨heap2_0 w _ _, heap2_1 w _ _, ((Below.refl _ _).alloc (Nat.le_refl _) _).alloc (by simp) _⟩ ?_
   rintro w1 ⟨x1, y1, b1⟩
   have l1 := y1.lt
   have z1 : w1.cell? ⟨w.heap.size, 0, none⟩ = some (.slice A n c) := x1.cells 0
   have zy := y1.cells
   have X := hid x1
   have Y := hid y1
   have HB := hid b1
   clear x1 y1 b1
   go_wp2_with fail
   refine (hq.out _ HB.out).mono ?_
   rintro e w2 ⟨rfl, b2⟩
   have s2 := b2.size
   replace X := hid (X.out.below b2 (by omega))
   replace Y := hid (Y.out.below b2 (by omega))
   replace HB := hid (HB.out.trans (b2.mono HB.out.size))
   clear b2
   replace zy := Y.out.cells
   go_wp2_with fail
   refine (hwa.out _).mono ?_
   rintro e w3 ⟨rfl, b3⟩
   have s3 := b3.size
   replace X := hid (X.out.below b3 (by omega))
   replace Y := hid (Y.out.below b3 (by omega))
   replace HB := hid (HB.out.trans (b3.mono HB.out.size))
   clear b3
   have HE := hid (show OwnI (w3.alloc (.cells #[] 3)) w.heap.size (.slice (some ⟨w3.heap.size, 0, none⟩) 0 0) [] from App.empty_own (heap1_0 w3 _) HB.out.size)
   have HBE := hid (HB.out.alloc HB.out.size (.cells #[] 3))
   go_wp2_with fail
   exact bodyPost_ret (v := .tuple #[.slice (some ⟨w3.heap.size, 0, none⟩) 0 0, .int .i64 0, .bool false, .bool false]) (by simp [results, Try.results44, go_sem]) rfl ⟨_, _, by rw [hr.out] <;> rfl, by rw [hr.out]; exact HE.out, HBE.out⟩
  | true =>
   have hok : keepOk p f js fuel li sp = true := by rw [hk, ha, how]; rfl
   have hke := hid (fun W (h : Below w.heap.size w W) => l8Keep_any lo n c nj cj A Aj p f js fuel li sp hl hlj hok W (ho.below h) ((hj.below h).more h.size))
   rw [hk, ha, how] at hr0
   rw [ha] at hq
   rw [how] at hwa
   have hr1 := hr0.trans (if_pos rfl)
   clear ho hj hsm hr0 hk ha how hok
   generalize keepGo (fun j => run p fuel f j) li sp js k0 = R at *
   have HR1 := hid hr1
   clear hr1
   go_enter Try.func44, Try.ntmps44
   go_upto_region 1 with fail
   change (fun V => Code.wp _ _ _ _ V) _
   refine gen_world (X := fun V => Blk V w.heap.size 44 #[.slice A n c] ∧ Blk V (w.heap.size + 1) 71 #[.int .i64 li, .int .i64 sp] ∧ Below w.heap.size w V) ⟨heap2_0 w _ _, heap2_1 w _ _, ((Below.refl _ _).alloc (Nat.le_refl _) _).alloc (by simp) _⟩ ?_
   rintro w1 ⟨x1, y1, b1⟩
   have l1 := y1.lt
   have z1 : w1.cell? ⟨w.heap.size, 0, none⟩ = some (.slice A n c) := x1.cells 0
   have zy := y1.cells
   have X := hid x1
   have Y := hid y1
   have HB := hid b1
   clear x1 y1 b1
   go_wp2_with fail
   refine (hq.out _ HB.out).mono ?_
   rintro e w2 ⟨rfl, b2⟩
   have s2 := b2.size
   replace X := hid (X.out.below b2 (by omega))
   replace Y := hid (Y.out.below b2 (by omega))
   replace HB := hid (HB.out.trans (b2.mono HB.out.size))
   clear b2
   replace zy := Y.out.cells
   go_wp2_with fail
   refine (hwa.out _).mono ?_
   rintro e w3 ⟨rfl, b3⟩
   have s3 := b3.size
   replace X := hid (X.out.below b3 (by omega))
   replace Y := hid (Y.out.below b3 (by omega))
   replace HB := hid (HB.out.trans (b3.mono HB.out.size))
   clear b3
   replace zy := Y.out.cells
   replace z1 : w3.cell? ⟨w.heap.size, 0, none⟩ = some (.slice A n c) := X.out.cells 0
   have hb3 := HB.out.size
   go_wp2_with fail
   refine (hke.out _ HB.out).mono ?_
   rintro e w4 ⟨Ak, ck, Af, cf, rfl, ok4, of4, b4⟩
   have HB4 := hid (HB.out.trans (b4.mono hb3))
   have OK4 := hid (own_mono ok4 hb3)
   have OF4 := hid (own_mono of4 hb3)
   clear ok4 of4 b4 z1 zy hke
   have hr := hid (show keptR p f js fuel li sp = (R.kinds, R.clock, decide (li < R.most), true) by unfold keptR; rw [HR1.out]; rfl)
   generalize decide (li < R.most) = gv at *
   go_upto_region 4 with fail
   change (fun V => Code.wp _ _ _ _ V) _
   refine gen_world (X := fun V => Blk V w4.heap.size 117 #[.slice Ak R.kinds.length ck, .slice Af R.fails.length cf, .int .i64 R.clock, .bool gv] ∧ OwnI V w.heap.size (.slice Ak R.kinds.length ck) R.kinds ∧ Below w.heap.size w V) ⟨heap1_0 w4 _, World.ownsRow.alloc OK4.out _, HB4.out.alloc HB4.out.size _⟩ ?_
   rintro w5 ⟨v1, v2, v3⟩
   have zs := v1.cells
   have V2 := hid v2
   have V3 := hid v3
   clear v1 v2 v3 OK4 OF4 HB4
   go_region
   go_wp2_with fail
   exact bodyPost_ret (v := .tuple #[.slice Ak R.kinds.length ck, .int .i64 R.clock, .bool gv, .bool true]) (by simp [results, Try.results44, go_sem]) rfl ⟨Ak, ck, by rw [hr.out] <;> rfl, by rw [hr.out]; exact World.ownsRow.drew V2.out, V3.out.drew⟩
set_option maxRecDepth 100000 in
set_option maxHeartbeats 4000000 in
theorem limitS_any (lo n c nj cj : Nat) (A Aj : Option Addr) (p : Pg) (f : Int) (js : List Int) (fuel sp : Int) (hn : n ≤ 9223372036854775807) (hl : p.length = n) (hsm : Small p 9223372036854775807) (hnj : nj ≤ 9223372036854775807) (hlj : js.length = nj) (w : World) (ho : OwnP w lo (.slice A n c) p) (hj : RdI w w.heap.size Aj js) :
  Calls Try.prog 50 #[.agg #[.slice A n c], .int .i64 f, .slice Aj nj cj, .int .i64 fuel, .int .i64 sp] w (NumR (limitR p f js fuel sp) w) := by
 have hq := hid (fun W (h : Below w.heap.size w W) => l8Jobs_any n c nj cj w.heap.size A Aj p f js fuel hn hl hsm hnj hlj W (ho.rd.below h) (hj.below h) h.size)
 have hwa := hid (fun W => l8Watch_any 0 sp W)
 have hk : keepOk p f js fuel 20 sp = (asks p f 0 fuel && areJ js && okWatch 20 sp) := rfl
 have hw0 : okWatch 20 sp = okWatch 0 sp := rfl
 have hr0 : keepR p f js fuel 20 sp = if keepOk p f js fuel 20 sp = true then (keepGo (fun j => run p fuel f j) 20 sp js k0, true) else (k0, false) := rfl
 rw [hw0] at hk
 cases ha : (asks p f 0 fuel && areJ js) with
 | false =>
  rw [hk, ha] at hr0
  rw [ha] at hq
  have hr := hid (show limitR p f js fuel sp = (0, false) by unfold limitR; rw [hr0.trans (if_neg (by simp))]; rfl)
  clear ho hj hsm hr0 hk ha
  go_enter Try.func50, Try.ntmps50
  go_upto_region 1 with fail
  change (fun V => Code.wp _ _ _ _ V) _
  refine gen_world (X := fun V => Blk V w.heap.size 44 #[.slice A n c] ∧ Below w.heap.size w V) ⟨heap1_0 w _, (Below.refl _ _).alloc (Nat.le_refl _) _⟩ ?_
  rintro w1 ⟨x1, b1⟩
  have l1 := x1.lt
  have z1 : w1.cell? ⟨w.heap.size, 0, none⟩ = some (.slice A n c) := x1.cells 0
  have X := hid x1
  have HB := hid b1
  clear x1 b1
  go_wp2_with fail
  refine (hq.out _ HB.out).mono ?_
  rintro e w2 ⟨rfl, b2⟩
  go_wp2_with fail
  go_ret2
  exact ⟨by rw [hr.out] <;> rfl, HB.out.trans (b2.mono HB.out.size)⟩
 | true =>
  cases how : okWatch 0 sp with
  | false =>
   rw [hk, ha, how] at hr0
   rw [ha] at hq
   rw [how] at hwa
   have hr := hid (show limitR p f js fuel sp = (0, false) by unfold limitR; rw [hr0.trans (if_neg (by simp))]; rfl)
   clear ho hj hsm hr0 hk ha how
   go_enter Try.func50, Try.ntmps50
   go_upto_region 1 with fail
   change (fun V => Code.wp _ _ _ _ V) _
   refine gen_world (X := fun V => Blk V w.heap.size 44 #[.slice A n c] ∧ Below w.heap.size w V) ⟨heap1_0 w _, (Below.refl _ _).alloc (Nat.le_refl _) _⟩ ?_
   rintro w1 ⟨x1, b1⟩
   have l1 := x1.lt
   have z1 : w1.cell? ⟨w.heap.size, 0, none⟩ = some (.slice A n c) := x1.cells 0
   have X := hid x1
   have HB := hid b1
   clear x1 b1
   go_wp2_with fail
   refine (hq.out _ HB.out).mono ?_
   rintro e w2 ⟨rfl, b2⟩
   have HB2 := hid (HB.out.trans (b2.mono HB.out.size))
   go_wp2_with fail
   refine (hwa.out _).mono ?_
   rintro e w3 ⟨rfl, b3⟩
   go_wp2_with fail
   go_ret2
   exact ⟨by rw [hr.out] <;> rfl, HB2.out.trans (b3.mono HB2.out.size)⟩
  | true =>
   have hok : ∀ k : Nat, (k : Int) ≤ 20 → keepOk p f js fuel k sp = true := fun k hk20 => by
    show (asks p f 0 fuel && areJ js && okWatch k sp) = true
    rw [ha, show okWatch (k : Int) sp = true by
     have := (okWatch_iff how).2
     unfold okWatch btw
     rw [decide_eq_true (by omega : (0 : Int) ≤ k), decide_eq_true hk20, decide_eq_true this.1, decide_eq_true this.2]
     rfl]
    rfl
   have hke := hid (fun (k : Nat) (hk20 : (k : Int) ≤ 20) W (h : Below w.heap.size w W) => l8Keep_any lo n c nj cj A Aj p f js fuel k sp hl hlj (hok k hk20) W (ho.below h) ((hj.below h).more h.size))
   have hgi := hid (fun (k : Nat) (hk20 : (k : Int) ≤ 20) => keepGo_gives (r := fun j => run p fuel f j) (limit := (k : Int)) (big := 20) (span := sp) hk20 js k0)
   obtain ⟨hin, hl20⟩ := keep_in (hok 20 (by omega))
   have hm0 := hin.most0
   have hm1 := hin.most1
   rw [hk, ha, how] at hr0
   rw [ha] at hq
   rw [how] at hwa
   have hr := hid (show limitR p f js fuel sp = ((keepGo (fun j => run p fuel f j) 20 sp js k0).most, true) by unfold limitR; rw [hr0.trans (if_pos rfl)])
   clear ho hj hsm hr0 hk ha how hok hin
   have hm20 : (keepGo (fun j => run p fuel f j) 20 sp js k0).most ≤ 20 := by
    have := hm1
    have h3 : ((keepGo (fun j => run p fuel f j) ((20 : Nat) : Int) sp js k0).kinds.length : Int) ≤ 20 := by omega
    exact Int.le_trans this h3
   have hm00 : 0 ≤ (keepGo (fun j => run p fuel f j) 20 sp js k0).most := hm0
   clear hm0 hm1 hl20
   generalize (keepGo (fun j => run p fuel f j) 20 sp js k0).most = M at *
   go_enter Try.func50, Try.ntmps50
   go_upto_region 1 with fail
   change (fun V => Code.wp _ _ _ _ V) _
   refine gen_world (X := fun V => Blk V w.heap.size 44 #[.slice A n c] ∧ Below w.heap.size w V) ⟨heap1_0 w _, (Below.refl _ _).alloc (Nat.le_refl _) _⟩ ?_
   rintro w1 ⟨x1, b1⟩
   have l1 := x1.lt
   have z1 : w1.cell? ⟨w.heap.size, 0, none⟩ = some (.slice A n c) := x1.cells 0
   have X := hid x1
   have HB := hid b1
   clear x1 b1
   go_wp2_with fail
   refine (hq.out _ HB.out).mono ?_
   rintro e w2 ⟨rfl, b2⟩
   have X2 := hid (X.out.below b2 l1)
   have HB2 := hid (HB.out.trans (b2.mono HB.out.size))
   have l2 := X2.out.lt
   clear b2 z1 X HB
   go_wp2_with fail
   refine (hwa.out _).mono ?_
   rintro e w3 ⟨rfl, b3⟩
   have X3 := hid (X2.out.below b3 l2)
   have HB3 := hid (HB2.out.trans (b3.mono HB2.out.size))
   clear b3 X2 HB2 l2
   have l3 := X3.out.lt
   go_wp2_with fail
   go_loopw [12] (fun i wr => ∃ k : Nat, (k : Int) ≤ M ∧ i = .int .i64 k ∧ Below w3.heap.size w3 wr) (fun i _ => (M - intOf i).toNat)
   case atStart => exact ⟨0, by omega, rfl, Below.refl _ _⟩
   case round =>
    obtain ⟨k, hk, rfl, hb⟩ := hrel
    have z1 : wr.cell? ⟨w.heap.size, 0, none⟩ = some (.slice A n c) := (X3.out.below hb l3).cells 0
    have HBr := hid (HB3.out.trans (hb.mono HB3.out.size))
    have HBB := hid hb
    have hkr := hid (hke.out k (by omega) wr HBr.out)
    have hgk := hgi.out k (by omega)
    have hsz := hb.size
    clear hb
    generalize keepGo (fun j => run p fuel f j) (k : Int) sp js k0 = R at *
    by_cases hkM : (k : Int) < M
    ·have hgv : decide ((k : Int) < R.most) = true := decide_eq_true (hgk.2 (by omega))
     have HGV := hid hgv
     clear hgk hgv
     go_wp2_with fail
     refine hkr.out.mono ?_
     rintro e w4 ⟨Ak, ck, Af, cf, rfl, ok4, of4, b4⟩
     rw [HGV.out]
     have hf3 := fun u => kept_field3 (.slice Ak R.kinds.length ck) (.slice Af R.fails.length cf) (.int .i64 R.clock) (.bool true) u
     have B4 := hid (HBB.out.trans (b4.mono hsz))
     clear ok4 of4 b4 z1
     go_wp2_with fail
     go_roundw
     case rel => exact ⟨k + 1, by omega, by go_num, B4.out⟩
     case measure => simp [intOf]; omega
    ·have hgv : decide ((k : Int) < R.most) = false := decide_eq_false (fun h => by have := hgk.1 h; omega)
     have hkM2 := hid (show M = (k : Int) by omega)
     have HGV := hid hgv
     clear hgk hgv hkM
     go_wp2_with fail
     refine hkr.out.mono ?_
     rintro e w4 ⟨Ak, ck, Af, cf, rfl, ok4, of4, b4⟩
     rw [HGV.out]
     have hf3 := fun u => kept_field3 (.slice Ak R.kinds.length ck) (.slice Af R.fails.length cf) (.int .i64 R.clock) (.bool false) u
     have B4 := hid (HBr.out.trans (b4.mono HBr.out.size))
     clear ok4 of4 b4 z1
     go_wp2_with fail
     go_ret2
     exact ⟨by rw [hr.out, hkM2.out] <;> rfl, B4.out⟩
end Go.Proofs.Ytibadkjdchdnjaa.Kkt
-- squeezed
