import Derived.Test.YtibadkjdchdnjaaRows
import Derived.Test.YtibadkjdchdnjaaM2
import Derived.Test.YtibadkjdchdnjaaLawY
import Derived.Test.YtibadkjdchdnjaaLi
import Derived.Test.YtibadkjdchdnjaaKkt
import Derived.Deep.RegionHeld3
set_option linter.all false
namespace Go.Proofs.Ytibadkjdchdnjaa.fnExactLeastLimit
open Lib (hid)
open Go.ChangeShapes Go.WideShapes Go.ChangeAt Go.RowKit
open PL Mem To Sz EqP OpenP MarkP Sst IntsP LawI LawN LawY Kpp Kkb Kkt
theorem own : ownKnob Try.prog.godebug = none := by kernel_rfl
theorem cnt_small {p : Pg} (h : ¬ szP 1048576 p < 0) : cnt p ≤ 1048576 := by
 have ht : tot p ≤ 1048576 := by
  unfold szP szR at h
  split at h <;> omega
 exact Nat.le_trans (tot_cnt p) ht
set_option maxHeartbeats 8000000 in
set_option maxRecDepth 100000 in
theorem walk (A Aj : Option Addr) (c cj : Nat) (p : Pg) (js : List Int) (f fuel sp : Int) (hn : p.length ≤ maxLen) (hsm : Small p maxLen) (hnj : js.length ≤ maxLen) (w : World) (hr : RdP w w.heap.size A p) (hrj : RdI w w.heap.size Aj js) :
  Calls Try.prog 12 #[.agg #[.slice A p.length c], .int .i64 f, .slice Aj js.length cj, .int .i64 fuel, .int .i64 sp] w fun e w' => e = .returned (.bool true) ∧ Below w.heap.size w w' := by
 unfold maxLen at hn hsm hnj
 have hR := hid hr
 have hRJ := hid hrj
 clear hr hrj
 obtain ⟨n, hL⟩ : ∃ n, p.length = n := ⟨_, rfl⟩
 obtain ⟨nj, hLj⟩ : ∃ nj, js.length = nj := ⟨_, rfl⟩
 rw [hLj] at hnj ⊢
 rw [hL] at hn ⊢
 by_cases hbig : 1048576 < nj
 ·clear hL hsm hn hLj
  go_enter Try.func12, Try.ntmps12
  go_upto_region 1 with fail
  change (fun V => Code.wp _ _ _ _ V) _
  refine gen_world (X := fun V => Blk V w.heap.size 35 #[.slice A n c] ∧ Below w.heap.size w V) ⟨heap1_0 w _, (Below.refl _ _).alloc (Nat.le_refl _) _⟩ ?_
  rintro w1 ⟨x1, b1⟩
  have l1 := x1.lt
  have HP1 := hid x1
  have HB1 := hid b1
  have sb1 := b1.size
  have za : w1.cell? ⟨w.heap.size, 0, none⟩ = some (.slice A n c) := x1.cells 0
  clear x1 b1
  go_wp2_with fail
  go_ret
  exact ⟨rfl, HB1.out⟩
 have hz := hid (fun W h hB => szProgram_any w.heap.size A n c p 1048576 (by omega) (by omega) (by omega) hL hsm W h hB)
 by_cases hneg : szP 1048576 p < 0
 ·have hs := hid (szR_neg _ _ hneg).1
  clear hL hneg hsm
  go_enter Try.func12, Try.ntmps12
  go_upto_region 1 with fail
  change (fun V => Code.wp _ _ _ _ V) _
  refine gen_world (X := fun V => Blk V w.heap.size 35 #[.slice A n c] ∧ Below w.heap.size w V) ⟨heap1_0 w _, (Below.refl _ _).alloc (Nat.le_refl _) _⟩ ?_
  rintro w1 ⟨x1, b1⟩
  have l1 := x1.lt
  have HP1 := hid x1
  have HB1 := hid b1
  have sb1 := b1.size
  have za : w1.cell? ⟨w.heap.size, 0, none⟩ = some (.slice A n c) := x1.cells 0
  clear x1 b1
  go_wp2_with fail
  refine (hz.out _ (hR.out.below HB1.out) HB1.out.size).mono ?_
  rintro e w2 ⟨rfl, b2⟩
  rw [szP, hs.out]
  go_wp2_with fail
  go_ret
  exact ⟨rfl, HB1.out.trans (b2.mono HB1.out.size)⟩
 obtain ⟨hs1, hs2⟩ := szP_small hneg
 have hcp := cnt_small hneg
 rw [hL] at hs1
 have hT := hid (fun W h hB => toProgram_any w.heap.size A n c p (by omega) hL (hs2.mono (by omega)) W h hB)
 have hTJ := hid (fun W h hB => LiP.toIntS_any w.heap.size Aj nj cj js (by omega) hLj W h hB)
 have hEp := hid (fun B A' A'' c' c'' W h h' hB => eqProgram_same B A' A'' n c' c'' p (by omega) hL (hs2.mono (by omega)) W h h' hB)
 have hEj := hid (fun B A' A'' c' c'' W h h' hB => eqIntS_same B A' A'' nj c' c'' js (by omega) hLj W h h' hB)
 have hMp := hid (fun lo hi c' A' W h h' => markProgram_any lo hi n c' A' p 1 (by omega) hL (hs2.mono (by omega)) (by omega) (by omega) W h h')
 have hMj := hid (fun B c' A' k W (h0 : 0 ≤ k) (h1 : k ≤ 10000000000) h => markIntS_any B nj c' A' js k (by omega) hLj (by omega) (by omega) W h)
 have hS := fun lo c' A' aj W h hj => limitS_any lo n c' nj nj A' (some aj) p f js fuel sp (by omega) hL (hs2.mono (by omega)) (by omega) hLj W h hj
 have hI := fun lo c' A' aj W h hj => limitI_any lo n c' nj nj A' (some aj) p f js fuel sp (by omega) hL (hs2.mono (by omega)) (by omega) hLj W h hj
 generalize limitR p f js fuel sp = r at hS hI
 obtain ⟨k0, k1⟩ := r
 have HS := hid (show ∀ lo c' A' aj W, OwnP W lo (.slice A' n c') p → RdI W W.heap.size (some aj) js → Calls Try.prog 50 #[.agg #[.slice A' n c'], .int .i64 f, .slice (some aj) nj nj, .int .i64 fuel, .int .i64 sp] W fun e w' => e = .returned (.tuple #[.int .i64 k0, .bool k1]) ∧ Below W.heap.size W w' from fun lo c' A' aj W h hj => hS lo c' A' aj W h hj)
 have HI := hid (show ∀ lo c' A' aj W, OwnP W lo (.slice A' n c') p → RdI W W.heap.size (some aj) js → Calls Try.prog 51 #[.agg #[.slice A' n c'], .int .i64 f, .slice (some aj) nj nj, .int .i64 fuel, .int .i64 sp] W fun e w' => e = .returned (.tuple #[.int .i64 k0, .bool k1]) ∧ Below W.heap.size W w' from fun lo c' A' aj W h hj => hI lo c' A' aj W h hj)
 have HLj := hid hLj
 unfold MarkedP at hMp
 unfold MarkedI at hMj
 have hkp : 0 ≤ (1 + 3 * (cnt p : Int)) ∧ (1 + 3 * (cnt p : Int)) ≤ 10000000000 := by omega
 generalize 1 + 3 * (cnt p : Int) = kp at *
 have hkj : ¬ (kp + (nj : Int)) < 0 := by omega
 have hbk1 : (k1 != k1) = false := by simp
 clear hL hs2 hsm hS hI hcp hs1 hn hLj
 go_enter Try.func12, Try.ntmps12
 go_upto_region 1 with fail
 change (fun V => Code.wp _ _ _ _ V) _
 refine gen_world (X := fun V => Blk V w.heap.size 35 #[.slice A n c] ∧ Below w.heap.size w V) ⟨heap1_0 w _, (Below.refl _ _).alloc (Nat.le_refl _) _⟩ ?_
 rintro w1 ⟨x1, b1⟩
 have l1 := x1.lt
 have HP1 := hid x1
 have HB1 := hid b1
 have sb1 := b1.size
 have za : w1.cell? ⟨w.heap.size, 0, none⟩ = some (.slice A n c) := x1.cells 0
 clear x1 b1
 have HB := hid (Below.refl w1.heap.size w1)
 go_wp2_with fail
 refine (hz.out _ (hR.out.below HB1.out) HB1.out.size).mono ?_
 rintro e w2 ⟨rfl, b2⟩
 have sw2 := b2.size
 replace HB := hid (HB.out.trans (b2.mono HB.out.size))
 clear b2 za hz
 generalize szP 1048576 p = z at *
 have hX2 := hid (fun (V : World) (b : Below w2.heap.size w2 V) => (show V.cell? ⟨w.heap.size, 0, none⟩ = some (.slice A n c) from ((HP1.out.below HB.out (by omega)).below b (by omega)).cells 0))
 have cP := hid (fun (W : World) (b : Below w2.heap.size w2 W) => (hT.out W (hR.out.below (HB1.out.trans ((HB.out.trans (b.mono HB.out.size)).mono HB1.out.size))) (HB1.out.trans ((HB.out.trans (b.mono HB.out.size)).mono HB1.out.size)).size).mono (fun e w' (h : ∃ g, e = Ending.returned (.agg #[.slice (some ⟨g, 0, none⟩) n n]) ∧ OwnP w' W.heap.size (.slice (some ⟨g, 0, none⟩) n n) p ∧ Below W.heap.size W w') =>
  show ∃ g, e = Ending.returned (.agg #[.slice (some ⟨g, 0, none⟩) n n]) ∧ OwnP w' w2.heap.size (.slice (some ⟨g, 0, none⟩) n n) p ∧ Below w2.heap.size w2 w' from let ⟨g, he, ho, hb⟩ := h; ⟨g, he, ho.mono b.size, b.trans (hb.mono b.size)⟩))
 have cJ := hid (fun (W : World) (g : Nat) (b : Below w2.heap.size w2 W) (o : OwnP W w2.heap.size (.slice (some ⟨g, 0, none⟩) n n) p) => (hTJ.out W (hRJ.out.below (HB1.out.trans ((HB.out.trans (b.mono HB.out.size)).mono HB1.out.size))) (HB1.out.trans ((HB.out.trans (b.mono HB.out.size)).mono HB1.out.size)).size).mono (fun e w' (h : e = Ending.returned (.slice (some ⟨W.heap.size, 0, none⟩) nj nj) ∧ w'.ownsRow W.heap.size 3 1 (.slice (some ⟨W.heap.size, 0, none⟩) nj nj) nj (cellsI js) ∧ Below W.heap.size W w') =>
  show ∃ gj, e = Ending.returned (.slice (some ⟨gj, 0, none⟩) nj nj) ∧ OwnP w' w2.heap.size (.slice (some ⟨g, 0, none⟩) n n) p ∧ RdI w' w'.heap.size (some ⟨gj, 0, none⟩) js ∧ Below w2.heap.size w2 w' from ⟨W.heap.size, h.1, o.below h.2.2, rdI_own h.2.1, b.trans (h.2.2.mono b.size)⟩))
 have cF := hid (fun (W : World) (g gj : Nat) (b : Below w2.heap.size w2 W) (o : OwnP W w2.heap.size (.slice (some ⟨g, 0, none⟩) n n) p ∧ RdI W W.heap.size (some ⟨gj, 0, none⟩) js) => (HS.out _ n (some ⟨g, 0, none⟩) ⟨gj, 0, none⟩ W o.1 o.2).mono (fun e w' (h : e = Ending.returned (.tuple #[.int .i64 k0, .bool k1]) ∧ Below W.heap.size W w') => show e = Ending.returned (.tuple #[.int .i64 k0, .bool k1]) ∧ Below w2.heap.size w2 w' from ⟨h.1, b.trans (h.2.mono b.size)⟩))
 have z0 := hX2.out w2 (Below.refl _ _)
 go_wp2_with fail
 refine (cP.out _ (Below.refl _ _)).mono ?_
 rintro e wT ⟨gt, rfl, oT, bT⟩
 go_wp2_with fail
 refine (cJ.out _ gt bT oT).mono ?_
 rintro e wU ⟨gj, rfl, oU, rU, bU⟩
 go_wp2_with fail
 refine (cF.out _ gt gj bU ⟨oU, rU⟩).mono ?_
 rintro e w3 ⟨rfl, bF⟩
 clear oT bT oU rU bU cP cJ cF hX2 z0
 have sw3 := bF.size
 replace HB := hid (HB.out.trans (bF.mono HB.out.size))
 clear bF
 have z0 : w3.cell? ⟨w.heap.size, 0, none⟩ = some (.slice A n c) := (HP1.out.below HB.out (by omega)).cells 0
 go_wp2_with fail
 refine (hT.out _ (hR.out.below (HB1.out.trans (HB.out.mono HB1.out.size))) (HB1.out.trans (HB.out.mono HB1.out.size)).size).mono ?_
 rintro e w4 ⟨gx, rfl, o4, b4⟩
 have O4 := hid (OwnH.of o4)
 clear o4 z0
 have sw4 := b4.size
 replace HB := hid (HB.out.trans (b4.mono HB.out.size))
 clear b4
 go_upto_region 9 with fail
 change (fun V => Code.wp _ _ _ _ V) _
 refine gen_world (X := fun V => Blk V w4.heap.size 44 #[.slice (some ⟨gx, 0, none⟩) n n] ∧ Below w4.heap.size w4 V) ⟨heap1_0 w4 _, (Below.refl _ _).alloc (Nat.le_refl _) _⟩ ?_
 rintro w5 ⟨XB0, b5⟩
 have XB := hid XB0
 have lx := XB0.lt
 clear XB0
 have sw5 := b5.size
 replace HB := hid (HB.out.trans (b5.mono HB.out.size))
 replace O4 := hid (O4.out.below (b5.mono (by omega)))
 clear b5
 go_wp2_with fail
 refine (hTJ.out _ (hRJ.out.below (HB1.out.trans (HB.out.mono HB1.out.size))) (HB1.out.trans (HB.out.mono HB1.out.size)).size).mono ?_
 rintro e w6 ⟨rfl, o6, b6⟩
 have OJ := hid (OwnIH.of (xs := js) (by unfold OwnI; rw [HLj.out]; exact o6))
 clear o6
 have sw6 := b6.size
 replace HB := hid (HB.out.trans (b6.mono HB.out.size))
 replace O4 := hid (O4.out.below (b6.mono (by omega)))
 replace XB := hid (XB.out.below b6 (by omega))
 clear b6
 generalize w5.heap.size = gjx at *
 generalize w4.heap.size = bx at *
 generalize w3.heap.size = Lx at *
 have XPJ := hid (fun (W : World) (b : Below w6.heap.size w6 W) => (show OwnP W Lx (.slice (some ⟨gx, 0, none⟩) n n) p ∧ RdI W W.heap.size (some ⟨gjx, 0, none⟩) js from ⟨(O4.out.below (b.mono (by omega))).own, OwnI.rd (OJ.out.below (b.mono (by omega))).1 HLj.out⟩))
 have hX6 := hid (fun (V : World) (b : Below w6.heap.size w6 V) => (show V.cell? ⟨w.heap.size, 0, none⟩ = some (.slice A n c) ∧ V.cell? ⟨bx, 0, none⟩ = some (.slice (some ⟨gx, 0, none⟩) n n) from ⟨((HP1.out.below HB.out (by omega)).below b (by omega)).cells 0, (XB.out.below b (by omega)).cells 0⟩))
 have cF := hid (fun (W : World) (g gj : Nat) (b : Below w6.heap.size w6 W) (o : OwnP W Lx (.slice (some ⟨g, 0, none⟩) n n) p ∧ RdI W W.heap.size (some ⟨gj, 0, none⟩) js) => (HI.out _ n (some ⟨g, 0, none⟩) ⟨gj, 0, none⟩ W o.1 o.2).mono (fun e w' (h : e = Ending.returned (.tuple #[.int .i64 k0, .bool k1]) ∧ Below W.heap.size W w') => show e = Ending.returned (.tuple #[.int .i64 k0, .bool k1]) ∧ Below w6.heap.size w6 w' from ⟨h.1, b.trans (h.2.mono b.size)⟩))
 obtain ⟨z0, z1⟩ := hX6.out w6 (Below.refl _ _)
 go_wp2_with fail
 refine (cF.out _ gx gjx (Below.refl _ _) (XPJ.out _ (Below.refl _ _))).mono ?_
 rintro e w7 ⟨rfl, bF⟩
 clear cF hX6 z0 z1
 have sw7 := bF.size
 replace HB := hid (HB.out.trans (bF.mono HB.out.size))
 replace O4 := hid (O4.out.below (bF.mono (by omega)))
 replace XB := hid (XB.out.below bF (by omega))
 replace OJ := hid (OJ.out.below (bF.mono (by omega)))
 clear bF XPJ
 have hX7 := hid (fun (V : World) (b : Below w7.heap.size w7 V) => (show V.cell? ⟨w.heap.size, 0, none⟩ = some (.slice A n c) ∧ V.cell? ⟨bx, 0, none⟩ = some (.slice (some ⟨gx, 0, none⟩) n n) from ⟨((HP1.out.below HB.out (by omega)).below b (by omega)).cells 0, (XB.out.below b (by omega)).cells 0⟩))
 obtain ⟨z0, z1⟩ := hX7.out w7 (Below.refl _ _)
 have hTk := hid (fun (W : World) (b : Below w7.heap.size w7 W) => (hT.out W (hR.out.below (HB1.out.trans ((HB.out.trans (b.mono HB.out.size)).mono HB1.out.size))) (HB1.out.trans ((HB.out.trans (b.mono HB.out.size)).mono HB1.out.size)).size).mono (fun e w' (h : ∃ g, e = Ending.returned (.agg #[.slice (some ⟨g, 0, none⟩) n n]) ∧ OwnP w' W.heap.size (.slice (some ⟨g, 0, none⟩) n n) p ∧ Below W.heap.size W w') =>
  show ∃ g, e = Ending.returned (.agg #[.slice (some ⟨g, 0, none⟩) n n]) ∧ OwnP w' w7.heap.size (.slice (some ⟨g, 0, none⟩) n n) p ∧ Below w7.heap.size w7 w' from let ⟨g, he, ho, hb⟩ := h; ⟨g, he, ho.mono b.size, b.trans (hb.mono b.size)⟩))
 have hEk := hid (fun (W : World) (g : Nat) (o : OwnP W w7.heap.size (.slice (some ⟨g, 0, none⟩) n n) p) (b : Below w7.heap.size w7 W) => (hEp.out W.heap.size (some ⟨gx, 0, none⟩) (some ⟨g, 0, none⟩) n n W (O4.out.below (b.mono (by omega))).own.rd o.rd (Nat.le_refl _)).mono (fun e w' h => show e = Ending.returned (.bool true) ∧ Below w7.heap.size w7 w' from ⟨h.1, b.trans (h.2.mono b.size)⟩))
 have bD : Below w7.heap.size w7 w7.drew := (Below.refl _ _).drew
 go_wp2_with fail
 go_region_held3 (fun V => V.cell? ⟨w.heap.size, 0, none⟩ = some (.slice A n c) ∧ V.cell? ⟨bx, 0, none⟩ = some (.slice (some ⟨gx, 0, none⟩) n n))
  (first | exact ⟨z0, z1⟩ | (refine hX7.out _ ?_; assumption))
  (first | (go_at_call 25; refine (hTk.out _ ?_).mono ?_; assumption; rintro e wT ⟨gz, rfl, oT, bT⟩) | (go_at_call 28; refine (hEk.out _ gz oT ?_).mono ?_; assumption; rintro e w8 ⟨rfl, b8⟩))
 have sw8 := b8.size
 replace HB := hid (HB.out.trans (b8.mono HB.out.size))
 replace O4 := hid (O4.out.below (b8.mono (by omega)))
 replace XB := hid (XB.out.below b8 (by omega))
 replace OJ := hid (OJ.out.below (b8.mono (by omega)))
 clear b8 oT bT bD hTk hEk hX7 z0 z1
 go_wp2_with fail
 refine (hTJ.out _ (hRJ.out.below (HB1.out.trans (HB.out.mono HB1.out.size))) (HB1.out.trans (HB.out.mono HB1.out.size)).size).mono ?_
 rintro e w9 ⟨rfl, o9, b9⟩
 have RJ := hid (rdI_own o9)
 clear o9
 have sw9 := b9.size
 replace HB := hid (HB.out.trans (b9.mono HB.out.size))
 replace O4 := hid (O4.out.below (b9.mono (by omega)))
 replace XB := hid (XB.out.below b9 (by omega))
 replace OJ := hid (OJ.out.below (b9.mono (by omega)))
 clear b9
 go_wp2_with fail
 refine (hEj.out w9.heap.size _ _ nj nj w9 (OJ.out.1.rd HLj.out) RJ.out (Nat.le_refl _)).mono ?_
 rintro e w10 ⟨rfl, b10⟩
 have sw10 := b10.size
 replace HB := hid (HB.out.trans (b10.mono HB.out.size))
 replace O4 := hid (O4.out.below (b10.mono (by omega)))
 replace XB := hid (XB.out.below b10 (by omega))
 replace OJ := hid (OJ.out.below (b10.mono (by omega)))
 clear b10 RJ
 go_wp2_with fail
 go_ret
 exact ⟨rfl, HB1.out.trans (HB.out.mono HB1.out.size)⟩
set_option maxRecDepth 100000 in
theorem lifted (os : Os) (started : os.Started) (H : Type) (enc : TypeId × Value → H) :
  ReturnsInHanded {} Try.checked os 12 .any (Rows.fnExactLeastLimitSpec.pre6 enc Try.prog Try.f12 Rows.fnExactLeastLimitRow.domain false) (Rows.fnExactLeastLimitSpec.post enc Try.prog Try.f12 false true false false) := by
 refine returnsInHanded_of_change (C := Try.checked) own started (by kernel_rfl) Try.func12
  (ChangeSpec.witness6 (enc := enc) (C := Try.checked) false ⟨#[], #[.agg #[.slice none 0 0], .int .i64 0, .slice none 0 0, .int .i64 0, .int .i64 0], []⟩ 8 (by kernel_rfl) (by kernel_rfl) (by kernel_rfl) (by kernel_rfl)) ?_
 intro W base args ds gs before hval0 hW hcnd _
 have hval : ∀ (j : Nat) t v, Try.f12.params[j]? = some t → args[j]? = some v → Value.okWide Try.prog W .any base t v := hval0
 have hW' := hW
 obtain ⟨p, q, hA0, hV, rfl, hfz, hnd⟩ := hW
 have hA : DataW.TrodAll enc Try.prog W 0 (fun _ => true) true Try.f12.params.toList args.toList ds p := hA0
 rw [Try.params12] at hA hval
 obtain ⟨v0, vs0, d0, ds0, p0, q0, hargs, rfl, rfl, h0, rest0⟩ := trodAll_cons hA
 obtain ⟨v1, vs1, d1, ds1, p1, q1, rfl, rfl, rfl, h1, rest1⟩ := trodAll_cons rest0
 obtain ⟨v2, vs2, d2, ds2, p2, q2, rfl, rfl, rfl, h2, rest2⟩ := trodAll_cons rest1
 obtain ⟨v3, vs3, d3, ds3, p3, q3, rfl, rfl, rfl, h3, rest3⟩ := trodAll_cons rest2
 obtain ⟨v4, vs4, d4, ds4, p4, q4, rfl, rfl, rfl, h4, rest4⟩ := trodAll_cons rest3
 obtain ⟨rfl, rfl, rfl⟩ := trodAll_nil rest4
 obtain rfl : args = #[v0, v1, v2, v3, v4] := by cases args; simp_all
 obtain ⟨rfl, rfl⟩ := trodVars_none hV
 obtain ⟨A0, c0, P0, rfl, n0, r0, f0, s0⟩ := open_prog (hval 0 35 v0 rfl rfl) h0
 obtain ⟨z1, rfl, f1⟩ := open_int_fit (hval 1 3 v1 rfl rfl) h1
 obtain ⟨A2, c2, P2, rfl, n2, r2, f2⟩ := LiP.open_ints (hval 2 28 v2 rfl rfl) h2
 obtain ⟨z3, rfl, f3⟩ := open_int_fit (hval 3 3 v3 rfl rfl) h3
 obtain ⟨z4, rfl, f4⟩ := open_int_fit (hval 4 3 v4 rfl rfl) h4
 have lt0 : ∀ x ∈ p0, x.block < W.heap.size := by obtain ⟨m, hm⟩ := h0; exact DataW.trod_lt m _ _ _ hm
 have lt1 : ∀ x ∈ p1, x.block < W.heap.size := by obtain ⟨m, hm⟩ := h1; exact DataW.trod_lt m _ _ _ hm
 have lt2 : ∀ x ∈ p2, x.block < W.heap.size := by obtain ⟨m, hm⟩ := h2; exact DataW.trod_lt m _ _ _ hm
 have lt3 : ∀ x ∈ p3, x.block < W.heap.size := by obtain ⟨m, hm⟩ := h3; exact DataW.trod_lt m _ _ _ hm
 have lt4 : ∀ x ∈ p4, x.block < W.heap.size := by obtain ⟨m, hm⟩ := h4; exact DataW.trod_lt m _ _ _ hm
 clear hA0 hval0
 refine (walk A0 A2 c0 c2 P0 P2 z1 z3 z4  n0 s0 n2 W r0 r2).mono fun e W' ⟨he, hg⟩ => ?_
 subst he
 exact ⟨_, rfl, _, _, _, [], _, [], hW', trodAll_mk1 (shut_bool Try.underlying4 _), (trodAll_cons_mk (Below.trod laidOut (by kernel_rfl) (of_decide_eq_true (by kernel_rfl)) h0 hg lt0) (trodAll_cons_mk (Below.trod laidOut (by kernel_rfl) (of_decide_eq_true (by kernel_rfl)) h1 hg lt1) (trodAll_cons_mk (Below.trod laidOut (by kernel_rfl) (of_decide_eq_true (by kernel_rfl)) h2 hg lt2) (trodAll_cons_mk (Below.trod laidOut (by kernel_rfl) (of_decide_eq_true (by kernel_rfl)) h3 hg lt3) (trodAll_cons_mk (Below.trod laidOut (by kernel_rfl) (of_decide_eq_true (by kernel_rfl)) h4 hg lt4) trodAll_mk0))))), rfl, hg.frame _, fun h => by cases h⟩
theorem over : Rows.fnExactLeastLimitRow.holds Try.pinned (OpenSpec.ofChange Rows.fnExactLeastLimitSpec) :=
 OpenClaim.holds_of_wide 12 Try.f12 rfl rfl rfl rfl rfl rfl rfl ⟨rfl, rfl, rfl, rfl, rfl⟩ rfl rfl rfl rfl rfl (by kernel_rfl) Try.func12 (by kernel_rfl)
  (of_decide_eq_true (by kernel_rfl)) (by unfold Func.isWrapper; first | (rw [if_pos (by decide +kernel)]; kernel_rfl) | (rw [if_neg (by decide +kernel)]; exact ⟨rfl, rfl⟩))
  (fun os started H enc _ => lifted os started H enc)
theorem proved : Rows.FnExactLeastLimitSaid :=
 over
#print axioms proved
end Go.Proofs.Ytibadkjdchdnjaa.fnExactLeastLimit
-- squeezed
