import Derived.Test.YthejnpignlhgiaaRows
import Derived.Test.YthejnpignlhgiaaM13
import Derived.Test.YthejnpignlhgiaaFri
import Derived.Test.YthejnpignlhgiaaM12
import Derived.Deep.RegionHeld3
set_option linter.all false
namespace Go.Proofs.Ythejnpignlhgiaa.fnExactRunFrom
open Lib (hid)
open Go.ChangeShapes Go.WideShapes Go.ChangeAt Go.RowKit
open PL Mem To Sz EqP OpenP MarkP Srun Sst Sout EvtP LawO LawI Frp Fri
theorem own : ownKnob Try.prog.godebug = none := by kernel_rfl
theorem cnt_small {p : Pg} (h : ¬ szP 1048576 p < 0) : cnt p ≤ 1048576 := by
 have ht : tot p ≤ 1048576 := by
  unfold szP szR at h
  split at h <;> omega
 exact Nat.le_trans (tot_cnt p) ht
set_option maxHeartbeats 4000000 in
set_option maxRecDepth 100000 in
theorem walk (A : Option Addr) (c : Nat) (p : Pg) (f arg fuel s : Int) (hn : p.length ≤ maxLen) (hsm : Small p maxLen) (w : World) (hr : RdP w w.heap.size A p) :
  Calls Try.prog 7 #[.agg #[.slice A p.length c], .int .i64 f, .int .i64 arg, .int .i64 fuel, .int .i64 s] w fun e w' => e = .returned (.bool true) ∧ Below w.heap.size w w' := by
 unfold maxLen at hn hsm
 have hR := hid hr
 clear hr
 obtain ⟨n, hL⟩ : ∃ n, p.length = n := ⟨_, rfl⟩
 have hz := hid (fun W h hB => szProgram_any w.heap.size A n c p 1048576 (by omega) (by omega) (by omega) hL hsm W h hB)
 by_cases hneg : szP 1048576 p < 0
 ·have hs := hid (szR_neg _ _ hneg).1
  have hL' := hid hL
  rw [hL]
  clear hL hneg
  go_enter Try.func7, Try.ntmps7
  go_wp2_with fail
  refine (hz.out _ (hR.out.below ((Below.refl _ _).alloc (Nat.le_refl _) _)) (by simp)).mono ?_
  rintro e w1 ⟨rfl, b1⟩
  rw [szP, hs.out]
  go_wp2_with fail
  go_ret
  exact ⟨rfl, ((Below.refl _ _).alloc (Nat.le_refl _) _).trans (b1.mono (by simp))⟩
 ·obtain ⟨hs1, hs2⟩ := szP_small hneg
  have hcp := cnt_small hneg
  rw [hL] at hs1 hn
  have hT := hid (fun W h hB => toProgram_any w.heap.size A n c p (by omega) hL (hs2.mono (by omega)) W h hB)
  have hEp := hid (fun B A' A'' c' c'' W h h' hB => eqProgram_same B A' A'' n c' c'' p (by omega) hL (hs2.mono (by omega)) W h h' hB)
  have hMp := hid (fun lo hi c' A' W h h' => markProgram_any lo hi n c' A' p 1 (by omega) hL (hs2.mono (by omega)) (by omega) (by omega) W h h')
  have hS := fun lo c' A' W h => fromS_any lo n c' A' p f arg fuel s (by omega) hL (hs2.mono (by omega)) W h
  have hI := fun lo c' A' W h => fromI_any lo n c' A' p f arg fuel s (by omega) hL (hs2.mono (by omega)) W h
  have hft := fromR_len p f arg fuel s
  generalize fromR p f arg fuel s = r at hS hI hft
  obtain ⟨⟨ok, ov, q, os⟩, z0, k0⟩ := r
  dsimp only at hft
  obtain ⟨m, hm⟩ : ∃ m, q.length = m := ⟨_, rfl⟩
  have hEq := hid (fun B c' c'' A' A'' W h h' hB => eqOutcome_same B A' A'' m c' c'' q ok ov os (by omega) hm W h h' hB)
  have hMq := hid (fun B c' A' W h => markOutcome_any B m c' A' q ok ov os 1 (by omega) hm (by omega) (by omega) W h)
  have hHq := hid (fun B c' A' W hB h => heldOutcome_any B m c' A' ok ov os 1 (by omega) (by omega) (by omega) W hB h)
  have hS' : ∀ lo c' A' W, OwnP W lo (.slice A' n c') p → Calls Try.prog 33 #[.agg #[.slice A' n c'], .int .i64 f, .int .i64 arg, .int .i64 fuel, .int .i64 s] W fun e w' => ∃ Aw cw, e = .returned (.tuple #[.agg #[.int .i64 ok, .int .i64 ov, .slice Aw m cw, .int .i64 os], .int .i64 z0, .bool k0]) ∧ Tre w' W.heap.size (.slice Aw m cw) q ∧ Below W.heap.size W w' :=
   fun lo c' A' W h => (hS lo c' A' W h).mono fun e w' h' => by obtain ⟨x, y, h1, h2, h3⟩ := h'; unfold outval at h1; simp only [hm] at h1 h2; exact ⟨x, y, h1, h2, h3⟩
  have hI' : ∀ lo c' A' W, OwnP W lo (.slice A' n c') p → Calls Try.prog 34 #[.agg #[.slice A' n c'], .int .i64 f, .int .i64 arg, .int .i64 fuel, .int .i64 s] W fun e w' => ∃ Aw cw, e = .returned (.tuple #[.agg #[.int .i64 ok, .int .i64 ov, .slice Aw m cw, .int .i64 os], .int .i64 z0, .bool k0]) ∧ Tre w' W.heap.size (.slice Aw m cw) q ∧ Below W.heap.size W w' :=
   fun lo c' A' W h => (hI lo c' A' W h).mono fun e w' h' => by obtain ⟨x, y, h1, h2, h3⟩ := h'; unfold outval at h1; simp only [hm] at h1 h2; exact ⟨x, y, h1, h2, h3⟩
  have HS := hid hS'
  have HI := hid hI'
  have HM := hid hm
  unfold MarkedP at hMp
  unfold MarkedE at hMq
  have hkp : ¬ (1 + 3 * (cnt p : Int)) < 0 := by omega
  have hkq : ¬ (1 + 3 * (m : Int)) < 0 := by omega
  generalize 1 + 3 * (cnt p : Int) = kp at *
  generalize 1 + 3 * (m : Int) = kq at *
  have hbb : (k0 != k0) = false := by simp
  have hbz : (z0 != z0) = false := by simp
  have hL' := hid hL
  rw [hL]
  clear hL hs2 hsm hS hI hft hm hcp hS' hI' hs1 hn
  go_enter Try.func7, Try.ntmps7
  go_wp2_with fail
  refine (hz.out _ (hR.out.below ((Below.refl _ _).alloc (Nat.le_refl _) _)) (by simp)).mono ?_
  rintro e w1 ⟨rfl, b1⟩
  have a1 : Blk w1 w.heap.size 24 #[.slice A n c] := Blk.below (heap1_0 w _) b1 (by simp)
  have bb1 : Below w.heap.size w w1 := ((Below.refl _ _).alloc (Nat.le_refl _) _).trans (b1.mono (by simp))
  have za1 : w1.cell? ⟨w.heap.size, 0, none⟩ = some (.slice A n c) := a1.cells 0
  generalize szP 1048576 p = z at *
  clear b1
  go_wp2_with fail
  refine (hT.out _ (hR.out.below bb1) bb1.size).mono ?_
  rintro e w2 ⟨gx, rfl, o2, b2⟩
  have O2 := hid o2
  clear o2 za1
  go_wp2_with fail
  refine (HS.out _ _ _ _ O2.out).mono ?_
  rintro e w3 ⟨Aw, cw, rfl, o3, b3⟩
  have a3 := (a1.below b2 a1.lt).below b3 (a1.below b2 a1.lt).lt
  have bb3 := (bb1.trans (b2.mono bb1.size)).trans (b3.mono (bb1.trans (b2.mono bb1.size)).size)
  have OW3 := hid (OwnEH.of o3)
  have l0 : w.heap.size < w2.heap.size := Nat.lt_of_lt_of_le a1.lt b2.size
  have l1 := b3.size
  clear O2 o3 b2 b3 bb1 a1
  go_upto_region 6 with fail
  change (fun V => Code.wp _ _ _ _ V) _
  refine gen_world (X := fun V => Blk V w3.heap.size 56 #[.int .i64 ok, .int .i64 ov, .slice Aw m cw, .int .i64 os] ∧ Below w3.heap.size w3 V) ⟨heap1_0 w3 _, (Below.refl _ _).alloc (Nat.le_refl _) _⟩ ?_
  rintro w4 ⟨W4, b4⟩
  have a4 := a3.below b4 a3.lt
  have bb4 := bb3.trans (b4.mono bb3.size)
  have OW4 := hid (OW3.out.below b4)
  have l2 := W4.lt
  have za4 : w4.cell? ⟨w.heap.size, 0, none⟩ = some (.slice A n c) := a4.cells 0
  clear a3 bb3 OW3 b4
  go_wp2_with fail
  clear za4
  refine (hT.out _ (hR.out.below bb4) bb4.size).mono ?_
  rintro e w5 ⟨gy, rfl, o5, b5⟩
  have a5 := a4.below b5 a4.lt
  have W5 := W4.below b5 W4.lt
  have bb5 := bb4.trans (b5.mono bb4.size)
  have OW5 := hid (OW4.out.below (b5.mono (by omega)))
  have O5 := hid o5
  have l3 := b5.size
  clear a4 bb4 OW4 o5 b5 W4
  go_upto_region 7 with fail
  change (fun V => Code.wp _ _ _ _ V) _
  refine gen_world (X := fun V => Blk V w5.heap.size 35 #[.slice (some ⟨gy, 0, none⟩) n n] ∧ Below w5.heap.size w5 V) ⟨heap1_0 w5 _, (Below.refl _ _).alloc (Nat.le_refl _) _⟩ ?_
  rintro w6 ⟨X6, b6⟩
  have l4 := X6.lt
  have a6 := a5.below b6 a5.lt
  have W6 := W5.below b6 W5.lt
  have bb6 := bb5.trans (b6.mono bb5.size)
  have OW6 := hid (OW5.out.below (b6.mono (by omega)))
  have OX6 := hid ((OwnH.of O5.out).below b6)
  have zx6 : w6.cell? ⟨w5.heap.size, 0, none⟩ = some (.slice (some ⟨gy, 0, none⟩) n n) := X6.cells 0
  clear a5 bb5 OW5 O5 b6 W5
  go_wp2_with fail
  clear zx6
  refine (HI.out _ _ _ _ OX6.out.own).mono ?_
  rintro e w7 ⟨Ag, cg, rfl, o7, b7⟩
  have l5 := b7.size
  have a7 := a6.below b7 a6.lt
  have W7 := W6.below b7 W6.lt
  have X7 := X6.below b7 X6.lt
  have bb7 := bb6.trans (b7.mono bb6.size)
  have OW7 := hid (OW6.out.below (b7.mono (by omega)))
  have OX7 := hid (OX6.out.below (b7.mono (by omega)))
  have OG7 := hid (OwnEH.of o7)
  clear o7 b7 a6 W6 X6 bb6 OW6 OX6
  go_upto_region 8 with fail
  change (fun V => Code.wp _ _ _ _ V) _
  refine gen_world (X := fun V => Blk V w7.heap.size 56 #[.int .i64 ok, .int .i64 ov, .slice Ag m cg, .int .i64 os] ∧ Below w7.heap.size w7 V) ⟨heap1_0 w7 _, (Below.refl _ _).alloc (Nat.le_refl _) _⟩ ?_
  rintro w8 ⟨G8, b8⟩
  have l6 := G8.lt
  have X8 : Hid (StO w n c A w3.heap.size w5.heap.size w7.heap.size ok ov os (.slice Aw m cw) (.slice (some ⟨gy, 0, none⟩) n n) (.slice Ag m cg) w2.heap.size w3.heap.size w4.heap.size w5.heap.size w6.heap.size w7.heap.size q p q w8) :=
   hid ⟨bb7.trans (b8.mono bb7.size), a7.below b8 a7.lt, W7.below b8 W7.lt, X7.below b8 X7.lt, G8, OW7.out.below (b8.mono (by omega)), OX7.out.below (b8.mono (by omega)), OG7.out.below b8, by omega⟩
  clear X7 a7 W7 bb7 OW7 OX7 OG7 b8 G8 l0 l1 l2 l3 l4 l5 l6
  generalize w2.heap.size = Lw, w3.heap.size = wb, w4.heap.size = Lx, w5.heap.size = bx, w6.heap.size = Lg, w7.heap.size = gb at *
  obtain ⟨za, zx, ⟨zw0, zw1, zw2, zw3⟩, zg0, zg1, zg2, zg3⟩ := X8.out.cells
  go_wp2_with fail
  clear za zx zw0 zw1 zw2 zw3 zg0 zg1 zg2 zg3
  refine (hEq.out w8.heap.size cg cw Ag Aw w8 (Tre.rd X8.out.og.1 HM.out) (Tre.rd X8.out.ow.1 HM.out) (Nat.le_refl _)).mono ?_
  rintro e w9 ⟨rfl, b9⟩
  have X9 := hid (X8.out.next b9)
  clear X8 b9
  have hX9 := hid (fun (V : World) (b : Below w9.heap.size w9 V) => (show V.cell? ⟨bx, 0, none⟩ = some (.slice (some ⟨gy, 0, none⟩) n n) ∧ V.cell? ⟨w.heap.size, 0, none⟩ = some (.slice A n c) from ⟨(X9.out.next b).cells.2.1, (X9.out.next b).cells.1⟩))
  obtain ⟨za, zx, _⟩ := X9.out.cells
  go_wp2_with fail
  clear za zx
  obtain ⟨x1, x2⟩ := hX9.out w9 (Below.refl _ _)
  have hT9 := hid (fun (W : World) (b : Below w9.heap.size w9 W) => (hT.out W (hR.out.below (X9.out.next b).below) (X9.out.next b).below.size).mono (fun e w' (h : ∃ g, e = Ending.returned (.agg #[.slice (some ⟨g, 0, none⟩) n n]) ∧ OwnP w' W.heap.size (.slice (some ⟨g, 0, none⟩) n n) p ∧ Below W.heap.size W w') =>
   show ∃ g, e = Ending.returned (.agg #[.slice (some ⟨g, 0, none⟩) n n]) ∧ OwnP w' w9.heap.size (.slice (some ⟨g, 0, none⟩) n n) p ∧ Below w9.heap.size w9 w' from
   let ⟨g, he, ho, hb⟩ := h; ⟨g, he, ho.mono b.size, b.trans (hb.mono b.size)⟩))
  have hE9 := hid (fun (W : World) (g : Nat) (o : OwnP W w9.heap.size (.slice (some ⟨g, 0, none⟩) n n) p) (b : Below w9.heap.size w9 W) => (hEp.out W.heap.size (some ⟨gy, 0, none⟩) (some ⟨g, 0, none⟩) n n W (X9.out.next b).ox.own.rd o.rd (Nat.le_refl _)).mono (fun e w' h => show e = Ending.returned (.bool true) ∧ Below w9.heap.size w9 w' from ⟨h.1, b.trans (h.2.mono b.size)⟩))
  have bD : Below w9.heap.size w9 w9.drew := (Below.refl _ _).drew
  go_region_held3 (fun V => V.cell? ⟨bx, 0, none⟩ = some (.slice (some ⟨gy, 0, none⟩) n n) ∧ V.cell? ⟨w.heap.size, 0, none⟩ = some (.slice A n c))
   (first | exact ⟨x1, x2⟩ | (refine hX9.out _ ?_; assumption))
   (first | (go_at_call 18; refine (hT9.out _ ?_).mono ?_; assumption; rintro e wT ⟨gz, rfl, oT, bT⟩) | (go_at_call 21; refine (hE9.out _ gz oT ?_).mono ?_; assumption; rintro e w10 ⟨rfl, b10⟩))
  have X10 := hid (X9.out.next b10)
  clear b10 oT bT bD x1 x2 hE9 hT9 hX9 X9
  obtain ⟨za, zx, _⟩ := X10.out.cells
  go_wp2_with fail
  clear za zx
  refine (hMp.out Lx bx n (some ⟨gy, 0, none⟩) w10 (by have := X10.out.ord; omega) X10.out.ox).mono ?_
  rintro e w11 ⟨rfl, o11, c11⟩
  have X11 := hid (X10.out.markX c11 o11)
  clear X10 o11 c11
  obtain ⟨za, zx, ⟨zw0, zw1, zw2, zw3⟩, zg0, zg1, zg2, zg3⟩ := X11.out.cells
  go_wp2_with fail
  clear za zx zw0 zw1 zw2 zw3 zg0 zg1 zg2 zg3
  refine (hEq.out w11.heap.size cg cw Ag Aw w11 (Tre.rd X11.out.og.1 HM.out) (Tre.rd X11.out.ow.1 HM.out) (Nat.le_refl _)).mono ?_
  rintro e w12 ⟨rfl, b12⟩
  have X12 := hid (X11.out.next b12)
  clear X11 b12
  obtain ⟨za, zx, _, zg0, zg1, zg2, zg3⟩ := X12.out.cells
  go_wp2_with fail
  clear za zx zg0 zg1 zg2 zg3
  refine (hMq.out Lg cg Ag w12 (Tre.row X12.out.og.1 HM.out)).mono ?_
  rintro e w13 ⟨rfl, o13, c13⟩
  have X13 := hid (X12.out.markG c13 (by unfold Tre; rw [marks_length]; exact o13))
  clear X12 o13 c13
  obtain ⟨za, zx, _, zg0, zg1, zg2, zg3⟩ := X13.out.cells
  go_wp2_with fail
  clear za zx zg0 zg1 zg2 zg3
  refine (hHq.out w13.heap.size cg Ag w13 (Nat.le_refl _) (Tre.rd X13.out.og.1 (marks_length _ _))).mono ?_
  rintro e w14 ⟨rfl, b14⟩
  have X14 := hid (X13.out.next b14)
  clear X13 b14
  obtain ⟨za, zx, _⟩ := X14.out.cells
  go_wp2_with fail
  clear za zx
  refine (hT.out _ (hR.out.below X14.out.below) X14.out.below.size).mono ?_
  rintro e w15 ⟨gh, rfl, o15, b15⟩
  have X15 := hid (X14.out.next b15)
  have O15 := hid o15
  clear X14 b15 o15
  obtain ⟨za, zx, _⟩ := X15.out.cells
  go_wp2_with fail
  clear za zx
  refine (HI.out _ _ _ _ O15.out).mono ?_
  rintro e w16 ⟨Ah, ch, rfl, o16, b16⟩
  have X16 := hid (X15.out.next b16)
  have O16 := hid (OwnEH.of o16)
  clear X15 b16 o16 O15
  go_upto_region 25 with fail
  change (fun V => Code.wp _ _ _ _ V) _
  refine gen_world (X := fun V => Blk V w16.heap.size 56 #[.int .i64 ok, .int .i64 ov, .slice Ah m ch, .int .i64 os] ∧ Below w16.heap.size w16 V) ⟨heap1_0 w16 _, (Below.refl _ _).alloc (Nat.le_refl _) _⟩ ?_
  rintro w17 ⟨H17, b17⟩
  have X17 := hid (X16.out.next b17)
  have O17 := hid (O16.out.below b17)
  have zh0 := H17.cells 0
  have zh1 := H17.cells 1
  have zh2 := H17.cells 2
  have zh3 := H17.cells 3
  obtain ⟨za, zx, ⟨zw0, zw1, zw2, zw3⟩, _⟩ := X17.out.cells
  clear X16 O16 b17 H17
  go_wp2_with fail
  clear za zx zw0 zw1 zw2 zw3 zh0 zh1 zh2 zh3
  refine (hEq.out w17.heap.size ch cw Ah Aw w17 (Tre.rd O17.out.1 HM.out) (Tre.rd X17.out.ow.1 HM.out) (Nat.le_refl _)).mono ?_
  rintro e w18 ⟨rfl, b18⟩
  have X18 := hid (X17.out.next b18)
  clear X17 b18 O17
  obtain ⟨za, zx, _, zg0, zg1, zg2, zg3⟩ := X18.out.cells
  go_wp2_with fail
  clear za zx zg0 zg1 zg2 zg3
  refine (hHq.out w18.heap.size cg Ag w18 (Nat.le_refl _) (Tre.rd X18.out.og.1 (marks_length _ _))).mono ?_
  rintro e w19 ⟨rfl, b19⟩
  go_wp2_with fail
  go_ret
  exact ⟨rfl, (X18.out.next b19).below⟩
set_option maxRecDepth 100000 in
theorem lifted (os : Os) (started : os.Started) (H : Type) (enc : TypeId × Value → H) :
  ReturnsInHanded {} Try.checked os 7 .any (Rows.fnExactRunFromSpec.pre6 enc Try.prog Try.f7 Rows.fnExactRunFromRow.domain false) (Rows.fnExactRunFromSpec.post enc Try.prog Try.f7 false true false false) := by
 refine returnsInHanded_of_change (C := Try.checked) own started (by kernel_rfl) Try.func7
  (ChangeSpec.witness6 (enc := enc) (C := Try.checked) false ⟨#[], #[.agg #[.slice none 0 0], .int .i64 0, .int .i64 0, .int .i64 0, .int .i64 0], []⟩ 8 (by kernel_rfl) (by kernel_rfl) (by kernel_rfl) (by kernel_rfl)) ?_
 intro W base args ds gs before hval0 hW hcnd _
 have hval : ∀ (j : Nat) t v, Try.f7.params[j]? = some t → args[j]? = some v → Value.okWide Try.prog W .any base t v := hval0
 have hW' := hW
 obtain ⟨p, q, hA0, hV, rfl, hfz, hnd⟩ := hW
 have hA : DataW.TrodAll enc Try.prog W 0 (fun _ => true) true Try.f7.params.toList args.toList ds p := hA0
 rw [Try.params7] at hA hval
 obtain ⟨v0, vs0, d0, ds0, p0, q0, hargs, rfl, rfl, h0, rest0⟩ := trodAll_cons hA
 obtain ⟨v1, vs1, d1, ds1, p1, q1, rfl, rfl, rfl, h1, rest1⟩ := trodAll_cons rest0
 obtain ⟨v2, vs2, d2, ds2, p2, q2, rfl, rfl, rfl, h2, rest2⟩ := trodAll_cons rest1
 obtain ⟨v3, vs3, d3, ds3, p3, q3, rfl, rfl, rfl, h3, rest3⟩ := trodAll_cons rest2
 obtain ⟨v4, vs4, d4, ds4, p4, q4, rfl, rfl, rfl, h4, rest4⟩ := trodAll_cons rest3
 obtain ⟨rfl, rfl, rfl⟩ := trodAll_nil rest4
 obtain rfl : args = #[v0, v1, v2, v3, v4] := by cases args; simp_all
 obtain ⟨rfl, rfl⟩ := trodVars_none hV
 obtain ⟨A0, c0, P0, rfl, n0, r0, f0, s0⟩ := open_prog (hval 0 24 v0 rfl rfl) h0
 obtain ⟨z1, rfl, f1⟩ := open_int_fit (hval 1 3 v1 rfl rfl) h1
 obtain ⟨z2, rfl, f2⟩ := open_int_fit (hval 2 3 v2 rfl rfl) h2
 obtain ⟨z3, rfl, f3⟩ := open_int_fit (hval 3 3 v3 rfl rfl) h3
 obtain ⟨z4, rfl, f4⟩ := open_int_fit (hval 4 3 v4 rfl rfl) h4
 have lt0 : ∀ x ∈ p0, x.block < W.heap.size := by obtain ⟨m, hm⟩ := h0; exact DataW.trod_lt m _ _ _ hm
 have lt1 : ∀ x ∈ p1, x.block < W.heap.size := by obtain ⟨m, hm⟩ := h1; exact DataW.trod_lt m _ _ _ hm
 have lt2 : ∀ x ∈ p2, x.block < W.heap.size := by obtain ⟨m, hm⟩ := h2; exact DataW.trod_lt m _ _ _ hm
 have lt3 : ∀ x ∈ p3, x.block < W.heap.size := by obtain ⟨m, hm⟩ := h3; exact DataW.trod_lt m _ _ _ hm
 have lt4 : ∀ x ∈ p4, x.block < W.heap.size := by obtain ⟨m, hm⟩ := h4; exact DataW.trod_lt m _ _ _ hm
 clear hA0 hval0
 refine (walk A0 c0 P0 z1 z2 z3 z4 n0 s0 W r0).mono fun e W' ⟨he, hg⟩ => ?_
 subst he
 exact ⟨_, rfl, _, _, _, [], _, [], hW', trodAll_mk1 (shut_bool Try.underlying4 _), (trodAll_cons_mk (Below.trod laidOut (by kernel_rfl) (of_decide_eq_true (by kernel_rfl)) h0 hg lt0) (trodAll_cons_mk (Below.trod laidOut (by kernel_rfl) (of_decide_eq_true (by kernel_rfl)) h1 hg lt1) (trodAll_cons_mk (Below.trod laidOut (by kernel_rfl) (of_decide_eq_true (by kernel_rfl)) h2 hg lt2) (trodAll_cons_mk (Below.trod laidOut (by kernel_rfl) (of_decide_eq_true (by kernel_rfl)) h3 hg lt3) (trodAll_cons_mk (Below.trod laidOut (by kernel_rfl) (of_decide_eq_true (by kernel_rfl)) h4 hg lt4) trodAll_mk0))))), rfl, hg.frame _, fun h => by cases h⟩
theorem over : Rows.fnExactRunFromRow.holds Try.pinned (OpenSpec.ofChange Rows.fnExactRunFromSpec) :=
 OpenClaim.holds_of_wide 7 Try.f7 rfl rfl rfl rfl rfl rfl rfl ⟨rfl, rfl, rfl, rfl, rfl⟩ rfl rfl rfl rfl rfl (by kernel_rfl) Try.func7 (by kernel_rfl)
  (of_decide_eq_true (by kernel_rfl)) (by unfold Func.isWrapper; first | (rw [if_pos (by decide +kernel)]; kernel_rfl) | (rw [if_neg (by decide +kernel)]; exact ⟨rfl, rfl⟩))
  (fun os started H enc _ => lifted os started H enc)
theorem proved : Rows.FnExactRunFromSaid :=
 over
#print axioms proved
end Go.Proofs.Ythejnpignlhgiaa.fnExactRunFrom
-- squeezed
