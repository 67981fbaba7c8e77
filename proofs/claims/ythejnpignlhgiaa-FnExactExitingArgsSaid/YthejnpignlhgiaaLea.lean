import Derived.Test.YthejnpignlhgiaaRows
import Derived.Test.YthejnpignlhgiaaM2
import Derived.Test.YthejnpignlhgiaaExo
import Derived.Deep.RegionHeld3
set_option linter.all false
namespace Go.Proofs.Ythejnpignlhgiaa.fnExactExitingArgs
open Lib (hid)
open Go.ChangeShapes Go.WideShapes Go.ChangeAt Go.RowKit
open PL Mem To Sz EqP OpenP MarkP IntsP LawI Frp Exo
theorem own : ownKnob Try.prog.godebug = none := by kernel_rfl
theorem cnt_small {p : Pg} (h : ¬ szP 1048576 p < 0) : cnt p ≤ 1048576 := by
 have ht : tot p ≤ 1048576 := by
  unfold szP szR at h
  split at h <;> omega
 exact Nat.le_trans (tot_cnt p) ht
set_option maxHeartbeats 4000000 in
set_option maxRecDepth 100000 in
theorem walk (A : Option Addr) (c : Nat) (p : Pg) (f low high fuel : Int) (hn : p.length ≤ maxLen) (hsm : Small p maxLen) (w : World) (hr : RdP w w.heap.size A p) :
  Calls Try.prog 6 #[.agg #[.slice A p.length c], .int .i64 f, .int .i64 low, .int .i64 high, .int .i64 fuel] w fun e w' => e = .returned (.bool true) ∧ Below w.heap.size w w' := by
 unfold maxLen at hn hsm
 have hR := hid hr
 clear hr
 obtain ⟨n, hL⟩ : ∃ n, p.length = n := ⟨_, rfl⟩
 have hz := hid (fun W h hB => szProgram_any w.heap.size A n c p 1048576 (by omega) (by omega) (by omega) hL hsm W h hB)
 by_cases hneg : szP 1048576 p < 0
 ·have hs := hid (szR_neg _ _ hneg).1
  have hL' := hid hL
  rw [hL]
  clear hL hneg
  go_enter Try.func6, Try.ntmps6
  go_wp2_with fail
  refine (hz.out _ (hR.out.below ((Below.refl _ _).alloc (Nat.le_refl _) _)) (by simp)).mono ?_
  rintro e w1 ⟨rfl, b1⟩
  rw [szP, hs.out]
  go_wp2_with fail
  go_ret
  exact ⟨rfl, ((Below.refl _ _).alloc (Nat.le_refl _) _).trans (b1.mono (by simp))⟩
 ·obtain ⟨hs1, hs2⟩ := szP_small hneg
  have hcp := cnt_small hneg
  rw [hL] at hs1 hn
  have hT := hid (fun W h hB => toProgram_any w.heap.size A n c p (by omega) hL (hs2.mono (by omega)) W h hB)
  have hEp := hid (fun B A' A'' c' c'' W h h' hB => eqProgram_same B A' A'' n c' c'' p (by omega) hL (hs2.mono (by omega)) W h h' hB)
  have hMp := hid (fun lo hi c' A' W h h' => markProgram_any lo hi n c' A' p 1 (by omega) hL (hs2.mono (by omega)) (by omega) (by omega) W h h')
  have hS := fun lo c' A' W h => eargS_any lo n c' A' p f low high fuel (by omega) hL (hs2.mono (by omega)) W h
  have hI := fun lo c' A' W h => eargI_any lo n c' A' p f low high fuel (by omega) hL (hs2.mono (by omega)) W h
  have hft := eargR_len p f low high fuel
  generalize eargR p f low high fuel = r at hS hI hft
  obtain ⟨q, k0⟩ := r
  dsimp only at hft
  obtain ⟨m, hm⟩ : ∃ m, q.length = m := ⟨_, rfl⟩
  have hEq := hid (fun B A' A'' c' c'' W h h' hB => eqIntS_same B A' A'' m c' c'' q (by omega) hm W h h' hB)
  have hMq := hid (fun B c' A' W h => markIntS_any B m c' A' q 1 (by omega) hm (by omega) (by omega) W h)
  have hHq := hid (fun B c' A' W h => heldIntS_any B m c' A' 1 (by omega) (by omega) (by omega) W h)
  have hS' : ∀ lo c' A' W, OwnP W lo (.slice A' n c') p → Calls Try.prog 31 #[.agg #[.slice A' n c'], .int .i64 f, .int .i64 low, .int .i64 high, .int .i64 fuel] W fun e w' => ∃ Aw cw, e = .returned (.tuple #[.slice Aw m cw, .bool k0]) ∧ OwnI w' W.heap.size (.slice Aw m cw) q ∧ Below W.heap.size W w' :=
   fun lo c' A' W h => (hS lo c' A' W h).mono fun e w' h' => by obtain ⟨x, y, h1, h2, h3⟩ := h'; simp only [hm] at h1 h2; exact ⟨x, y, h1, h2, h3⟩
  have hI' : ∀ lo c' A' W, OwnP W lo (.slice A' n c') p → Calls Try.prog 32 #[.agg #[.slice A' n c'], .int .i64 f, .int .i64 low, .int .i64 high, .int .i64 fuel] W fun e w' => ∃ Aw cw, e = .returned (.tuple #[.slice Aw m cw, .bool k0]) ∧ OwnI w' W.heap.size (.slice Aw m cw) q ∧ Below W.heap.size W w' :=
   fun lo c' A' W h => (hI lo c' A' W h).mono fun e w' h' => by obtain ⟨x, y, h1, h2, h3⟩ := h'; simp only [hm] at h1 h2; exact ⟨x, y, h1, h2, h3⟩
  have HS := hid hS'
  have HI := hid hI'
  have HM := hid hm
  unfold MarkedP at hMp
  unfold MarkedI at hMq
  have hkp : ¬ (1 + 3 * (cnt p : Int)) < 0 := by omega
  have hkq : ¬ (1 + (m : Int)) < 0 := by omega
  generalize 1 + 3 * (cnt p : Int) = kp at *
  generalize 1 + (m : Int) = kq at *
  have hbb : (k0 != k0) = false := by simp
  have hL' := hid hL
  rw [hL]
  clear hL hs2 hsm hS hI hft hm hcp hS' hI' hs1 hn
  go_enter Try.func6, Try.ntmps6
  go_wp2_with fail
  refine (hz.out _ (hR.out.below ((Below.refl _ _).alloc (Nat.le_refl _) _)) (by simp)).mono ?_
  rintro e w1 ⟨rfl, b1⟩
  have a1 : Blk w1 w.heap.size 24 #[.slice A n c] := Blk.below (heap1_0 w _) b1 (by simp)
  have bb1 : Below w.heap.size w w1 := ((Below.refl _ _).alloc (Nat.le_refl _) _).trans (b1.mono (by simp))
  have za1 : w1.cell? ⟨w.heap.size, 0, none⟩ = some (.slice A n c) := a1.cells 0
  generalize szP 1048576 p = z at *
  clear b1
  go_wp2_with fail
  refine (hT.out _ (hR.out.below bb1) bb1.size).mono ?_
  rintro e w2 ⟨gx, rfl, o2, b2⟩
  have O2 := hid o2
  clear o2 za1
  go_wp2_with fail
  refine (HS.out _ _ _ _ O2.out).mono ?_
  rintro e w3 ⟨Aw, cw, rfl, o3, b3⟩
  have a3 := (a1.below b2 a1.lt).below b3 (a1.below b2 a1.lt).lt
  have bb3 := (bb1.trans (b2.mono bb1.size)).trans (b3.mono (bb1.trans (b2.mono bb1.size)).size)
  have OW := hid (OwnIH.of o3)
  have za3 : w3.cell? ⟨w.heap.size, 0, none⟩ = some (.slice A n c) := a3.cells 0
  have l0 : w.heap.size < w2.heap.size := Nat.lt_of_lt_of_le a1.lt b2.size
  have l1 := b3.size
  clear O2 o3 b2 b3 bb1 a1
  go_wp2_with fail
  clear za3
  refine (hT.out _ (hR.out.below bb3) bb3.size).mono ?_
  rintro e w5 ⟨gy, rfl, o5, b5⟩
  have a5 := a3.below b5 a3.lt
  have bb5 := bb3.trans (b5.mono bb3.size)
  have OW5 := hid (OW.out.below b5)
  have O5 := hid o5
  have l3 := b5.size
  clear a3 bb3 OW o5 b5
  go_wp2_with fail
  obtain ⟨w6, hw6⟩ : ∃ w6, w5.alloc (.cells #[.slice (some ⟨gy, 0, none⟩) n n] 35) = w6 := ⟨_, rfl⟩
  have b6 : Below w5.heap.size w5 w6 := by rw [← hw6]; exact (Below.refl _ _).alloc (Nat.le_refl _) _
  have X6 : Blk w6 w5.heap.size 35 #[.slice (some ⟨gy, 0, none⟩) n n] := by rw [← hw6]; exact heap1_0 _ _
  have l4 := X6.lt
  have a6 := a5.below b6 a5.lt
  have bb6 := bb5.trans (b6.mono bb5.size)
  have OW6 := hid (OW5.out.below (b6.mono (by omega)))
  have OX6 := hid ((OwnH.of O5.out).below b6)
  rw [hw6]
  clear hw6 a5 bb5 OW5 O5 b6
  refine (HI.out _ _ _ _ OX6.out.own).mono ?_
  rintro e w7 ⟨Ag, cg, rfl, o7, b7⟩
  have l5 := b7.size
  have X8 : Hid (StI w n c A w5.heap.size (.slice Aw m cw) (.slice (some ⟨gy, 0, none⟩) n n) (.slice Ag m cg) w2.heap.size w3.heap.size w3.heap.size w5.heap.size w6.heap.size w7.heap.size q p q w7) :=
   hid ⟨bb6.trans (b7.mono bb6.size), a6.below b7 a6.lt, X6.below b7 X6.lt, OW6.out.below (b7.mono (by omega)), OX6.out.below (b7.mono (by omega)), OwnIH.of o7, by omega⟩
  clear X6 a6 bb6 OW6 OX6 o7 b7 l0 l1 l3 l4 l5
  generalize w2.heap.size = Lw, w3.heap.size = Hw, w5.heap.size = Hx, w6.heap.size = Lg, w7.heap.size = Hg at *
  obtain ⟨za, zx⟩ := X8.out.cells
  go_wp2_with fail
  clear za zx
  refine (hEq.out w7.heap.size Ag Aw cg cw w7 (X8.out.og.1.rd HM.out) (X8.out.ow.1.rd HM.out) (Nat.le_refl _)).mono ?_
  rintro e w9 ⟨rfl, b9⟩
  have X9 := hid (X8.out.next b9)
  clear X8 b9
  have hX9 := hid (fun (V : World) (b : Below w9.heap.size w9 V) => (show V.cell? ⟨Hx, 0, none⟩ = some (.slice (some ⟨gy, 0, none⟩) n n) ∧ V.cell? ⟨w.heap.size, 0, none⟩ = some (.slice A n c) from ⟨(X9.out.next b).cells.2, (X9.out.next b).cells.1⟩))
  obtain ⟨za, zx⟩ := X9.out.cells
  go_wp2_with fail
  clear za zx
  obtain ⟨x1, x2⟩ := hX9.out w9 (Below.refl _ _)
  have hT9 := hid (fun (W : World) (b : Below w9.heap.size w9 W) => (hT.out W (hR.out.below (X9.out.next b).below) (X9.out.next b).below.size).mono (fun e w' (h : ∃ g, e = Ending.returned (.agg #[.slice (some ⟨g, 0, none⟩) n n]) ∧ OwnP w' W.heap.size (.slice (some ⟨g, 0, none⟩) n n) p ∧ Below W.heap.size W w') =>
   show ∃ g, e = Ending.returned (.agg #[.slice (some ⟨g, 0, none⟩) n n]) ∧ OwnP w' w9.heap.size (.slice (some ⟨g, 0, none⟩) n n) p ∧ Below w9.heap.size w9 w' from
   let ⟨g, he, ho, hb⟩ := h; ⟨g, he, ho.mono b.size, b.trans (hb.mono b.size)⟩))
  have hE9 := hid (fun (W : World) (g : Nat) (o : OwnP W w9.heap.size (.slice (some ⟨g, 0, none⟩) n n) p) (b : Below w9.heap.size w9 W) => (hEp.out W.heap.size (some ⟨gy, 0, none⟩) (some ⟨g, 0, none⟩) n n W (X9.out.next b).ox.own.rd o.rd (Nat.le_refl _)).mono (fun e w' h => show e = Ending.returned (.bool true) ∧ Below w9.heap.size w9 w' from ⟨h.1, b.trans (h.2.mono b.size)⟩))
  have bD : Below w9.heap.size w9 w9.drew := (Below.refl _ _).drew
  go_region_held3 (fun V => V.cell? ⟨Hx, 0, none⟩ = some (.slice (some ⟨gy, 0, none⟩) n n) ∧ V.cell? ⟨w.heap.size, 0, none⟩ = some (.slice A n c))
   (first | exact ⟨x1, x2⟩ | (refine hX9.out _ ?_; assumption))
   (first | (go_at_call 18; refine (hT9.out _ ?_).mono ?_; assumption; rintro e wT ⟨gz, rfl, oT, bT⟩) | (go_at_call 21; refine (hE9.out _ gz oT ?_).mono ?_; assumption; rintro e w10 ⟨rfl, b10⟩))
  have X10 := hid (X9.out.next b10)
  clear b10 oT bT bD x1 x2 hE9 hT9 hX9 X9
  obtain ⟨za, zx⟩ := X10.out.cells
  go_wp2_with fail
  clear za zx
  refine (hMp.out Hw Hx n (some ⟨gy, 0, none⟩) w10 (by have := X10.out.ord; omega) X10.out.ox).mono ?_
  rintro e w11 ⟨rfl, o11, c11⟩
  have X11 := hid (X10.out.markX c11 o11)
  clear X10 o11 c11
  obtain ⟨za, zx⟩ := X11.out.cells
  go_wp2_with fail
  clear za zx
  refine (hEq.out w11.heap.size Ag Aw cg cw w11 (X11.out.og.1.rd HM.out) (X11.out.ow.1.rd HM.out) (Nat.le_refl _)).mono ?_
  rintro e w12 ⟨rfl, b12⟩
  have X12 := hid (X11.out.next b12)
  clear X11 b12
  obtain ⟨za, zx⟩ := X12.out.cells
  go_wp2_with fail
  clear za zx
  refine (hMq.out Lg cg Ag w12 (by have := X12.out.og.1; unfold OwnI at this; rw [HM.out] at this; exact this)).mono ?_
  rintro e w13 ⟨rfl, o13, c13⟩
  have X13 := hid (X12.out.markG c13 (by unfold OwnI; rw [marksI_length]; exact o13))
  clear X12 o13 c13
  obtain ⟨za, zx⟩ := X13.out.cells
  go_wp2_with fail
  clear za zx
  refine (hHq.out w13.heap.size cg Ag w13 (X13.out.og.1.rd (marksI_length _ _))).mono ?_
  rintro e w14 ⟨rfl, rfl⟩
  obtain ⟨za, zx⟩ := X13.out.cells
  go_wp2_with fail
  clear za zx
  refine (hT.out _ (hR.out.below X13.out.below) X13.out.below.size).mono ?_
  rintro e w15 ⟨gh, rfl, o15, b15⟩
  have X15 := hid (X13.out.next b15)
  have O15 := hid o15
  clear X13 b15 o15
  obtain ⟨za, zx⟩ := X15.out.cells
  go_wp2_with fail
  clear za zx
  refine (HI.out _ _ _ _ O15.out).mono ?_
  rintro e w16 ⟨Ah, ch, rfl, o16, b16⟩
  have X16 := hid (X15.out.next b16)
  have O16 := hid o16
  clear X15 b16 o16 O15
  go_wp2_with fail
  refine (hEq.out w16.heap.size Ah Aw ch cw w16 (O16.out.rd HM.out) (X16.out.ow.1.rd HM.out) (Nat.le_refl _)).mono ?_
  rintro e w18 ⟨rfl, b18⟩
  have X18 := hid (X16.out.next b18)
  clear X16 b18 O16
  obtain ⟨za, zx⟩ := X18.out.cells
  go_wp2_with fail
  clear za zx
  refine (hHq.out w18.heap.size cg Ag w18 (X18.out.og.1.rd (marksI_length _ _))).mono ?_
  rintro e w19 ⟨rfl, rfl⟩
  go_wp2_with fail
  go_ret
  exact ⟨rfl, X18.out.below⟩
set_option maxRecDepth 100000 in
theorem lifted (os : Os) (started : os.Started) (H : Type) (enc : TypeId × Value → H) :
  ReturnsInHanded {} Try.checked os 6 .any (Rows.fnExactExitingArgsSpec.pre6 enc Try.prog Try.f6 Rows.fnExactExitingArgsRow.domain false) (Rows.fnExactExitingArgsSpec.post enc Try.prog Try.f6 false true false false) := by
 refine returnsInHanded_of_change (C := Try.checked) own started (by kernel_rfl) Try.func6
  (ChangeSpec.witness6 (enc := enc) (C := Try.checked) false ⟨#[], #[.agg #[.slice none 0 0], .int .i64 0, .int .i64 0, .int .i64 0, .int .i64 0], []⟩ 8 (by kernel_rfl) (by kernel_rfl) (by kernel_rfl) (by kernel_rfl)) ?_
 intro W base args ds gs before hval0 hW hcnd _
 have hval : ∀ (j : Nat) t v, Try.f6.params[j]? = some t → args[j]? = some v → Value.okWide Try.prog W .any base t v := hval0
 have hW' := hW
 obtain ⟨p, q, hA0, hV, rfl, hfz, hnd⟩ := hW
 have hA : DataW.TrodAll enc Try.prog W 0 (fun _ => true) true Try.f6.params.toList args.toList ds p := hA0
 rw [Try.params6] at hA hval
 obtain ⟨v0, vs0, d0, ds0, p0, q0, hargs, rfl, rfl, h0, rest0⟩ := trodAll_cons hA
 obtain ⟨v1, vs1, d1, ds1, p1, q1, rfl, rfl, rfl, h1, rest1⟩ := trodAll_cons rest0
 obtain ⟨v2, vs2, d2, ds2, p2, q2, rfl, rfl, rfl, h2, rest2⟩ := trodAll_cons rest1
 obtain ⟨v3, vs3, d3, ds3, p3, q3, rfl, rfl, rfl, h3, rest3⟩ := trodAll_cons rest2
 obtain ⟨v4, vs4, d4, ds4, p4, q4, rfl, rfl, rfl, h4, rest4⟩ := trodAll_cons rest3
 obtain ⟨rfl, rfl, rfl⟩ := trodAll_nil rest4
 obtain rfl : args = #[v0, v1, v2, v3, v4] := by cases args; simp_all
 obtain ⟨rfl, rfl⟩ := trodVars_none hV
 obtain ⟨A0, c0, P0, rfl, n0, r0, f0, s0⟩ := open_prog (hval 0 24 v0 rfl rfl) h0
 obtain ⟨z1, rfl, f1⟩ := open_int_fit (hval 1 3 v1 rfl rfl) h1
 obtain ⟨z2, rfl, f2⟩ := open_int_fit (hval 2 3 v2 rfl rfl) h2
 obtain ⟨z3, rfl, f3⟩ := open_int_fit (hval 3 3 v3 rfl rfl) h3
 obtain ⟨z4, rfl, f4⟩ := open_int_fit (hval 4 3 v4 rfl rfl) h4
 have lt0 : ∀ x ∈ p0, x.block < W.heap.size := by obtain ⟨m, hm⟩ := h0; exact DataW.trod_lt m _ _ _ hm
 have lt1 : ∀ x ∈ p1, x.block < W.heap.size := by obtain ⟨m, hm⟩ := h1; exact DataW.trod_lt m _ _ _ hm
 have lt2 : ∀ x ∈ p2, x.block < W.heap.size := by obtain ⟨m, hm⟩ := h2; exact DataW.trod_lt m _ _ _ hm
 have lt3 : ∀ x ∈ p3, x.block < W.heap.size := by obtain ⟨m, hm⟩ := h3; exact DataW.trod_lt m _ _ _ hm
 have lt4 : ∀ x ∈ p4, x.block < W.heap.size := by obtain ⟨m, hm⟩ := h4; exact DataW.trod_lt m _ _ _ hm
 clear hA0 hval0
 refine (walk A0 c0 P0 z1 z2 z3 z4 n0 s0 W r0).mono fun e W' ⟨he, hg⟩ => ?_
 subst he
 exact ⟨_, rfl, _, _, _, [], _, [], hW', trodAll_mk1 (shut_bool Try.underlying4 _), (trodAll_cons_mk (Below.trod laidOut (by kernel_rfl) (of_decide_eq_true (by kernel_rfl)) h0 hg lt0) (trodAll_cons_mk (Below.trod laidOut (by kernel_rfl) (of_decide_eq_true (by kernel_rfl)) h1 hg lt1) (trodAll_cons_mk (Below.trod laidOut (by kernel_rfl) (of_decide_eq_true (by kernel_rfl)) h2 hg lt2) (trodAll_cons_mk (Below.trod laidOut (by kernel_rfl) (of_decide_eq_true (by kernel_rfl)) h3 hg lt3) (trodAll_cons_mk (Below.trod laidOut (by kernel_rfl) (of_decide_eq_true (by kernel_rfl)) h4 hg lt4) trodAll_mk0))))), rfl, hg.frame _, fun h => by cases h⟩
theorem over : Rows.fnExactExitingArgsRow.holds Try.pinned (OpenSpec.ofChange Rows.fnExactExitingArgsSpec) :=
 OpenClaim.holds_of_wide 6 Try.f6 rfl rfl rfl rfl rfl rfl rfl ⟨rfl, rfl, rfl, rfl, rfl⟩ rfl rfl rfl rfl rfl (by kernel_rfl) Try.func6 (by kernel_rfl)
  (of_decide_eq_true (by kernel_rfl)) (by unfold Func.isWrapper; first | (rw [if_pos (by decide +kernel)]; kernel_rfl) | (rw [if_neg (by decide +kernel)]; exact ⟨rfl, rfl⟩))
  (fun os started H enc _ => lifted os started H enc)
theorem proved : Rows.FnExactExitingArgsSaid :=
 over
#print axioms proved
end Go.Proofs.Ythejnpignlhgiaa.fnExactExitingArgs
-- squeezed
