import Derived.Test.YthejnpignlhgiaaRows
import Derived.Test.YthejnpignlhgiaaM2
import Derived.Test.YthejnpignlhgiaaCdo
import Derived.Deep.RegionHeld3
set_option linter.all false
namespace Go.Proofs.Ythejnpignlhgiaa.fnExactCodeOf
open Lib (hid)
open Go.ChangeShapes Go.WideShapes Go.ChangeAt Go.RowKit
open PL Mem To Sz EqP OpenP MarkP LawN Frp Cdo
theorem own : ownKnob Try.prog.godebug = none := by kernel_rfl
set_option maxHeartbeats 4000000 in
set_option maxRecDepth 100000 in
theorem walk (A : Option Addr) (c : Nat) (p : Pg) (f arg fuel : Int) (hn : p.length ≤ maxLen) (hsm : Small p maxLen) (w : World) (hr : RdP w w.heap.size A p) :
  Calls Try.prog 4 #[.agg #[.slice A p.length c], .int .i64 f, .int .i64 arg, .int .i64 fuel] w fun e w' => e = .returned (.bool true) ∧ Below w.heap.size w w' := by
 unfold maxLen at hn hsm
 have hR := hid hr
 clear hr
 obtain ⟨n, hL⟩ : ∃ n, p.length = n := ⟨_, rfl⟩
 have hz := hid (fun W h hB => szProgram_any w.heap.size A n c p 1048576 (by omega) (by omega) (by omega) hL hsm W h hB)
 by_cases hneg : szP 1048576 p < 0
 ·have hs := hid (szR_neg _ _ hneg).1
  have hL' := hid hL
  rw [hL]
  clear hL hneg
  go_enter Try.func4, Try.ntmps4
  go_wp2_with fail
  refine (hz.out _ (hR.out.below ((Below.refl _ _).alloc (Nat.le_refl _) _)) (by simp)).mono ?_
  rintro e w1 ⟨rfl, b1⟩
  rw [szP, hs.out]
  go_wp2_with fail
  go_ret
  exact ⟨rfl, ((Below.refl _ _).alloc (Nat.le_refl _) _).trans (b1.mono (by simp))⟩
 ·obtain ⟨hs1, hs2⟩ := szP_small hneg
  rw [hL] at hs1 hn
  have hT := hid (fun W h hB => toProgram_any w.heap.size A n c p (by omega) hL (hs2.mono (by omega)) W h hB)
  have hEp := hid (fun B A' A'' c' c'' W h h' hB => eqProgram_same B A' A'' n c' c'' p (by omega) hL (hs2.mono (by omega)) W h h' hB)
  have hS := fun lo c' A' W h => codeS_any lo n c' A' p f arg fuel (by omega) hL (hs2.mono (by omega)) W h
  have hI := fun lo c' A' W h => codeI_any lo n c' A' p f arg fuel (by omega) hL (hs2.mono (by omega)) W h
  generalize codeR p f arg fuel = r at hS hI
  obtain ⟨z0, k0⟩ := r
  have hS' : ∀ lo c' A' W, OwnP W lo (.slice A' n c') p → Calls Try.prog 23 #[.agg #[.slice A' n c'], .int .i64 f, .int .i64 arg, .int .i64 fuel] W fun e w' => e = .returned (.tuple #[.int .i64 z0, .bool k0]) ∧ Below W.heap.size W w' :=
   fun lo c' A' W h => (hS lo c' A' W h)
  have hI' : ∀ lo c' A' W, OwnP W lo (.slice A' n c') p → Calls Try.prog 24 #[.agg #[.slice A' n c'], .int .i64 f, .int .i64 arg, .int .i64 fuel] W fun e w' => e = .returned (.tuple #[.int .i64 z0, .bool k0]) ∧ Below W.heap.size W w' :=
   fun lo c' A' W h => (hI lo c' A' W h)
  have HS := hid hS'
  have HI := hid hI'
  have hbb : (k0 != k0) = false := by simp
  have hL' := hid hL
  rw [hL]
  clear hL hs2 hsm hS hI hS' hI' hs1 hn
  go_enter Try.func4, Try.ntmps4
  go_wp2_with fail
  refine (hz.out _ (hR.out.below ((Below.refl _ _).alloc (Nat.le_refl _) _)) (by simp)).mono ?_
  rintro e w1 ⟨rfl, b1⟩
  have a1 : Blk w1 w.heap.size 24 #[.slice A n c] := Blk.below (heap1_0 w _) b1 (by simp)
  have bb1 : Below w.heap.size w w1 := ((Below.refl _ _).alloc (Nat.le_refl _) _).trans (b1.mono (by simp))
  have za1 : w1.cell? ⟨w.heap.size, 0, none⟩ = some (.slice A n c) := a1.cells 0
  generalize szP 1048576 p = z at *
  clear b1
  go_wp2_with fail
  refine (hT.out _ (hR.out.below bb1) bb1.size).mono ?_
  rintro e w2 ⟨gx, rfl, o2, b2⟩
  have O2 := hid o2
  clear o2 za1
  go_wp2_with fail
  refine (HS.out _ _ _ _ O2.out).mono ?_
  rintro e w3 ⟨rfl, b3⟩
  have a3 := (a1.below b2 a1.lt).below b3 (a1.below b2 a1.lt).lt
  have bb3 := (bb1.trans (b2.mono bb1.size)).trans (b3.mono (bb1.trans (b2.mono bb1.size)).size)
  have za3 : w3.cell? ⟨w.heap.size, 0, none⟩ = some (.slice A n c) := a3.cells 0
  have l0 : w.heap.size < w2.heap.size := Nat.lt_of_lt_of_le a1.lt b2.size
  have l1 := b3.size
  clear O2 b2 b3 bb1 a1
  go_wp2_with fail
  clear za3
  refine (hT.out _ (hR.out.below bb3) bb3.size).mono ?_
  rintro e w5 ⟨gy, rfl, o5, b5⟩
  have a5 := a3.below b5 a3.lt
  have bb5 := bb3.trans (b5.mono bb3.size)
  have O5 := hid o5
  have l3 := b5.size
  clear a3 bb3 o5 b5
  go_wp2_with fail
  obtain ⟨w6, hw6⟩ : ∃ w6, w5.alloc (.cells #[.slice (some ⟨gy, 0, none⟩) n n] 35) = w6 := ⟨_, rfl⟩
  have b6 : Below w5.heap.size w5 w6 := by rw [← hw6]; exact (Below.refl _ _).alloc (Nat.le_refl _) _
  have X6 : Blk w6 w5.heap.size 35 #[.slice (some ⟨gy, 0, none⟩) n n] := by rw [← hw6]; exact heap1_0 _ _
  have l4 := X6.lt
  have a6 := a5.below b6 a5.lt
  have bb6 := bb5.trans (b6.mono bb5.size)
  have OX6 := hid ((OwnH.of O5.out).below b6)
  rw [hw6]
  clear hw6 a5 bb5 O5 b6
  refine (HI.out _ _ _ _ OX6.out.own).mono ?_
  rintro e w9 ⟨rfl, b7⟩
  have X9 : Hid (StN w n c A w5.heap.size (.slice (some ⟨gy, 0, none⟩) n n) w3.heap.size w5.heap.size p w9) :=
   hid (⟨bb6, a6, X6, OX6.out.below (Below.refl _ _), by omega⟩ : StN w n c A w5.heap.size (.slice (some ⟨gy, 0, none⟩) n n) w3.heap.size w5.heap.size p w6).next b7
  clear X6 a6 bb6 OX6 b7 l0 l1 l3 l4
  generalize w3.heap.size = Lx, w5.heap.size = Hx at *
  have hX9 := hid (fun (V : World) (b : Below w9.heap.size w9 V) => (show V.cell? ⟨Hx, 0, none⟩ = some (.slice (some ⟨gy, 0, none⟩) n n) ∧ V.cell? ⟨w.heap.size, 0, none⟩ = some (.slice A n c) from ⟨(X9.out.next b).cells.2, (X9.out.next b).cells.1⟩))
  obtain ⟨za, zx⟩ := X9.out.cells
  go_wp2_with fail
  clear za zx
  obtain ⟨x1, x2⟩ := hX9.out w9 (Below.refl _ _)
  have hT9 := hid (fun (W : World) (b : Below w9.heap.size w9 W) => (hT.out W (hR.out.below (X9.out.next b).below) (X9.out.next b).below.size).mono (fun e w' (h : ∃ g, e = Ending.returned (.agg #[.slice (some ⟨g, 0, none⟩) n n]) ∧ OwnP w' W.heap.size (.slice (some ⟨g, 0, none⟩) n n) p ∧ Below W.heap.size W w') =>
   show ∃ g, e = Ending.returned (.agg #[.slice (some ⟨g, 0, none⟩) n n]) ∧ OwnP w' w9.heap.size (.slice (some ⟨g, 0, none⟩) n n) p ∧ Below w9.heap.size w9 w' from
   let ⟨g, he, ho, hb⟩ := h; ⟨g, he, ho.mono b.size, b.trans (hb.mono b.size)⟩))
  have hE9 := hid (fun (W : World) (g : Nat) (o : OwnP W w9.heap.size (.slice (some ⟨g, 0, none⟩) n n) p) (b : Below w9.heap.size w9 W) => (hEp.out W.heap.size (some ⟨gy, 0, none⟩) (some ⟨g, 0, none⟩) n n W (X9.out.next b).ox.own.rd o.rd (Nat.le_refl _)).mono (fun e w' h => show e = Ending.returned (.bool true) ∧ Below w9.heap.size w9 w' from ⟨h.1, b.trans (h.2.mono b.size)⟩))
  have bD : Below w9.heap.size w9 w9.drew := (Below.refl _ _).drew
  go_region_held3 (fun V => V.cell? ⟨Hx, 0, none⟩ = some (.slice (some ⟨gy, 0, none⟩) n n) ∧ V.cell? ⟨w.heap.size, 0, none⟩ = some (.slice A n c))
   (first | exact ⟨x1, x2⟩ | (refine hX9.out _ ?_; assumption))
   (first | (go_at_call 18; refine (hT9.out _ ?_).mono ?_; assumption; rintro e wT ⟨gz, rfl, oT, bT⟩) | (go_at_call 21; refine (hE9.out _ gz oT ?_).mono ?_; assumption; rintro e w10 ⟨rfl, b10⟩))
  have X10 := hid (X9.out.next b10)
  clear b10 oT bT bD x1 x2 hE9 hT9 hX9 X9
  go_wp2_with fail
  go_ret
  exact ⟨rfl, X10.out.below⟩
set_option maxRecDepth 100000 in
theorem lifted (os : Os) (started : os.Started) (H : Type) (enc : TypeId × Value → H) :
  ReturnsInHanded {} Try.checked os 4 .any (Rows.fnExactCodeOfSpec.pre6 enc Try.prog Try.f4 Rows.fnExactCodeOfRow.domain false) (Rows.fnExactCodeOfSpec.post enc Try.prog Try.f4 false true false false) := by
 refine returnsInHanded_of_change (C := Try.checked) own started (by kernel_rfl) Try.func4
  (ChangeSpec.witness6 (enc := enc) (C := Try.checked) false ⟨#[], #[.agg #[.slice none 0 0], .int .i64 0, .int .i64 0, .int .i64 0], []⟩ 8 (by kernel_rfl) (by kernel_rfl) (by kernel_rfl) (by kernel_rfl)) ?_
 intro W base args ds gs before hval0 hW hcnd _
 have hval : ∀ (j : Nat) t v, Try.f4.params[j]? = some t → args[j]? = some v → Value.okWide Try.prog W .any base t v := hval0
 have hW' := hW
 obtain ⟨p, q, hA0, hV, rfl, hfz, hnd⟩ := hW
 have hA : DataW.TrodAll enc Try.prog W 0 (fun _ => true) true Try.f4.params.toList args.toList ds p := hA0
 rw [Try.params4] at hA hval
 obtain ⟨v0, vs0, d0, ds0, p0, q0, hargs, rfl, rfl, h0, rest0⟩ := trodAll_cons hA
 obtain ⟨v1, vs1, d1, ds1, p1, q1, rfl, rfl, rfl, h1, rest1⟩ := trodAll_cons rest0
 obtain ⟨v2, vs2, d2, ds2, p2, q2, rfl, rfl, rfl, h2, rest2⟩ := trodAll_cons rest1
 obtain ⟨v3, vs3, d3, ds3, p3, q3, rfl, rfl, rfl, h3, rest3⟩ := trodAll_cons rest2
 obtain ⟨rfl, rfl, rfl⟩ := trodAll_nil rest3
 obtain rfl : args = #[v0, v1, v2, v3] := by cases args; simp_all
 obtain ⟨rfl, rfl⟩ := trodVars_none hV
 obtain ⟨A0, c0, P0, rfl, n0, r0, f0, s0⟩ := open_prog (hval 0 24 v0 rfl rfl) h0
 obtain ⟨z1, rfl, f1⟩ := open_int_fit (hval 1 3 v1 rfl rfl) h1
 obtain ⟨z2, rfl, f2⟩ := open_int_fit (hval 2 3 v2 rfl rfl) h2
 obtain ⟨z3, rfl, f3⟩ := open_int_fit (hval 3 3 v3 rfl rfl) h3
 have lt0 : ∀ x ∈ p0, x.block < W.heap.size := by obtain ⟨m, hm⟩ := h0; exact DataW.trod_lt m _ _ _ hm
 have lt1 : ∀ x ∈ p1, x.block < W.heap.size := by obtain ⟨m, hm⟩ := h1; exact DataW.trod_lt m _ _ _ hm
 have lt2 : ∀ x ∈ p2, x.block < W.heap.size := by obtain ⟨m, hm⟩ := h2; exact DataW.trod_lt m _ _ _ hm
 have lt3 : ∀ x ∈ p3, x.block < W.heap.size := by obtain ⟨m, hm⟩ := h3; exact DataW.trod_lt m _ _ _ hm
 clear hA0 hval0
 refine (walk A0 c0 P0 z1 z2 z3 n0 s0 W r0).mono fun e W' ⟨he, hg⟩ => ?_
 subst he
 exact ⟨_, rfl, _, _, _, [], _, [], hW', trodAll_mk1 (shut_bool Try.underlying4 _), (trodAll_cons_mk (Below.trod laidOut (by kernel_rfl) (of_decide_eq_true (by kernel_rfl)) h0 hg lt0) (trodAll_cons_mk (Below.trod laidOut (by kernel_rfl) (of_decide_eq_true (by kernel_rfl)) h1 hg lt1) (trodAll_cons_mk (Below.trod laidOut (by kernel_rfl) (of_decide_eq_true (by kernel_rfl)) h2 hg lt2) (trodAll_cons_mk (Below.trod laidOut (by kernel_rfl) (of_decide_eq_true (by kernel_rfl)) h3 hg lt3) trodAll_mk0)))), rfl, hg.frame _, fun h => by cases h⟩
theorem over : Rows.fnExactCodeOfRow.holds Try.pinned (OpenSpec.ofChange Rows.fnExactCodeOfSpec) :=
 OpenClaim.holds_of_wide 4 Try.f4 rfl rfl rfl rfl rfl rfl rfl ⟨rfl, rfl, rfl, rfl, rfl⟩ rfl rfl rfl rfl rfl (by kernel_rfl) Try.func4 (by kernel_rfl)
  (of_decide_eq_true (by kernel_rfl)) (by unfold Func.isWrapper; first | (rw [if_pos (by decide +kernel)]; kernel_rfl) | (rw [if_neg (by decide +kernel)]; exact ⟨rfl, rfl⟩))
  (fun os started H enc _ => lifted os started H enc)
theorem proved : Rows.FnExactCodeOfSaid :=
 over
#print axioms proved
end Go.Proofs.Ythejnpignlhgiaa.fnExactCodeOf
-- squeezed
