import Derived.Test.YtikdcnlbjpabjabRows
import Derived.Test.YtikdcnlbjpabjabCpl
import Derived.Test.YtikdcnlbjpabjabM1
import Derived.Test.YtikdcnlbjpabjabHeld
import Derived.Test.YtikdcnlbjpabjabM2
set_option linter.all false
namespace Go.Proofs.Ytikdcnlbjpabjab.fnExactCleanupProgram
open Lib (hid)
open Go.ChangeShapes Go.WideShapes Go.ChangeAt Go.RowKit
open PL Mem To EqP OpenP MarkP CplP
theorem own : ownKnob Try.prog.godebug = none := by kernel_rfl
structure St2 (w : World) (bw bg : Nat) (vw vg : Value) (Lw Hw Lg Hg : Nat) (qw qg : Pg) (W : World) : Prop where
 below : Below w.heap.size w W
 w0 : Blk W bw 31 #[vw]
 g0 : Blk W bg 31 #[vg]
 ow : OwnH W Lw Hw vw qw
 og : OwnH W Lg Hg vg qg
 ord : w.heap.size ≤ Lw ∧ Lw ≤ Hw ∧ Hw ≤ bw ∧ bw < Lg ∧ Lg ≤ Hg ∧ Hg ≤ bg ∧ bg < W.heap.size
section
variable {w : World} {bw bg : Nat} {vw vg : Value} {Lw Hw Lg Hg : Nat} {qw qg : Pg} {W W' : World}
theorem St2.next (h : St2 w bw bg vw vg Lw Hw Lg Hg qw qg W) (b : Below W.heap.size W W') : St2 w bw bg vw vg Lw Hw Lg Hg qw qg W' := by
 have o := h.ord
 have s := b.size
 exact ⟨h.below.trans (b.mono h.below.size), h.w0.below b h.w0.lt, h.g0.below b h.g0.lt, h.ow.below (b.mono (by omega)), h.og.below (b.mono (by omega)), by omega⟩
theorem St2.cells (h : St2 w bw bg vw vg Lw Hw Lg Hg qw qg W) : W.cell? ⟨bw, 0, none⟩ = some vw ∧ W.cell? ⟨bg, 0, none⟩ = some vg := ⟨h.w0.cells 0, h.g0.cells 0⟩
theorem St2.markG {qg' : Pg} (h : St2 w bw bg vw vg Lw Hw Lg Hg qw qg W) (b : Chg (fun k => Lg ≤ k ∧ k < Hg) W W') (o' : OwnH W' Lg Hg vg qg') : St2 w bw bg vw vg Lw Hw Lg Hg qw qg' W' := by
 have o := h.ord
 have s := b.size
 have s0 := h.below.size
 exact ⟨h.below.trans (b.below (by omega) (fun x hx hc => by omega)), h.w0.chg b (fun hc => by omega), h.g0.chg b (fun hc => by omega), h.ow.chg b (by omega) (fun k h1 h2 hc => by omega), o', by omega⟩
end
theorem clean_small (a b : Int) : Small (cleanR a b).1 9 ∧ (cleanR a b).1.length ≤ 2 ∧ cnt (cleanR a b).1 ≤ 100 := by
 unfold cleanR
 split
 ·refine ⟨fun i xs hx => ?_, by simp [cleanP], by simp [cleanP, halfP, cnt]⟩
  match i, hx with
  | 0, hx =>
   obtain rfl : halfP a ++ halfP b = xs := by simpa [cleanP] using hx
   simp [halfP]
  | 1, hx =>
   obtain rfl : [(3, 0, 0)] = xs := by simpa [cleanP] using hx
   simp
  | i + 2, hx => simp [cleanP] at hx
 ·exact ⟨fun i xs hx => by simp at hx, by simp, by simp [cnt]⟩
set_option maxRecDepth 100000 in
set_option maxHeartbeats 4000000 in
theorem walk (a b : Int) (w : World) : Calls Try.prog 4 #[.int .i64 a, .int .i64 b] w fun e w' => e = .returned (.bool true) ∧ Below w.heap.size w w' := by
 obtain ⟨hq9, hlen, hcnt⟩ := clean_small a b
 have hS := hid (fun W => by have := cplS_any a b W; unfold ProgR at this; exact this)
 have hI := hid (fun W => by have := cplI_any a b W; unfold ProgR at this; exact this)
 generalize cleanR a b = r at *
 obtain ⟨q, k0⟩ := r
 dsimp only at hq9 hlen hcnt hS hI
 obtain ⟨m, hm⟩ : ∃ m, q.length = m := ⟨_, rfl⟩
 rw [hm] at hlen hS hI
 have hEq := hid (fun B A' A'' c' c'' W h h' hB => eqProgram_same B A' A'' m c' c'' q (by omega) hm (hq9.mono (by omega)) W h h' hB)
 have hMq := hid (fun lo hi c' A' W h h' => markProgram_any lo hi m c' A' q 1 (by omega) hm (hq9.mono (by omega)) (by omega) (by omega) W h h')
 have hHq := hid (fun c' A' W h => heldProgram_any m c' A' q 1 (by omega) hm (hq9.mono (by omega)) (by omega) (by omega) W h)
 unfold MarkedP at hMq
 have hkq : ¬ (1 + 3 * (cnt q : Int)) < 0 := by omega
 generalize 1 + 3 * (cnt q : Int) = kq at *
 have hbb : (k0 != k0) = false := by simp
 clear hq9 hcnt hm
 go_enter Try.func4, Try.ntmps4
 go_wp2_with fail
 refine (hS.out w).mono ?_
 rintro e w1 ⟨Aw, cw, rfl, o1, b1⟩
 go_wp2_with fail
 obtain ⟨w2, hw2⟩ : ∃ w2, w1.alloc (.cells #[.slice Aw m cw] 31) = w2 := ⟨_, rfl⟩
 have b2 : Below w1.heap.size w1 w2 := by rw [← hw2]; exact (Below.refl _ _).alloc (Nat.le_refl _) _
 have B2 : Blk w2 w1.heap.size 31 #[.slice Aw m cw] := by rw [← hw2]; exact heap1_0 _ _
 have l0 := b1.size
 have l1 := B2.lt
 have bb2 := b1.trans (b2.mono b1.size)
 have OW2 := hid ((OwnH.of o1).below b2)
 rw [hw2]
 clear hw2 o1 b1 b2
 refine (hI.out w2).mono ?_
 rintro e w3 ⟨Ag, cg, rfl, o3, b3⟩
 have B3 := B2.below b3 B2.lt
 have zw3 : ∀ o, (w3.alloc o).cell? ⟨w1.heap.size, 0, none⟩ = some (.slice Aw m cw) := fun o => (B3.alloc o).cells 0
 go_wp2_with fail
 obtain ⟨w4, hw4⟩ : ∃ w4, w3.alloc (.cells #[.slice Ag m cg] 31) = w4 := ⟨_, rfl⟩
 have b4 : Below w3.heap.size w3 w4 := by rw [← hw4]; exact (Below.refl _ _).alloc (Nat.le_refl _) _
 have G4 : Blk w4 w3.heap.size 31 #[.slice Ag m cg] := by rw [← hw4]; exact heap1_0 _ _
 have l2 := b3.size
 have l3 := G4.lt
 have X4 : Hid (St2 w w1.heap.size w3.heap.size (.slice Aw m cw) (.slice Ag m cg) w.heap.size w1.heap.size w2.heap.size w3.heap.size q q w4) :=
  hid ⟨(bb2.trans (b3.mono bb2.size)).trans (b4.mono (Nat.le_trans bb2.size b3.size)), B3.below b4 B3.lt, G4, (OW2.out.below (b3.mono (by omega))).below (b4.mono (by omega)), (OwnH.of o3).below b4, by omega⟩
 rw [hw4]
 clear hw4 zw3 B3 B2 bb2 OW2 o3 b3 b4 G4 l0 l1 l2 l3
 generalize w2.heap.size = Lg, w1.heap.size = Hw, w3.heap.size = Hg at *
 refine (hEq.out w4.heap.size Ag Aw cg cw w4 X4.out.og.own.rd X4.out.ow.own.rd (Nat.le_refl _)).mono ?_
 rintro e w5 ⟨rfl, b5⟩
 have X5 := hid (X4.out.next b5)
 clear X4 b5
 obtain ⟨zw, zg⟩ := X5.out.cells
 go_wp2_with fail
 clear zw zg
 refine (hMq.out Lg Hg cg Ag w5 (by have := X5.out.ord; omega) X5.out.og).mono ?_
 rintro e w6 ⟨rfl, o6, c6⟩
 have X6 := hid (X5.out.markG c6 o6)
 clear X5 o6 c6
 obtain ⟨zw, zg⟩ := X6.out.cells
 go_wp2_with fail
 clear zw zg
 refine (hHq.out cg Ag w6 X6.out.og.own.rd).mono ?_
 rintro e w7 ⟨rfl, b7⟩
 have X7 := hid (X6.out.next b7)
 clear X6 b7
 go_wp2_with fail
 refine (hI.out w7).mono ?_
 rintro e w8 ⟨Ah, ch, rfl, o8, b8⟩
 have X8 := hid (X7.out.next b8)
 have O8 := hid o8
 clear X7 b8 o8
 have zwh : ∀ o, (w8.alloc o).cell? ⟨Hw, 0, none⟩ = some (.slice Aw m cw) := fun o => (X8.out.w0.alloc o).cells 0
 go_wp2_with fail
 obtain ⟨w9, hw9⟩ : ∃ w9, w8.alloc (.cells #[.slice Ah m ch] 31) = w9 := ⟨_, rfl⟩
 have b9 : Below w8.heap.size w8 w9 := by rw [← hw9]; exact (Below.refl _ _).alloc (Nat.le_refl _) _
 have X9 := hid (X8.out.next b9)
 have O9 := hid (O8.out.below b9)
 rw [hw9]
 clear hw9 zwh X8 O8 b9
 refine (hEq.out w9.heap.size Ah Aw ch cw w9 O9.out.rd X9.out.ow.own.rd (Nat.le_refl _)).mono ?_
 rintro e w10 ⟨rfl, b10⟩
 have X10 := hid (X9.out.next b10)
 clear X9 b10 O9
 obtain ⟨zw, zg⟩ := X10.out.cells
 go_wp2_with fail
 clear zw zg
 refine (hHq.out cg Ag w10 X10.out.og.own.rd).mono ?_
 rintro e w11 ⟨rfl, b11⟩
 have X11 := hid (X10.out.next b11)
 clear X10 b11
 go_wp2_with fail
 go_ret
 exact ⟨rfl, X11.out.below⟩
set_option maxRecDepth 100000 in
theorem lifted (os : Os) (started : os.Started) (H : Type) (enc : TypeId × Value → H) :
  ReturnsInHanded {} Try.checked os 4 .any (Rows.fnExactCleanupProgramSpec.pre6 enc Try.prog Try.f4 Rows.fnExactCleanupProgramRow.domain false) (Rows.fnExactCleanupProgramSpec.post enc Try.prog Try.f4 false true false false) := by
 refine returnsInHanded_of_change (C := Try.checked) own started (by kernel_rfl) Try.func4
  (ChangeSpec.witness6 (enc := enc) (C := Try.checked) false ⟨#[], #[.int .i64 0, .int .i64 0], []⟩ 8 (by kernel_rfl) (by kernel_rfl) (by kernel_rfl) (by kernel_rfl)) ?_
 intro W base args ds gs before hval0 hW hcnd _
 have hval : ∀ (j : Nat) t v, Try.f4.params[j]? = some t → args[j]? = some v → Value.okWide Try.prog W .any base t v := hval0
 have hW' := hW
 obtain ⟨p, q, hA0, hV, rfl, hfz, hnd⟩ := hW
 have hA : DataW.TrodAll enc Try.prog W 0 (fun _ => true) true Try.f4.params.toList args.toList ds p := hA0
 rw [Try.params4] at hA hval
 obtain ⟨v0, vs0, d0, ds0, p0, q0, hargs, rfl, rfl, h0, rest0⟩ := trodAll_cons hA
 obtain ⟨v1, vs1, d1, ds1, p1, q1, rfl, rfl, rfl, h1, rest1⟩ := trodAll_cons rest0
 obtain ⟨rfl, rfl, rfl⟩ := trodAll_nil rest1
 obtain rfl : args = #[v0, v1] := by cases args; simp_all
 obtain ⟨rfl, rfl⟩ := trodVars_none hV
 obtain ⟨z0, rfl, f0⟩ := open_int_fit (hval 0 3 v0 rfl rfl) h0
 obtain ⟨z1, rfl, f1⟩ := open_int_fit (hval 1 3 v1 rfl rfl) h1
 have lt0 : ∀ x ∈ p0, x.block < W.heap.size := by obtain ⟨m, hm⟩ := h0; exact DataW.trod_lt m _ _ _ hm
 have lt1 : ∀ x ∈ p1, x.block < W.heap.size := by obtain ⟨m, hm⟩ := h1; exact DataW.trod_lt m _ _ _ hm
 clear hA0 hval0
 refine (walk z0 z1 W).mono fun e W' ⟨he, hg⟩ => ?_
 subst he
 exact ⟨_, rfl, _, _, _, [], _, [], hW', trodAll_mk1 (shut_bool Try.underlying4 _), (trodAll_cons_mk (Below.trod laidOut (by kernel_rfl) (of_decide_eq_true (by kernel_rfl)) h0 hg lt0) (trodAll_cons_mk (Below.trod laidOut (by kernel_rfl) (of_decide_eq_true (by kernel_rfl)) h1 hg lt1) trodAll_mk0)), rfl, hg.frame _, fun h => by cases h⟩
theorem over : Rows.fnExactCleanupProgramRow.holds Try.pinned (OpenSpec.ofChange Rows.fnExactCleanupProgramSpec) :=
 OpenClaim.holds_of_wide 4 Try.f4 rfl rfl rfl rfl rfl rfl rfl ⟨rfl, rfl, rfl, rfl, rfl⟩ rfl rfl rfl rfl rfl (by kernel_rfl) Try.func4 (by kernel_rfl)
  (of_decide_eq_true (by kernel_rfl)) (by unfold Func.isWrapper; first | (rw [if_pos (by decide +kernel)]; kernel_rfl) | (rw [if_neg (by decide +kernel)]; exact ⟨rfl, rfl⟩))
  (fun os started H enc _ => lifted os started H enc)
theorem proved : Rows.FnExactCleanupProgramSaid :=
 over
#print axioms proved
end Go.Proofs.Ytikdcnlbjpabjab.fnExactCleanupProgram
-- squeezed
