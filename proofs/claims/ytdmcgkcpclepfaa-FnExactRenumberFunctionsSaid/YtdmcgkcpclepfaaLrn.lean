import Derived.Test.YtdmcgkcpclepfaaRows
import Derived.Test.YtdmcgkcpclepfaaLawP
import Derived.Test.YtdmcgkcpclepfaaRni
import Derived.Test.YtdmcgkcpclepfaaSqs
import Derived.Test.YtdmcgkcpclepfaaLi
import Derived.Deep.RegionHeld3
set_option linter.all false
namespace Go.Proofs.Ytdmcgkcpclepfaa.fnExactRenumberFunctions
open Lib (hid)
open Go.ChangeShapes Go.WideShapes Go.ChangeAt Go.RowKit
open PL Mem To Sz EqP OpenP MarkP Res DeferP LawP IntsP Nup Rnp Rno Rni Sqs
theorem own : ownKnob Try.prog.godebug = none := by kernel_rfl
theorem ren_fits (p : Pg) (tn : List Int) : Fits (renR p tn).1 := by
 unfold renR
 split
 ·rename_i h
  rw [Bool.and_eq_true] at h
  obtain ⟨h1, h6, h8⟩ := okProg_parts h.1
  refine ⟨by show (numU p tn p.length p.length).length ≤ 6; rw [numU_len]; exact h6, fun xs hx => ?_⟩
  obtain ⟨i, hi⟩ := List.getElem?_of_mem (show xs ∈ numU p tn p.length p.length from hx)
  have hlt := (List.getElem?_eq_some_iff.1 hi).1
  rw [numU_len] at hlt
  obtain ⟨g1, g2, g3⟩ := ordB_iff.1 h.2
  rcases us_num (vals := List.replicate p.length (.slice none 0 0)) (p := p) (tn := tn) (n := p.length) rfl (List.length_replicate ..) g1 (fun i t ht => g3 t (List.mem_of_getElem? ht)) i hlt p.length (Nat.le_refl _) with ⟨j, u, ys, hj, a, b, c, d, e⟩ | ⟨d, e⟩
  ·rw [hi] at e
   obtain rfl := Option.some.inj e
   rw [numB_len]
   have := (h8 j ys c).1
   omega
  ·rw [hi] at e
   obtain rfl := Option.some.inj e
   simp
 ·exact Fits.nil
structure SR (w : World) (n c : Nat) (A : Option Addr) (bw bx bg : Nat) (vw vx vg : Value) (Lw Hw Lx Hx Lg Hg : Nat) (qw px qg : Pg) (gt N : Nat) (tz : List Int) (W : World) : Prop where
 st : St w n c A bw bx bg vw vx vg Lw Hw Lx Hx Lg Hg qw px qg W
 ls : W.ownsRow gt 3 1 (.slice (some ⟨gt, 0, none⟩) N N) N (cellsI tz)
 pl : bx < gt ∧ gt < Lg
section
variable {w : World} {n c : Nat} {A : Option Addr} {bw bx bg : Nat} {vw vx vg : Value} {Lw Hw Lx Hx Lg Hg : Nat} {qw px qg : Pg} {gt N : Nat} {tz : List Int} {W W' : World}
theorem gt_own {x : Nat} (h : (Value.slice (some ⟨gt, 0, none⟩) N N).ownBlock = some x) : gt = x := by simpa [Value.ownBlock] using h
theorem SR.next (h : SR w n c A bw bx bg vw vx vg Lw Hw Lx Hx Lg Hg qw px qg gt N tz W) (b : Below W.heap.size W W') : SR w n c A bw bx bg vw vx vg Lw Hw Lx Hx Lg Hg qw px qg gt N tz W' := ⟨h.st.next b, own_below (B' := W.heap.size) h.ls b (Nat.le_refl _), h.pl⟩
theorem SR.cells (h : SR w n c A bw bx bg vw vx vg Lw Hw Lx Hx Lg Hg qw px qg gt N tz W) : W.cell? ⟨w.heap.size, 0, none⟩ = some (.slice A n c) ∧ W.cell? ⟨bw, 0, none⟩ = some vw ∧ W.cell? ⟨bx, 0, none⟩ = some vx ∧ W.cell? ⟨bg, 0, none⟩ = some vg := h.st.cells
theorem SR.ow (h : SR w n c A bw bx bg vw vx vg Lw Hw Lx Hx Lg Hg qw px qg gt N tz W) : OwnH W Lw Hw vw qw := h.st.ow
theorem SR.ox (h : SR w n c A bw bx bg vw vx vg Lw Hw Lx Hx Lg Hg qw px qg gt N tz W) : OwnH W Lx Hx vx px := h.st.ox
theorem SR.og (h : SR w n c A bw bx bg vw vx vg Lw Hw Lx Hx Lg Hg qw px qg gt N tz W) : OwnH W Lg Hg vg qg := h.st.og
theorem SR.below (h : SR w n c A bw bx bg vw vx vg Lw Hw Lx Hx Lg Hg qw px qg gt N tz W) : Below w.heap.size w W := h.st.below
theorem SR.w0 (h : SR w n c A bw bx bg vw vx vg Lw Hw Lx Hx Lg Hg qw px qg gt N tz W) : Blk W bw 31 #[vw] := h.st.w0
theorem SR.ord (h : SR w n c A bw bx bg vw vx vg Lw Hw Lx Hx Lg Hg qw px qg gt N tz W) : w.heap.size < Lw ∧ Lw ≤ Hw ∧ Hw ≤ bw ∧ bw < Lx ∧ Lx ≤ Hx ∧ Hx ≤ bx ∧ bx < Lg ∧ Lg ≤ Hg ∧ Hg ≤ bg ∧ bg < W.heap.size := h.st.ord
theorem SR.markX {px' : Pg} (h : SR w n c A bw bx bg vw vx vg Lw Hw Lx Hx Lg Hg qw px qg gt N tz W) (b : Chg (fun k => Lx ≤ k ∧ k < Hx) W W') (o' : OwnH W' Lx Hx vx px') : SR w n c A bw bx bg vw vx vg Lw Hw Lx Hx Lg Hg qw px' qg gt N tz W' :=
 ⟨h.st.markX b o', own_chg h.ls b (fun x hx hc => by have := gt_own hx; have := h.pl; have := h.st.ord; omega), h.pl⟩
theorem SR.markG {qg' : Pg} (h : SR w n c A bw bx bg vw vx vg Lw Hw Lx Hx Lg Hg qw px qg gt N tz W) (b : Chg (fun k => Lg ≤ k ∧ k < Hg) W W') (o' : OwnH W' Lg Hg vg qg') : SR w n c A bw bx bg vw vx vg Lw Hw Lx Hx Lg Hg qw px qg' gt N tz W' :=
 ⟨h.st.markG b o', own_chg h.ls b (fun x hx hc => by have := gt_own hx; have := h.pl; omega), h.pl⟩
theorem SR.markT {tz' : List Int} (h : SR w n c A bw bx bg vw vx vg Lw Hw Lx Hx Lg Hg qw px qg gt N tz W) (b : Chg (fun k => (Value.slice (some ⟨gt, 0, none⟩) N N).ownBlock = some k) W W') (o' : W'.ownsRow gt 3 1 (.slice (some ⟨gt, 0, none⟩) N N) N (cellsI tz')) : SR w n c A bw bx bg vw vx vg Lw Hw Lx Hx Lg Hg qw px qg gt N tz' W' := by
 have o := h.st.ord
 have q := h.pl
 have s := b.size
 have s0 := h.st.below.size
 exact ⟨⟨h.st.below.trans (b.below (by omega) (fun x hx hc => by have := gt_own hc; omega)), h.st.a.chg b (fun hc => by have := gt_own hc; omega), h.st.w0.chg b (fun hc => by have := gt_own hc; omega), h.st.x0.chg b (fun hc => by have := gt_own hc; omega), h.st.g0.chg b (fun hc => by have := gt_own hc; omega),
  h.st.ow.chg b (by omega) (fun k h1 h2 hc => by have := gt_own hc; omega), h.st.ox.chg b (by omega) (fun k h1 h2 hc => by have := gt_own hc; omega), h.st.og.chg b (by omega) (fun k h1 h2 hc => by have := gt_own hc; omega), by omega⟩, o', q⟩
end
theorem cnt_small {p : Pg} (h : ¬ szP 1048576 p < 0) : cnt p ≤ 1048576 := by
 have ht : tot p ≤ 1048576 := by
  unfold szP szR at h
  split at h <;> omega
 exact Nat.le_trans (tot_cnt p) ht
set_option maxHeartbeats 4000000 in
set_option maxRecDepth 100000 in
theorem walk (A At : Option Addr) (c ct : Nat) (p : Pg) (tn : List Int) (hnt : tn.length ≤ maxLen) (hn : p.length ≤ maxLen) (hsm : Small p maxLen) (w : World) (hr : RdP w w.heap.size A p) (hrt : RdI w w.heap.size At tn) :
  Calls Try.prog 8 #[.agg #[.slice A p.length c], .slice At tn.length ct] w fun e w' => e = .returned (.bool true) ∧ Below w.heap.size w w' := by
 unfold maxLen at hn hsm hnt
 obtain ⟨N, hto⟩ : ∃ N, tn.length = N := ⟨_, rfl⟩
 rw [hto] at hnt ⊢
 have HRT := hid (fun (V : World) (b : Below w.heap.size w V) => (show RdI V w.heap.size At tn from hrt.below b))
 clear hrt
 by_cases hbig : 1048576 < N
 ·clear hr hto HRT hsm
  go_enter Try.func8, Try.ntmps8
  go_wp2_with fail
  go_ret
  exact ⟨rfl, (Below.refl _ _).alloc (Nat.le_refl _) _⟩
 have hTI := hid (fun W h hB => LiP.toIntS_any w.heap.size At N ct tn (by omega) hto W h hB)
 have hEI := hid (fun B A' A'' c' c'' W h h' hB => eqIntS_same B A' A'' N c' c'' tn (by omega) hto W h h' hB)
 have hR := hid hr
 clear hr
 obtain ⟨n, hL⟩ : ∃ n, p.length = n := ⟨_, rfl⟩
 have hz := hid (fun W h hB => szProgram_any w.heap.size A n c p 1048576 (by omega) (by omega) (by omega) hL hsm W h hB)
 by_cases hneg : szP 1048576 p < 0
 ·have hs := hid (szR_neg _ _ hneg).1
  have hL' := hid hL
  rw [hL]
  clear hL hneg hto hTI hEI HRT
  go_enter Try.func8, Try.ntmps8
  go_wp2_with fail
  refine (hz.out _ (hR.out.below ((Below.refl _ _).alloc (Nat.le_refl _) _)) (by simp)).mono ?_
  rintro e w1 ⟨rfl, b1⟩
  rw [szP, hs.out]
  go_wp2_with fail
  go_ret
  exact ⟨rfl, ((Below.refl _ _).alloc (Nat.le_refl _) _).trans (b1.mono (by simp))⟩
 ·obtain ⟨hs1, hs2⟩ := szP_small hneg
  have hcp := cnt_small hneg
  rw [hL] at hs1 hn
  have hT := hid (fun W h hB => toProgram_any w.heap.size A n c p (by omega) hL (hs2.mono (by omega)) W h hB)
  have hEp := hid (fun B A' A'' c' c'' W h h' hB => eqProgram_same B A' A'' n c' c'' p (by omega) hL (hs2.mono (by omega)) W h h' hB)
  have hMp := hid (fun lo hi c' A' W h h' => markProgram_any lo hi n c' A' p 1 (by omega) hL (hs2.mono (by omega)) (by omega) (by omega) W h h')
  have hMI := hid (fun B c' A' W h => markIntS_any B N c' A' tn (1 + 3 * (cnt p : Int)) (by omega) hto (by omega) (by omega) W h)
  have hS := fun lo c' A' At' W h h' => renS_any lo n c' N N A' At' p tn (by omega) hL (hs2.mono (by omega)) hto (by omega) (Nat.le_refl _) (by omega) W h h'
  have hI := fun lo c' A' At' W h (h' : RdI W W.heap.size At' tn) => renI_any lo n c' N N A' At' p tn (by omega) hL (hs2.mono (by omega)) hto (by omega) W h h' (fun V b h6 => isOrder_any n N N At' tn h6 hto (by omega) V ((h'.below b).more b.size))
  have hft := ren_fits p tn
  generalize renR p tn = r at hS hI hft
  obtain ⟨q, k0⟩ := r
  obtain ⟨hq6, hq9, hq54⟩ := fits_cnt hft
  dsimp only at hq6 hq9 hq54
  obtain ⟨m, hm⟩ : ∃ m, q.length = m := ⟨_, rfl⟩
  have hEq := hid (fun B A' A'' c' c'' W h h' hB => eqProgram_same B A' A'' m c' c'' q (by omega) hm (hq9.mono (by omega)) W h h' hB)
  have hMq := hid (fun lo hi c' A' W h h' => markProgram_any lo hi m c' A' q 1 (by omega) hm (hq9.mono (by omega)) (by omega) (by omega) W h h')
  have hHq := hid (fun c' A' W h => heldProgram_any m c' A' q 1 (by omega) hm (hq9.mono (by omega)) (by omega) (by omega) W h)
  have hS' : ∀ lo c' A' At' W, OwnP W lo (.slice A' n c') p → RdI W W.heap.size At' tn → Calls Try.prog 33 #[.agg #[.slice A' n c'], .slice At' N N] W fun e w' => ∃ Aw cw, e = .returned (.tuple #[.agg #[.slice Aw m cw], .bool k0]) ∧ OwnP w' W.heap.size (.slice Aw m cw) q ∧ Below W.heap.size W w' :=
   fun lo c' A' At' W h h9 => (hS lo c' A' At' W h h9).mono fun e w' h' => by obtain ⟨x, y, h1, h2, h3⟩ := h'; simp only [hm] at h1 h2; exact ⟨x, y, h1, h2, h3⟩
  have hI' : ∀ lo c' A' At' W, OwnP W lo (.slice A' n c') p → RdI W W.heap.size At' tn → Calls Try.prog 35 #[.agg #[.slice A' n c'], .slice At' N N] W fun e w' => ∃ Aw cw, e = .returned (.tuple #[.agg #[.slice Aw m cw], .bool k0]) ∧ OwnP w' W.heap.size (.slice Aw m cw) q ∧ Below W.heap.size W w' :=
   fun lo c' A' At' W h h9 => (hI lo c' A' At' W h h9).mono fun e w' h' => by obtain ⟨x, y, h1, h2, h3⟩ := h'; simp only [hm] at h1 h2; exact ⟨x, y, h1, h2, h3⟩
  have HS := hid hS'
  have HI := hid hI'
  unfold MarkedP at hMp hMq
  have hkp : ¬ (1 + 3 * (cnt p : Int)) < 0 := by omega
  have hkq : ¬ (1 + 3 * (cnt q : Int)) < 0 := by omega
  have hkn : ¬ (1 + 3 * (cnt p : Int) + (N : Int)) < 0 := by omega
  unfold MarkedI at hMI
  generalize 1 + 3 * (cnt p : Int) = kp at *
  generalize 1 + 3 * (cnt q : Int) = kq at *
  have hbb : (k0 != k0) = false := by simp
  have hL' := hid hL
  rw [hL]
  clear hto hL hs2 hsm hS hI hft hq6 hq9 hq54 hm hcp hS' hI' hs1 hn
  go_enter Try.func8, Try.ntmps8
  go_wp2_with fail
  refine (hz.out _ (hR.out.below ((Below.refl _ _).alloc (Nat.le_refl _) _)) (by simp)).mono ?_
  rintro e w1 ⟨rfl, b1⟩
  have a1 : Blk w1 w.heap.size 24 #[.slice A n c] := Blk.below (heap1_0 w _) b1 (by simp)
  have bb1 : Below w.heap.size w w1 := ((Below.refl _ _).alloc (Nat.le_refl _) _).trans (b1.mono (by simp))
  have za1 : w1.cell? ⟨w.heap.size, 0, none⟩ = some (.slice A n c) := a1.cells 0
  generalize szP 1048576 p = z at *
  clear b1
  go_wp2_with fail
  refine (hT.out _ (hR.out.below bb1) bb1.size).mono ?_
  rintro e w2p ⟨gx, rfl, o2p, b2p⟩
  have bb2p := bb1.trans (b2p.mono bb1.size)
  go_wp2_with fail
  refine (hTI.out _ (HRT.out _ bb2p) bb2p.size).mono ?_
  rintro e w2 ⟨rfl, t2, b2t⟩
  have b2 : Below w1.heap.size w1 w2 := b2p.trans (b2t.mono b2p.size)
  have O2 := hid (o2p.below b2t)
  have T2 := hid (rdI_own t2)
  clear o2p t2 b2p b2t bb2p za1
  go_wp2_with fail
  refine (HS.out _ _ _ _ _ O2.out T2.out).mono ?_
  rintro e w3 ⟨Aw, cw, rfl, o3, b3⟩
  have a3 := (a1.below b2 a1.lt).below b3 (a1.below b2 a1.lt).lt
  have bb3 := (bb1.trans (b2.mono bb1.size)).trans (b3.mono (bb1.trans (b2.mono bb1.size)).size)
  have OW := hid (OwnH.of o3)
  have za3 : ∀ o, (w3.alloc o).cell? ⟨w.heap.size, 0, none⟩ = some (.slice A n c) := fun o => (a3.alloc o).cells 0
  have l0 : w.heap.size < w2.heap.size := Nat.lt_of_lt_of_le a1.lt b2.size
  have l1 := b3.size
  clear O2 T2 o3 b2 b3 bb1 a1
  go_wp2_with fail
  obtain ⟨w4, hw4⟩ : ∃ w4, w3.alloc (.cells #[.slice Aw m cw] 31) = w4 := ⟨_, rfl⟩
  have b4 : Below w3.heap.size w3 w4 := by rw [← hw4]; exact (Below.refl _ _).alloc (Nat.le_refl _) _
  have B4 : Blk w4 w3.heap.size 31 #[.slice Aw m cw] := by rw [← hw4]; exact heap1_0 _ _
  have l2 := B4.lt
  have a4 := a3.below b4 a3.lt
  have bb4 := bb3.trans (b4.mono bb3.size)
  have OW4 := hid (OW.out.below b4)
  rw [hw4]
  clear hw4 za3 a3 bb3 b4 OW
  refine (hT.out _ (hR.out.below bb4) bb4.size).mono ?_
  rintro e w5 ⟨gy, rfl, o5, b5⟩
  have B5 := B4.below b5 B4.lt
  have a5 := a4.below b5 a4.lt
  have bb5 := bb4.trans (b5.mono bb4.size)
  have OW5 := hid (OW4.out.below (b5.mono (Nat.le_of_lt l2)))
  have O5 := hid o5
  have l3 := b5.size
  clear B4 a4 bb4 OW4 o5 b5
  go_wp2_with fail
  obtain ⟨w6, hw6⟩ : ∃ w6, w5.alloc (.cells #[.slice (some ⟨gy, 0, none⟩) n n] 31) = w6 := ⟨_, rfl⟩
  have b6 : Below w5.heap.size w5 w6 := by rw [← hw6]; exact (Below.refl _ _).alloc (Nat.le_refl _) _
  have X6 : Blk w6 w5.heap.size 31 #[.slice (some ⟨gy, 0, none⟩) n n] := by rw [← hw6]; exact heap1_0 _ _
  have l4 := X6.lt
  have B6 := B5.below b6 B5.lt
  have a6 := a5.below b6 a5.lt
  have bb6 := bb5.trans (b6.mono bb5.size)
  have OW6 := hid (OW5.out.below (b6.mono (by omega)))
  have OX6 := hid ((OwnH.of O5.out).below b6)
  rw [hw6]
  clear hw6 B5 a5 bb5 OW5 O5 b6
  refine (hTI.out _ (HRT.out _ bb6) bb6.size).mono ?_
  rintro e w6t ⟨rfl, t6, b6t⟩
  have TT := hid t6
  have l4u := (World.ownsRow.lt t6 _ rfl).2
  have l4t := b6t.size
  replace X6 := X6.below b6t X6.lt
  replace B6 := B6.below b6t B6.lt
  replace a6 := a6.below b6t a6.lt
  replace bb6 := bb6.trans (b6t.mono bb6.size)
  replace OW6 := hid (OW6.out.below (b6t.mono (by omega)))
  replace OX6 := hid (OX6.out.below (b6t.mono (by omega)))
  have zx6 : w6t.cell? ⟨w5.heap.size, 0, none⟩ = some (.slice (some ⟨gy, 0, none⟩) n n) := X6.cells 0
  clear t6 b6t
  go_wp2_with fail
  refine (HI.out _ _ _ _ _ OX6.out.own (rdI_own TT.out)).mono ?_
  rintro e w7 ⟨Ag, cg, rfl, o7, b7⟩
  have l5 := b7.size
  have X7 := X6.below b7 X6.lt
  have B7 := B6.below b7 B6.lt
  have a7 := a6.below b7 a6.lt
  have bb7 := bb6.trans (b7.mono bb6.size)
  have OW7 := hid (OW6.out.below (b7.mono (by omega)))
  have OX7 := hid (OX6.out.below (b7.mono (by omega)))
  have OG7 := hid (OwnH.of o7)
  have zw7 : ∀ o, (w7.alloc o).cell? ⟨w3.heap.size, 0, none⟩ = some (.slice Aw m cw) := fun o => (B7.alloc o).cells 0
  have T7 := hid (own_below (B' := w6t.heap.size) TT.out b7 (Nat.le_refl _))
  clear X6 B6 a6 bb6 OW6 OX6 o7 b7 TT zx6
  go_wp2_with fail
  obtain ⟨w8, hw8⟩ : ∃ w8, w7.alloc (.cells #[.slice Ag m cg] 31) = w8 := ⟨_, rfl⟩
  have b8 : Below w7.heap.size w7 w8 := by rw [← hw8]; exact (Below.refl _ _).alloc (Nat.le_refl _) _
  have G8 : Blk w8 w7.heap.size 31 #[.slice Ag m cg] := by rw [← hw8]; exact heap1_0 _ _
  have l6 := G8.lt
  have X8 : Hid (SR w n c A w3.heap.size w5.heap.size w7.heap.size (.slice Aw m cw) (.slice (some ⟨gy, 0, none⟩) n n) (.slice Ag m cg) w2.heap.size w3.heap.size w4.heap.size w5.heap.size w6t.heap.size w7.heap.size q p q w6.heap.size N tn w8) :=
   hid ⟨⟨bb7.trans (b8.mono bb7.size), a7.below b8 a7.lt, B7.below b8 B7.lt, X7.below b8 X7.lt, G8, OW7.out.below (b8.mono (by omega)), OX7.out.below (b8.mono (by omega)), OG7.out.below b8, by omega⟩, own_below (B' := w7.heap.size) T7.out b8 (Nat.le_refl _), by omega⟩
  rw [hw8]
  clear hw8 zw7 X7 B7 a7 bb7 OW7 OX7 OG7 b8 G8 l0 l1 l2 l3 l4 l4t l4u l5 l6 T7
  generalize w2.heap.size = Lw, w3.heap.size = Hw, w4.heap.size = Lx, w5.heap.size = Hx, w6.heap.size = gt, w6t.heap.size = Lg, w7.heap.size = Hg at *
  refine (hEq.out w8.heap.size Ag Aw cg cw w8 X8.out.og.own.rd X8.out.ow.own.rd (Nat.le_refl _)).mono ?_
  rintro e w9 ⟨rfl, b9⟩
  have X9 := hid (X8.out.next b9)
  clear X8 b9
  have hX9 := hid (fun (V : World) (b : Below w9.heap.size w9 V) => (show V.cell? ⟨Hx, 0, none⟩ = some (.slice (some ⟨gy, 0, none⟩) n n) ∧ V.cell? ⟨w.heap.size, 0, none⟩ = some (.slice A n c) from ⟨(X9.out.next b).cells.2.2.1, (X9.out.next b).cells.1⟩))
  obtain ⟨za, zw, zx, zg⟩ := X9.out.cells
  go_wp2_with fail
  clear za zw zx zg
  obtain ⟨x1, x2⟩ := hX9.out w9 (Below.refl _ _)
  have hT9 := hid (fun (W : World) (b : Below w9.heap.size w9 W) => (hT.out W (hR.out.below (X9.out.next b).below) (X9.out.next b).below.size).mono (fun e w' (h : ∃ g, e = Ending.returned (.agg #[.slice (some ⟨g, 0, none⟩) n n]) ∧ OwnP w' W.heap.size (.slice (some ⟨g, 0, none⟩) n n) p ∧ Below W.heap.size W w') =>
   show ∃ g, e = Ending.returned (.agg #[.slice (some ⟨g, 0, none⟩) n n]) ∧ OwnP w' w9.heap.size (.slice (some ⟨g, 0, none⟩) n n) p ∧ Below w9.heap.size w9 w' from
   let ⟨g, he, ho, hb⟩ := h; ⟨g, he, ho.mono b.size, b.trans (hb.mono b.size)⟩))
  have hE9 := hid (fun (W : World) (g : Nat) (o : OwnP W w9.heap.size (.slice (some ⟨g, 0, none⟩) n n) p) (b : Below w9.heap.size w9 W) => (hEp.out W.heap.size (some ⟨gy, 0, none⟩) (some ⟨g, 0, none⟩) n n W (X9.out.next b).ox.own.rd o.rd (Nat.le_refl _)).mono (fun e w' h => show e = Ending.returned (.bool true) ∧ Below w9.heap.size w9 w' from ⟨h.1, b.trans (h.2.mono b.size)⟩))
  have bD : Below w9.heap.size w9 w9.drew := (Below.refl _ _).drew
  go_region_held3 (fun V => V.cell? ⟨Hx, 0, none⟩ = some (.slice (some ⟨gy, 0, none⟩) n n) ∧ V.cell? ⟨w.heap.size, 0, none⟩ = some (.slice A n c))
   (first | exact ⟨x1, x2⟩ | (refine hX9.out _ ?_; assumption))
   (first | (go_at_call 17; refine (hT9.out _ ?_).mono ?_; assumption; rintro e wT ⟨gz, rfl, oT, bT⟩) | (go_at_call 20; refine (hE9.out _ gz oT ?_).mono ?_; assumption; rintro e w10 ⟨rfl, b10⟩))
  have X10 := hid (X9.out.next b10)
  clear b10 oT bT bD x1 x2 hE9 hT9 hX9 X9
  obtain ⟨za, zw, zx, zg⟩ := X10.out.cells
  go_wp2_with fail
  clear za zw zx zg
  refine (hTI.out _ (HRT.out _ X10.out.below) X10.out.below.size).mono ?_
  rintro e w10t ⟨rfl, t10, b10t⟩
  have X10t := hid (X10.out.next b10t)
  have T10 := hid (rdI_own t10)
  clear X10 b10t t10
  go_wp2_with fail
  refine (hEI.out w10t.heap.size (some ⟨gt, 0, none⟩) _ N N w10t (rdI_own X10t.out.ls) T10.out (Nat.le_refl _)).mono ?_
  rintro e w10u ⟨rfl, b10u⟩
  have X10 := hid (X10t.out.next b10u)
  clear X10t b10u T10
  obtain ⟨za, zw, zx, zg⟩ := X10.out.cells
  go_wp2_with fail
  clear za zw zx zg
  refine (hMp.out Lx Hx n (some ⟨gy, 0, none⟩) w10u (by have := X10.out.ord; omega) X10.out.ox).mono ?_
  rintro e w11 ⟨rfl, o11, c11⟩
  have X11p := hid (X10.out.markX c11 o11)
  clear X10 o11 c11
  go_wp2_with fail
  refine (hMI.out gt N (some ⟨gt, 0, none⟩) w11 X11p.out.ls).mono ?_
  rintro e w11t ⟨rfl, o11t, c11t⟩
  have X11 := hid (X11p.out.markT c11t o11t)
  clear X11p o11t c11t
  obtain ⟨za, zw, zx, zg⟩ := X11.out.cells
  go_wp2_with fail
  clear za zw zx zg
  refine (hEq.out w11t.heap.size Ag Aw cg cw w11t X11.out.og.own.rd X11.out.ow.own.rd (Nat.le_refl _)).mono ?_
  rintro e w12 ⟨rfl, b12⟩
  have X12 := hid (X11.out.next b12)
  clear X11 b12
  obtain ⟨za, zw, zx, zg⟩ := X12.out.cells
  go_wp2_with fail
  clear za zw zx zg
  refine (hMq.out Lg Hg cg Ag w12 (by have := X12.out.ord; omega) X12.out.og).mono ?_
  rintro e w13 ⟨rfl, o13, c13⟩
  have X13 := hid (X12.out.markG c13 o13)
  clear X12 o13 c13
  obtain ⟨za, zw, zx, zg⟩ := X13.out.cells
  go_wp2_with fail
  clear za zw zx zg
  refine (hHq.out cg Ag w13 X13.out.og.own.rd).mono ?_
  rintro e w14 ⟨rfl, b14⟩
  have X14 := hid (X13.out.next b14)
  clear X13 b14
  obtain ⟨za, zw, zx, zg⟩ := X14.out.cells
  go_wp2_with fail
  clear za zw zx zg
  refine (hT.out _ (hR.out.below X14.out.below) X14.out.below.size).mono ?_
  rintro e w15 ⟨gh, rfl, o15, b15⟩
  have X15p := hid (X14.out.next b15)
  have O15p := hid o15
  clear X14 b15 o15
  go_wp2_with fail
  refine (hTI.out _ (HRT.out _ X15p.out.below) X15p.out.below.size).mono ?_
  rintro e w15t ⟨rfl, t15, b15t⟩
  have X15 := hid (X15p.out.next b15t)
  have O15 := hid (O15p.out.below b15t)
  have T15 := hid (rdI_own t15)
  clear X15p O15p b15t t15
  obtain ⟨za, zw, zx, zg⟩ := X15.out.cells
  go_wp2_with fail
  clear za zw zx zg
  refine (HI.out _ _ _ _ _ O15.out T15.out).mono ?_
  rintro e w16 ⟨Ah, ch, rfl, o16, b16⟩
  have X16 := hid (X15.out.next b16)
  have O16 := hid o16
  clear X15 b16 o16 O15 T15
  have zwh : ∀ o, (w16.alloc o).cell? ⟨Hw, 0, none⟩ = some (.slice Aw m cw) := fun o => (X16.out.w0.alloc o).cells 0
  go_wp2_with fail
  obtain ⟨w17, hw17⟩ : ∃ w17, w16.alloc (.cells #[.slice Ah m ch] 31) = w17 := ⟨_, rfl⟩
  have b17 : Below w16.heap.size w16 w17 := by rw [← hw17]; exact (Below.refl _ _).alloc (Nat.le_refl _) _
  have X17 := hid (X16.out.next b17)
  have O17 := hid (O16.out.below b17)
  rw [hw17]
  clear hw17 zwh X16 O16 b17
  refine (hEq.out w17.heap.size Ah Aw ch cw w17 O17.out.rd X17.out.ow.own.rd (Nat.le_refl _)).mono ?_
  rintro e w18 ⟨rfl, b18⟩
  have X18 := hid (X17.out.next b18)
  clear X17 b18 O17
  obtain ⟨za, zw, zx, zg⟩ := X18.out.cells
  go_wp2_with fail
  clear za zw zx zg
  refine (hHq.out cg Ag w18 X18.out.og.own.rd).mono ?_
  rintro e w19 ⟨rfl, b19⟩
  have X19 := hid (X18.out.next b19)
  clear X18 b19
  go_wp2_with fail
  go_ret
  exact ⟨rfl, X19.out.below⟩
set_option maxRecDepth 100000 in
theorem lifted (os : Os) (started : os.Started) (H : Type) (enc : TypeId × Value → H) :
  ReturnsInHanded {} Try.checked os 8 .any (Rows.fnExactRenumberFunctionsSpec.pre6 enc Try.prog Try.f8 Rows.fnExactRenumberFunctionsRow.domain false) (Rows.fnExactRenumberFunctionsSpec.post enc Try.prog Try.f8 false true false false) := by
 refine returnsInHanded_of_change (C := Try.checked) own started (by kernel_rfl) Try.func8
  (ChangeSpec.witness6 (enc := enc) (C := Try.checked) false ⟨#[], #[.agg #[.slice none 0 0], .slice none 0 0], []⟩ 8 (by kernel_rfl) (by kernel_rfl) (by kernel_rfl) (by kernel_rfl)) ?_
 intro W base args ds gs before hval0 hW hcnd _
 have hval : ∀ (j : Nat) t v, Try.f8.params[j]? = some t → args[j]? = some v → Value.okWide Try.prog W .any base t v := hval0
 have hW' := hW
 obtain ⟨p, q, hA0, hV, rfl, hfz, hnd⟩ := hW
 have hA : DataW.TrodAll enc Try.prog W 0 (fun _ => true) true Try.f8.params.toList args.toList ds p := hA0
 rw [Try.params8] at hA hval
 obtain ⟨v0, vs0, d0, ds0, p0, q0, hargs, rfl, rfl, h0, rest0⟩ := trodAll_cons hA
 obtain ⟨v1, vs1, d1, ds1, p1, q1, rfl, rfl, rfl, h1, rest1⟩ := trodAll_cons rest0
 obtain ⟨rfl, rfl, rfl⟩ := trodAll_nil rest1
 obtain rfl : args = #[v0, v1] := by cases args; simp_all
 obtain ⟨rfl, rfl⟩ := trodVars_none hV
 obtain ⟨A0, c0, P0, rfl, n0, r0, f0, s0⟩ := open_prog (hval 0 24 v0 rfl rfl) h0
 obtain ⟨A1, c1, P1, rfl, n1, r1, f1⟩ := LiP.open_ints (hval 1 26 v1 rfl rfl) h1
 have lt0 : ∀ x ∈ p0, x.block < W.heap.size := by obtain ⟨m, hm⟩ := h0; exact DataW.trod_lt m _ _ _ hm
 have lt1 : ∀ x ∈ p1, x.block < W.heap.size := by obtain ⟨m, hm⟩ := h1; exact DataW.trod_lt m _ _ _ hm
 clear hA0 hval0
 refine (walk A0 A1 c0 c1 P0 P1 n1 n0 s0 W r0 r1).mono fun e W' ⟨he, hg⟩ => ?_
 subst he
 exact ⟨_, rfl, _, _, _, [], _, [], hW', trodAll_mk1 (shut_bool Try.underlying4 _), (trodAll_cons_mk (Below.trod laidOut (by kernel_rfl) (of_decide_eq_true (by kernel_rfl)) h0 hg lt0) (trodAll_cons_mk (Below.trod laidOut (by kernel_rfl) (of_decide_eq_true (by kernel_rfl)) h1 hg lt1) trodAll_mk0)), rfl, hg.frame _, fun h => by cases h⟩
theorem over : Rows.fnExactRenumberFunctionsRow.holds Try.pinned (OpenSpec.ofChange Rows.fnExactRenumberFunctionsSpec) :=
 OpenClaim.holds_of_wide 8 Try.f8 rfl rfl rfl rfl rfl rfl rfl ⟨rfl, rfl, rfl, rfl, rfl⟩ rfl rfl rfl rfl rfl (by kernel_rfl) Try.func8 (by kernel_rfl)
  (of_decide_eq_true (by kernel_rfl)) (by unfold Func.isWrapper; first | (rw [if_pos (by decide +kernel)]; kernel_rfl) | (rw [if_neg (by decide +kernel)]; exact ⟨rfl, rfl⟩))
  (fun os started H enc _ => lifted os started H enc)
theorem proved : Rows.FnExactRenumberFunctionsSaid :=
 over
#print axioms proved
end Go.Proofs.Ytdmcgkcpclepfaa.fnExactRenumberFunctions
-- squeezed
