import Derived.Test.YtdmcgkcpclepfaaAsk
import Derived.Test.YtdmcgkcpclepfaaSst
import Derived.Test.YtdmcgkcpclepfaaLawI
import Derived.Test.YtdmcgkcpclepfaaSetM
set_option linter.all false
namespace Go.Proofs.Ytdmcgkcpclepfaa.Cxg
open Lib (hid)
open Go.ChangeShapes Go.WideShapes Go.ChangeAt Go.RowKit
open PL Mem Sst To AskP StpS Res PrgS IntsP LawI
def isJ (g : Int) (s : Tr) : Bool := s.1 == 11 && s.2.1 == g
def findJ (xs : List Tr) (g : Int) : Int := match xs.findIdx? (isJ g) with
 | some k => k
 | none => -1
theorem findJ_yes {xs : List Tr} {g : Int} {j : Nat} {y : Tr} (hy : xs[j]? = some y) (h3 : isJ g y = true) (hno : ∀ (q : Nat) (z : Tr), q < j → xs[q]? = some z → isJ g z = false) : findJ xs g = j := by
 have hj : j < xs.length := (List.getElem?_eq_some_iff.1 hy).1
 have h1 : xs.findIdx? (isJ g) = some j := by
  rw [List.findIdx?_eq_some_iff_getElem]
  refine ⟨hj, ?_, fun q hq => ?_⟩
  ·have := (List.getElem?_eq_some_iff.1 hy).2
   rw [this]
   exact h3
  ·have := hno q _ hq (List.getElem?_eq_getElem (by omega))
   simpa using this
 unfold findJ
 rw [h1]
theorem findJ_no {xs : List Tr} {g : Int} (hno : ∀ (q : Nat) (z : Tr), q < xs.length → xs[q]? = some z → isJ g z = false) : findJ xs g = -1 := by
 have h1 : xs.findIdx? (isJ g) = none := by
  rw [List.findIdx?_eq_none_iff]
  intro z hz
  obtain ⟨q, hq, rfl⟩ := List.getElem_of_mem hz
  exact hno q _ hq (List.getElem?_eq_getElem hq)
 unfold findJ
 rw [h1]
theorem findJ_any (xs : List Tr) (g : Int) : decide (0 ≤ findJ xs g) = xs.any (isJ g) := by
 cases h : xs.findIdx? (isJ g) with
 | none =>
  have : findJ xs g = -1 := by unfold findJ; rw [h]
  rw [this]
  rw [List.findIdx?_eq_none_iff] at h
  symm
  show xs.any (isJ g) = false
  rw [List.any_eq_false]
  intro x hx
  simpa using h x hx
 | some k =>
  have : findJ xs g = k := by unfold findJ; rw [h]
  rw [this]
  rw [List.findIdx?_eq_some_iff_getElem] at h
  obtain ⟨hk, h1, -⟩ := h
  symm
  show xs.any (isJ g) = decide (0 ≤ (k : Int))
  rw [show decide (0 ≤ (k : Int)) = true by simp, List.any_eq_true]
  exact ⟨_, List.getElem_mem hk, h1⟩
theorem clo_any (a b c g : Int) (bx : Nat) (W : World) (h : W.cell? ⟨bx, 0, none⟩ = some (.int .i64 g)) (hbx : bx < W.heap.size) : Calls Try.prog 112 #[.agg #[.int .i64 a, .int .i64 b, .int .i64 c], .pointer (some ⟨bx, 0, none⟩)] W fun e W' => e = .returned (.bool (isJ g (a, b, c))) ∧ Below W.heap.size W W' := by
 have h1 := hid (show (W.alloc (.cells #[.int .i64 a, .int .i64 b, .int .i64 c] 58)).cell? ⟨bx, 0, none⟩ = some (.int .i64 g) from (((Below.refl W.heap.size W).alloc (Nat.le_refl _) _).cell (p := ⟨bx, 0, none⟩) hbx).trans h)
 clear h
 go_enter Try.func112, Try.ntmps112
 go_upto_region 1 with fail
 change (fun V => Code.wp _ _ _ _ V) _
 refine gen_world (X := fun V => Blk V W.heap.size 58 #[.int .i64 a, .int .i64 b, .int .i64 c] ∧ V.cell? ⟨bx, 0, none⟩ = some (.int .i64 g) ∧ Below W.heap.size W V) ⟨heap1_0 W _, h1.out, (Below.refl _ _).alloc (Nat.le_refl _) _⟩ ?_
 rintro V ⟨hx, hg, hb⟩
 have y0 := hx.cells 0
 have y1 := hx.cells 1
 have y2 := hx.cells 2
 have HB := hid hb
 clear hx hb h1
 by_cases ha : a = 11
 ·by_cases hb' : b = g
  ·subst ha
   subst hb'
   have HI := hid (show isJ b (11, b, c) = true by unfold isJ; simp)
   go_wp2_with fail
   go_ret
   exact ⟨by rw [HI.out] <;> rfl, HB.out⟩
  ·subst ha
   have kb : (b == g) = false := by simpa using hb'
   have HI := hid (show isJ g (11, b, c) = false by unfold isJ; simp [hb'])
   clear hb'
   go_wp2_with fail
   go_ret
   exact ⟨by rw [HI.out] <;> rfl, HB.out⟩
 ·have ka : (a == 11) = false := by simpa using ha
  have HI := hid (show isJ g (a, b, c) = false by unfold isJ; rw [ka]; rfl)
  clear ha
  go_wp2_with fail
  go_ret
  exact ⟨by rw [HI.out] <;> rfl, HB.out⟩
set_option maxRecDepth 100000 in
set_option maxHeartbeats 4000000 in
theorem index_any (g : Int) (bx N c : Nat) (A : Option Addr) (xs : List Tr) (hN : xs.length = N) (hl : N ≤ 100000) (B0 : Nat) (w : World) (hB : B0 ≤ w.heap.size) (hr : Rd3 w B0 A xs) (hg : w.cell? ⟨bx, 0, none⟩ = some (.int .i64 g)) (hbx : bx < w.heap.size) :
  Calls Try.prog 136 #[.slice A N c, .func (.func 112) #[] #[.pointer (some ⟨bx, 0, none⟩)]] w fun e w' => e = .returned (.int .i64 (findJ xs g)) ∧ Below w.heap.size w w' := by
 have HW := hid (fun V (b : Below w.heap.size w V) => (show Rd3 V B0 A xs from hr.below (b.mono hB)))
 have HG := hid (fun V (b : Below w.heap.size w V) => (show V.cell? ⟨bx, 0, none⟩ = some (.int .i64 g) from (b.cell (p := ⟨bx, 0, none⟩) hbx).trans hg))
 have HN := hid hN
 clear hr hN hg
 go_enter Try.func136, Try.ntmps136
 go_wp2_with fail
 go_loopw [8] (fun v wr => ∃ j : Nat, j ≤ N ∧ v = .int .i64 j ∧ Below w.heap.size w wr ∧ ∀ (q : Nat) (z : Tr), q < j → xs[q]? = some z → isJ g z = false) (fun v _ => N - (intOf v).toNat)
 case atStart => exact ⟨0, Nat.zero_le _, rfl, Below.refl _ _, fun q z hq => absurd hq (Nat.not_lt_zero _)⟩
 case round =>
  obtain ⟨j, hj, rfl, hb, hno⟩ := hrel
  have hsz := hb.size
  by_cases hlt : j < N
  ·obtain ⟨⟨s0, s1, s2⟩, hy⟩ : ∃ y, xs[j]? = some y := ⟨_, List.getElem?_eq_getElem (by rw [HN.out]; exact hlt)⟩
   obtain ⟨sd, rfl, has, q0, q1, q2⟩ := (HW.out wr hb) j _ hy
   have HC := hid (clo_any s0 s1 s2 g bx wr (HG.out wr hb) (by omega))
   have HB := hid hb
   have HY := hid hy
   have HNO := hid hno
   dsimp only at q0 q1 q2
   clear hb hy hno
   go_wp2_with fail
   refine HC.out.mono ?_
   rintro e U ⟨rfl, bU⟩
   have BU := hid (HB.out.trans (bU.mono hsz))
   clear bU HC HB q0 q1 q2
   cases h3 : isJ g (s0, s1, s2) with
   | true =>
    have HF := hid (findJ_yes HY.out h3 HNO.out)
    clear h3
    go_wp2_with fail
    go_ret
    exact ⟨by rw [HF.out] <;> rfl, BU.out⟩
   | false =>
    have H3 := hid h3
    clear h3
    go_wp2_with fail
    go_roundw
    case rel =>
     refine ⟨j + 1, by omega, by go_num, BU.out, fun q z hq hz => ?_⟩
     by_cases hqj : q = j
     ·subst hqj
      rw [HY.out] at hz
      obtain rfl := Option.some.inj hz
      exact H3.out
     ·exact HNO.out q z (by omega) hz
    case measure => simp [intOf]; omega
  ·obtain rfl : j = N := by omega
   have HB := hid hb
   have HF := hid (findJ_no (fun q z hq => hno q z (by rw [← HN.out]; exact hq)))
   clear hb hno
   go_wp2_with fail
   go_ret
   exact ⟨by rw [HF.out] <;> rfl, HB.out⟩
theorem contains_any (g : Int) (bx N c : Nat) (A : Option Addr) (xs : List Tr) (hN : xs.length = N) (hl : N ≤ 100000) (B0 : Nat) (w : World) (hB : B0 ≤ w.heap.size) (hr : Rd3 w B0 A xs) (hg : w.cell? ⟨bx, 0, none⟩ = some (.int .i64 g)) (hbx : bx < w.heap.size) :
  Calls Try.prog 111 #[.slice A N c, .func (.func 112) #[] #[.pointer (some ⟨bx, 0, none⟩)]] w fun e w' => e = .returned (.bool (xs.any (isJ g))) ∧ Below w.heap.size w w' := by
 have HC := hid (index_any g bx N c A xs hN hl B0 w hB hr hg hbx)
 have HF := hid (findJ_any xs g)
 clear hN hl hr
 generalize findJ xs g = fd at *
 generalize xs.any (isJ g) = an at *
 go_enter Try.func111, Try.ntmps111
 go_wp2_with fail
 refine HC.out.mono ?_
 rintro e w2 ⟨rfl, b2⟩
 have B2 := hid b2
 clear b2 HC
 go_wp2_with fail
 go_ret
 exact ⟨by rw [← HF.out] <;> rfl, B2.out⟩
theorem goesTo_any (g : Int) (N c : Nat) (A : Option Addr) (xs : List Tr) (hN : xs.length = N) (hl : N ≤ 100000) (B0 : Nat) (w : World) (hB : B0 ≤ w.heap.size) (hr : Rd3 w B0 A xs) :
  Calls Try.prog 69 #[.slice A N c, .int .i64 g] w fun e w' => e = .returned (.bool (xs.any (isJ g))) ∧ Below w.heap.size w w' := by
 have HI := hid (fun (V : World) (b : Below w.heap.size w V) (hx : Blk V w.heap.size 3 #[.int .i64 g]) => contains_any g w.heap.size N c A xs hN hl B0 V (Nat.le_trans hB b.size) (hr.below (b.mono hB)) (hx.cells 0) hx.lt)
 clear hN hl hr
 generalize xs.any (isJ g) = an at *
 go_enter Try.func69, Try.ntmps69
 go_upto_region 1 with fail
 change (fun V => Code.wp _ _ _ _ V) _
 refine gen_world (X := fun V => Blk V w.heap.size 3 #[.int .i64 g] ∧ Below w.heap.size w V) ⟨heap1_0 w _, (Below.refl _ _).alloc (Nat.le_refl _) _⟩ ?_
 rintro w1 ⟨x1, b1⟩
 have HC := hid (HI.out w1 b1 x1)
 have B1 := hid b1
 clear HI x1 b1
 go_wp2_with fail
 refine HC.out.mono ?_
 rintro e w2 ⟨rfl, b2⟩
 have B2 := hid (B1.out.trans (b2.mono B1.out.size))
 clear b2 B1 HC
 go_wp2_with fail
 go_ret
 exact ⟨rfl, B2.out⟩
end Go.Proofs.Ytdmcgkcpclepfaa.Cxg
-- squeezed
