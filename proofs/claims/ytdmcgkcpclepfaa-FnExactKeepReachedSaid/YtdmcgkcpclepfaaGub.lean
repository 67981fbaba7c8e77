import Derived.Test.YtdmcgkcpclepfaaGua
import Derived.Test.YtdmcgkcpclepfaaAsk
import Derived.Test.YtdmcgkcpclepfaaSst
import Derived.Test.YtdmcgkcpclepfaaLawI
import Derived.Deep.AppendLies
set_option linter.all false
namespace Go.Proofs.Ytdmcgkcpclepfaa.Gub
open Lib (hid)
open Go.ChangeShapes Go.WideShapes Go.ChangeAt Go.RowKit
open PL Mem Sst To AskP StpS Res PrgS IntsP LawI SetM Gua
def isD (g : Int) (s : Tr) : Bool := s.1 == 5 && s.2.1 == g
def findD (xs : List Tr) (g : Int) : Int := match xs.findIdx? (isD g) with
 | some k => k
 | none => -1
theorem findD_yes {xs : List Tr} {g : Int} {j : Nat} {y : Tr} (hy : xs[j]? = some y) (h3 : isD g y = true) (hno : ∀ (q : Nat) (z : Tr), q < j → xs[q]? = some z → isD g z = false) : findD xs g = j := by
 have hj : j < xs.length := (List.getElem?_eq_some_iff.1 hy).1
 have h1 : xs.findIdx? (isD g) = some j := by
  rw [List.findIdx?_eq_some_iff_getElem]
  refine ⟨hj, ?_, fun q hq => ?_⟩
  ·have := (List.getElem?_eq_some_iff.1 hy).2
   rw [this]
   exact h3
  ·have := hno q _ hq (List.getElem?_eq_getElem (by omega))
   simpa using this
 unfold findD
 rw [h1]
theorem findD_no {xs : List Tr} {g : Int} (hno : ∀ (q : Nat) (z : Tr), q < xs.length → xs[q]? = some z → isD g z = false) : findD xs g = -1 := by
 have h1 : xs.findIdx? (isD g) = none := by
  rw [List.findIdx?_eq_none_iff]
  intro z hz
  obtain ⟨q, hq, rfl⟩ := List.getElem_of_mem hz
  exact hno q _ hq (List.getElem?_eq_getElem hq)
 unfold findD
 rw [h1]
theorem findD_any (xs : List Tr) (g : Int) : decide (0 ≤ findD xs g) = xs.any (isD g) := by
 cases h : xs.findIdx? (isD g) with
 | none =>
  have : findD xs g = -1 := by unfold findD; rw [h]
  rw [this]
  rw [List.findIdx?_eq_none_iff] at h
  symm
  show xs.any (isD g) = false
  rw [List.any_eq_false]
  intro x hx
  simpa using h x hx
 | some k =>
  have : findD xs g = k := by unfold findD; rw [h]
  rw [this]
  rw [List.findIdx?_eq_some_iff_getElem] at h
  obtain ⟨hk, h1, -⟩ := h
  symm
  show xs.any (isD g) = decide (0 ≤ (k : Int))
  rw [show decide (0 ≤ (k : Int)) = true by simp, List.any_eq_true]
  exact ⟨_, List.getElem_mem hk, h1⟩
theorem clo_any (a b c g : Int) (bx : Nat) (W : World) (h : W.cell? ⟨bx, 0, none⟩ = some (.int .i64 g)) (hbx : bx < W.heap.size) : Calls Try.prog 129 #[.agg #[.int .i64 a, .int .i64 b, .int .i64 c], .pointer (some ⟨bx, 0, none⟩)] W fun e W' => e = .returned (.bool (isD g (a, b, c))) ∧ Below W.heap.size W W' := by
 have h1 := hid (show (W.alloc (.cells #[.int .i64 a, .int .i64 b, .int .i64 c] 58)).cell? ⟨bx, 0, none⟩ = some (.int .i64 g) from (((Below.refl W.heap.size W).alloc (Nat.le_refl _) _).cell (p := ⟨bx, 0, none⟩) hbx).trans h)
 clear h
 go_enter Try.func129, Try.ntmps129
 go_upto_region 1 with fail
 change (fun V => Code.wp _ _ _ _ V) _
 refine gen_world (X := fun V => Blk V W.heap.size 58 #[.int .i64 a, .int .i64 b, .int .i64 c] ∧ V.cell? ⟨bx, 0, none⟩ = some (.int .i64 g) ∧ Below W.heap.size W V) ⟨heap1_0 W _, h1.out, (Below.refl _ _).alloc (Nat.le_refl _) _⟩ ?_
 rintro V ⟨hx, hg, hb⟩
 have y0 := hx.cells 0
 have y1 := hx.cells 1
 have HB := hid hb
 clear hx hb h1
 by_cases ha : a = 5
 ·subst ha
  have HI := hid (show isD g (5, b, c) = (b == g) by unfold isD; simp)
  go_wp2_with fail
  go_ret
  exact ⟨by rw [HI.out] <;> rfl, HB.out⟩
 ·have ka : (a == 5) = false := by simpa using ha
  have HI := hid (show isD g (a, b, c) = false by unfold isD; rw [ka]; rfl)
  clear ha
  go_wp2_with fail
  go_ret
  exact ⟨by rw [HI.out] <;> rfl, HB.out⟩
set_option maxRecDepth 100000 in
set_option maxHeartbeats 4000000 in
theorem index_any (g : Int) (bx N c : Nat) (A : Option Addr) (xs : List Tr) (hN : xs.length = N) (hl : N ≤ 100000) (B0 : Nat) (w : World) (hB : B0 ≤ w.heap.size) (hr : Rd3 w B0 A xs) (hg : w.cell? ⟨bx, 0, none⟩ = some (.int .i64 g)) (hbx : bx < w.heap.size) :
  Calls Try.prog 136 #[.slice A N c, .func (.func 129) #[] #[.pointer (some ⟨bx, 0, none⟩)]] w fun e w' => e = .returned (.int .i64 (findD xs g)) ∧ Below w.heap.size w w' := by
 have HW := hid (fun V (b : Below w.heap.size w V) => (show Rd3 V B0 A xs from hr.below (b.mono hB)))
 have HG := hid (fun V (b : Below w.heap.size w V) => (show V.cell? ⟨bx, 0, none⟩ = some (.int .i64 g) from (b.cell (p := ⟨bx, 0, none⟩) hbx).trans hg))
 have HN := hid hN
 clear hr hN hg
 go_enter Try.func136, Try.ntmps136
 go_wp2_with fail
 go_loopw [8] (fun v wr => ∃ j : Nat, j ≤ N ∧ v = .int .i64 j ∧ Below w.heap.size w wr ∧ ∀ (q : Nat) (z : Tr), q < j → xs[q]? = some z → isD g z = false) (fun v _ => N - (intOf v).toNat)
 case atStart => exact ⟨0, Nat.zero_le _, rfl, Below.refl _ _, fun q z hq => absurd hq (Nat.not_lt_zero _)⟩
 case round =>
  obtain ⟨j, hj, rfl, hb, hno⟩ := hrel
  have hsz := hb.size
  by_cases hlt : j < N
  ·obtain ⟨⟨s0, s1, s2⟩, hy⟩ : ∃ y, xs[j]? = some y := ⟨_, List.getElem?_eq_getElem (by rw [HN.out]; exact hlt)⟩
   obtain ⟨sd, rfl, has, q0, q1, q2⟩ := (HW.out wr hb) j _ hy
   have HC := hid (clo_any s0 s1 s2 g bx wr (HG.out wr hb) (by omega))
   have HB := hid hb
   have HY := hid hy
   have HNO := hid hno
   dsimp only at q0 q1 q2
   clear hb hy hno
   go_wp2_with fail
   refine HC.out.mono ?_
   rintro e U ⟨rfl, bU⟩
   have BU := hid (HB.out.trans (bU.mono hsz))
   clear bU HC HB q0 q1 q2
   cases h3 : isD g (s0, s1, s2) with
   | true =>
    have HF := hid (findD_yes HY.out h3 HNO.out)
    clear h3
    go_wp2_with fail
    go_ret
    exact ⟨by rw [HF.out] <;> rfl, BU.out⟩
   | false =>
    have H3 := hid h3
    clear h3
    go_wp2_with fail
    go_roundw
    case rel =>
     refine ⟨j + 1, by omega, by go_num, BU.out, fun q z hq hz => ?_⟩
     by_cases hqj : q = j
     ·subst hqj
      rw [HY.out] at hz
      obtain rfl := Option.some.inj hz
      exact H3.out
     ·exact HNO.out q z (by omega) hz
    case measure => simp [intOf]; omega
  ·obtain rfl : j = N := by omega
   have HB := hid hb
   have HF := hid (findD_no (fun q z hq => hno q z (by rw [← HN.out]; exact hq)))
   clear hb hno
   go_wp2_with fail
   go_ret
   exact ⟨by rw [HF.out] <;> rfl, HB.out⟩
theorem contains_any (g : Int) (bx N c : Nat) (A : Option Addr) (xs : List Tr) (hN : xs.length = N) (hl : N ≤ 100000) (B0 : Nat) (w : World) (hB : B0 ≤ w.heap.size) (hr : Rd3 w B0 A xs) (hg : w.cell? ⟨bx, 0, none⟩ = some (.int .i64 g)) (hbx : bx < w.heap.size) :
  Calls Try.prog 111 #[.slice A N c, .func (.func 129) #[] #[.pointer (some ⟨bx, 0, none⟩)]] w fun e w' => e = .returned (.bool (xs.any (isD g))) ∧ Below w.heap.size w w' := by
 have HC := hid (index_any g bx N c A xs hN hl B0 w hB hr hg hbx)
 have HF := hid (findD_any xs g)
 clear hN hl hr
 generalize findD xs g = fd at *
 generalize xs.any (isD g) = an at *
 go_enter Try.func111, Try.ntmps111
 go_wp2_with fail
 refine HC.out.mono ?_
 rintro e w2 ⟨rfl, b2⟩
 have B2 := hid b2
 clear b2 HC
 go_wp2_with fail
 go_ret
 exact ⟨by rw [← HF.out] <;> rfl, B2.out⟩
theorem defers_any (g : Int) (N c : Nat) (A : Option Addr) (xs : List Tr) (hN : xs.length = N) (hl : N ≤ 100000) (B0 : Nat) (w : World) (hB : B0 ≤ w.heap.size) (hr : Rd3 w B0 A xs) :
  Calls Try.prog 95 #[.slice A N c, .int .i64 g] w fun e w' => e = .returned (.bool (xs.any (isD g))) ∧ Below w.heap.size w w' := by
 have HI := hid (fun (V : World) (b : Below w.heap.size w V) (hx : Blk V w.heap.size 3 #[.int .i64 g]) => contains_any g w.heap.size N c A xs hN hl B0 V (Nat.le_trans hB b.size) (hr.below (b.mono hB)) (hx.cells 0) hx.lt)
 clear hN hl hr
 generalize xs.any (isD g) = an at *
 go_enter Try.func95, Try.ntmps95
 go_upto_region 1 with fail
 change (fun V => Code.wp _ _ _ _ V) _
 refine gen_world (X := fun V => Blk V w.heap.size 3 #[.int .i64 g] ∧ Below w.heap.size w V) ⟨heap1_0 w _, (Below.refl _ _).alloc (Nat.le_refl _) _⟩ ?_
 rintro w1 ⟨x1, b1⟩
 have HC := hid (HI.out w1 b1 x1)
 have B1 := hid b1
 clear HI x1 b1
 go_wp2_with fail
 refine HC.out.mono ?_
 rintro e w2 ⟨rfl, b2⟩
 have B2 := hid (B1.out.trans (b2.mono B1.out.size))
 clear b2 B1 HC
 go_wp2_with fail
 go_ret
 exact ⟨rfl, B2.out⟩
end Go.Proofs.Ytdmcgkcpclepfaa.Gub
-- squeezed
