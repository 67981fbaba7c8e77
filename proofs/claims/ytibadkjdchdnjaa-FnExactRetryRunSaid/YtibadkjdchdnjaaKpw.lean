import Derived.Test.YtibadkjdchdnjaaKpp
import Derived.Test.YtibadkjdchdnjaaM2
import Derived.Deep.AppendLies
set_option linter.all false
namespace Go.Proofs.Ytibadkjdchdnjaa.Kpw
open Lib (hid)
open Go.ChangeShapes Go.WideShapes Go.ChangeAt Go.RowKit
open PL Mem Srun Sst To OwnS AskP StpS Res Swhole Sout IntsP LawI LawN Kpp
theorem least_any (a b : Int) (w : World) :
  Calls Try.prog 87 #[.int .i64 a, .int .i64 b] w fun e w' => e = .returned (.int .i64 (min a b)) ∧ w = w' := by
 by_cases h : a < b
 ·have hm : min a b = a := by omega
  have HM := hid hm
  clear hm
  go_enter Try.func87, Try.ntmps87
  go_wp2_with fail
  go_ret
  exact ⟨by rw [HM.out] <;> rfl, rfl⟩
 ·have hm : min a b = b := by omega
  have HM := hid hm
  clear hm
  have h' : decide (a < b) = false := by simpa using h
  go_enter Try.func87, Try.ntmps87
  go_wp2_with fail
  go_ret
  exact ⟨by rw [HM.out] <;> rfl, rfl⟩
theorem isWait_any (n : Int) (w : World) :
  Calls Try.prog 57 #[.int .i64 n] w fun e w' => e = .returned (.bool (btw n 0 10000)) ∧ w = w' := by
 by_cases h1 : 0 ≤ n
 ·by_cases h2 : n ≤ 10000
  ·have HM := hid (show btw n 0 10000 = true by unfold btw; rw [decide_eq_true h1, decide_eq_true h2]; rfl)
   go_enter Try.func57, Try.ntmps57
   go_wp2_with fail
   go_ret
   exact ⟨by rw [HM.out] <;> rfl, rfl⟩
  ·have HM := hid (show btw n 0 10000 = false by unfold btw; rw [decide_eq_false h2]; simp)
   have h2' : decide (n ≤ 10000) = false := by simpa using h2
   go_enter Try.func57, Try.ntmps57
   go_wp2_with fail
   go_ret
   exact ⟨by rw [HM.out] <;> rfl, rfl⟩
 ·have HM := hid (show btw n 0 10000 = false by unfold btw; rw [decide_eq_false h1]; rfl)
  have h1' : decide (0 ≤ n) = false := by simpa using h1
  go_enter Try.func57, Try.ntmps57
  go_wp2_with fail
  go_ret
  exact ⟨by rw [HM.out] <;> rfl, rfl⟩
set_option maxRecDepth 100000 in
set_option maxHeartbeats 2000000 in
theorem l8Policy_any (t wa fa mo : Int) (w : World) :
  Calls Try.prog 56 #[.agg #[.int .i64 t, .int .i64 wa, .int .i64 fa, .int .i64 mo]] w fun e w' => e = .returned (.bool (okPol t wa fa mo)) ∧ Below w.heap.size w w' := by
 have h1 := hid (fun W => l1In_any t 1 20 W)
 have h2 := hid (fun W => l1In_any wa 0 10000 W)
 have h3 := hid (fun W => l1In_any mo 0 10000 W)
 have h4 := hid (fun W => l1In_any fa 1 6 W)
 have hs : okPol t wa fa mo = (btw t 1 20 && btw wa 0 10000 && btw mo 0 10000 && btw fa 1 6) := rfl
 generalize btw t 1 20 = b1, btw wa 0 10000 = b2, btw mo 0 10000 = b3, btw fa 1 6 = b4 at *
 cases b1 with
 | false =>
  have HS := hid (show okPol t wa fa mo = false by rw [hs]; simp)
  clear hs
  go_enter Try.func56, Try.ntmps56
  go_wp2_with fail
  refine (h1.out _).mono ?_
  rintro e w1 ⟨rfl, rfl⟩
  go_wp2_with fail
  go_ret
  exact ⟨by rw [HS.out] <;> rfl, (Below.refl _ _).alloc (Nat.le_refl _) _⟩
 | true =>
  cases b2 with
  | false =>
   have HS := hid (show okPol t wa fa mo = false by rw [hs]; simp)
   clear hs
   go_enter Try.func56, Try.ntmps56
   go_wp2_with fail
   refine (h1.out _).mono ?_
   rintro e w1 ⟨rfl, rfl⟩
   go_wp2_with fail
   refine (h2.out _).mono ?_
   rintro e w2 ⟨rfl, rfl⟩
   go_wp2_with fail
   go_ret
   exact ⟨by rw [HS.out] <;> rfl, (Below.refl _ _).alloc (Nat.le_refl _) _⟩
  | true =>
   cases b3 with
   | false =>
    have HS := hid (show okPol t wa fa mo = false by rw [hs]; simp)
    clear hs
    go_enter Try.func56, Try.ntmps56
    go_wp2_with fail
    refine (h1.out _).mono ?_
    rintro e w1 ⟨rfl, rfl⟩
    go_wp2_with fail
    refine (h2.out _).mono ?_
    rintro e w2 ⟨rfl, rfl⟩
    go_wp2_with fail
    refine (h3.out _).mono ?_
    rintro e w3 ⟨rfl, rfl⟩
    go_wp2_with fail
    go_ret
    exact ⟨by rw [HS.out] <;> rfl, (Below.refl _ _).alloc (Nat.le_refl _) _⟩
   | true =>
    cases b4 with
    | false =>
     have HS := hid (show okPol t wa fa mo = false by rw [hs]; simp)
     clear hs
     go_enter Try.func56, Try.ntmps56
     go_wp2_with fail
     refine (h1.out _).mono ?_
     rintro e w1 ⟨rfl, rfl⟩
     go_wp2_with fail
     refine (h2.out _).mono ?_
     rintro e w2 ⟨rfl, rfl⟩
     go_wp2_with fail
     refine (h3.out _).mono ?_
     rintro e w3 ⟨rfl, rfl⟩
     go_wp2_with fail
     refine (h4.out _).mono ?_
     rintro e w4 ⟨rfl, rfl⟩
     go_wp2_with fail
     go_ret
     exact ⟨by rw [HS.out] <;> rfl, (Below.refl _ _).alloc (Nat.le_refl _) _⟩
    | true =>
     have HS := hid (show okPol t wa fa mo = true by rw [hs]; rfl)
     clear hs
     go_enter Try.func56, Try.ntmps56
     go_wp2_with fail
     refine (h1.out _).mono ?_
     rintro e w1 ⟨rfl, rfl⟩
     go_wp2_with fail
     refine (h2.out _).mono ?_
     rintro e w2 ⟨rfl, rfl⟩
     go_wp2_with fail
     refine (h3.out _).mono ?_
     rintro e w3 ⟨rfl, rfl⟩
     go_wp2_with fail
     refine (h4.out _).mono ?_
     rintro e w4 ⟨rfl, rfl⟩
     go_wp2_with fail
     go_ret
     exact ⟨by rw [HS.out] <;> rfl, (Below.refl _ _).alloc (Nat.le_refl _) _⟩
set_option maxRecDepth 100000 in
set_option maxHeartbeats 2000000 in
theorem isPolI_any (t wa fa mo : Int) (w : World) :
  Calls Try.prog 17 #[.agg #[.int .i64 t, .int .i64 wa, .int .i64 fa, .int .i64 mo]] w fun e w' => e = .returned (.bool (okPol t wa fa mo)) ∧ Below w.heap.size w w' := by
 have h2 := hid (fun W => isWait_any wa W)
 have h3 := hid (fun W => isWait_any mo W)
 have hs : okPol t wa fa mo = (btw t 1 20 && btw wa 0 10000 && btw mo 0 10000 && btw fa 1 6) := rfl
 generalize btw wa 0 10000 = b2, btw mo 0 10000 = b3 at *
 by_cases d0 : 1 ≤ t
 rotate_left
 ·have e0 : decide (1 ≤ t) = false := by simpa using d0
  have HS := hid (show okPol t wa fa mo = false by rw [hs]; unfold btw; rw [e0]; simp)
  clear hs
  go_enter Try.func17, Try.ntmps17
  go_wp2_with fail
  go_ret
  exact ⟨by rw [HS.out] <;> rfl, (Below.refl _ _).alloc (Nat.le_refl _) _⟩
 by_cases d1 : t ≤ 20
 rotate_left
 ·have e1 : decide (t ≤ 20) = false := by simpa using d1
  have HS := hid (show okPol t wa fa mo = false by rw [hs]; unfold btw; rw [e1]; simp)
  clear hs
  go_enter Try.func17, Try.ntmps17
  go_wp2_with fail
  go_ret
  exact ⟨by rw [HS.out] <;> rfl, (Below.refl _ _).alloc (Nat.le_refl _) _⟩
 cases b2 with
 | false =>
  have HS := hid (show okPol t wa fa mo = false by rw [hs]; simp)
  clear hs
  go_enter Try.func17, Try.ntmps17
  go_wp2_with fail
  refine (h2.out _).mono ?_
  rintro e w3 ⟨rfl, rfl⟩
  go_wp2_with fail
  go_ret
  exact ⟨by rw [HS.out] <;> rfl, (Below.refl _ _).alloc (Nat.le_refl _) _⟩
 | true =>
  cases b3 with
  | false =>
   have HS := hid (show okPol t wa fa mo = false by rw [hs]; simp)
   clear hs
   go_enter Try.func17, Try.ntmps17
   go_wp2_with fail
   refine (h2.out _).mono ?_
   rintro e w3 ⟨rfl, rfl⟩
   go_wp2_with fail
   refine (h3.out _).mono ?_
   rintro e w4 ⟨rfl, rfl⟩
   go_wp2_with fail
   go_ret
   exact ⟨by rw [HS.out] <;> rfl, (Below.refl _ _).alloc (Nat.le_refl _) _⟩
  | true =>
   by_cases d4 : 1 ≤ fa
   rotate_left
   ·have e4 : decide (1 ≤ fa) = false := by simpa using d4
    have HS := hid (show okPol t wa fa mo = false by rw [hs]; unfold btw; rw [e4]; simp)
    clear hs
    go_enter Try.func17, Try.ntmps17
    go_wp2_with fail
    refine (h2.out _).mono ?_
    rintro e w3 ⟨rfl, rfl⟩
    go_wp2_with fail
    refine (h3.out _).mono ?_
    rintro e w4 ⟨rfl, rfl⟩
    go_wp2_with fail
    go_ret
    exact ⟨by rw [HS.out] <;> rfl, (Below.refl _ _).alloc (Nat.le_refl _) _⟩
   by_cases d5 : fa ≤ 6
   rotate_left
   ·have e5 : decide (fa ≤ 6) = false := by simpa using d5
    have HS := hid (show okPol t wa fa mo = false by rw [hs]; unfold btw; rw [e5]; simp)
    clear hs
    go_enter Try.func17, Try.ntmps17
    go_wp2_with fail
    refine (h2.out _).mono ?_
    rintro e w3 ⟨rfl, rfl⟩
    go_wp2_with fail
    refine (h3.out _).mono ?_
    rintro e w4 ⟨rfl, rfl⟩
    go_wp2_with fail
    go_ret
    exact ⟨by rw [HS.out] <;> rfl, (Below.refl _ _).alloc (Nat.le_refl _) _⟩
   have HS := hid (show okPol t wa fa mo = true by rw [hs]; unfold btw; rw [decide_eq_true d0, decide_eq_true d1, decide_eq_true d4, decide_eq_true d5]; rfl)
   clear hs
   go_enter Try.func17, Try.ntmps17
   go_wp2_with fail
   refine (h2.out _).mono ?_
   rintro e w3 ⟨rfl, rfl⟩
   go_wp2_with fail
   refine (h3.out _).mono ?_
   rintro e w4 ⟨rfl, rfl⟩
   go_wp2_with fail
   go_ret
   exact ⟨by rw [HS.out] <;> rfl, (Below.refl _ _).alloc (Nat.le_refl _) _⟩
theorem isPolS_any (t wa fa mo : Int) (w : World) :
  Calls Try.prog 15 #[.agg #[.int .i64 t, .int .i64 wa, .int .i64 fa, .int .i64 mo]] w fun e w' => e = .returned (.bool (okPol t wa fa mo)) ∧ Below w.heap.size w w' := by
 have h := hid (fun W => l8Policy_any t wa fa mo W)
 generalize okPol t wa fa mo = b at *
 go_enter Try.func15, Try.ntmps15
 go_wp2_with fail
 refine (h.out _).mono ?_
 rintro e w1 ⟨rfl, b1⟩
 go_wp2_with fail
 go_ret
 have b0 : Below w.heap.size w (w.alloc (.cells #[.int .i64 t, .int .i64 wa, .int .i64 fa, .int .i64 mo] 25)) := (Below.refl _ _).alloc (Nat.le_refl _) _
 exact ⟨rfl, b0.trans (b1.mono b0.size)⟩
def WaitR (wa fa mo : Int) (n : Nat) (w : World) (e : Ending) (w' : World) : Prop :=
 ∃ A c, e = .returned (.slice A n c) ∧ OwnI w' w.heap.size (.slice A n c) (waitL wa fa mo n) ∧ Below w.heap.size w w'
set_option maxRecDepth 100000 in
set_option maxHeartbeats 4000000 in
theorem l8Waits_any (t wa fa mo : Int) (hok : okPol t wa fa mo = true) (w : World) :
  Calls Try.prog 58 #[.agg #[.int .i64 t, .int .i64 wa, .int .i64 fa, .int .i64 mo]] w (WaitR wa fa mo (t.toNat - 1) w) := by
 obtain ⟨i0, hi, hz0, hz1, hz2⟩ := info_parts info3
 obtain ⟨⟨ht1, ht2⟩, ⟨hw1, hw2⟩, ⟨hm1, hm2⟩, hf1, hf2⟩ := okPol_iff hok
 have hle := hid (fun a b W => least_any a b W)
 have HWT := hid (fun k => wt_in hw1 hm1 hf1 k)
 have HW0 := hid (show wt wa fa mo 0 = min wa mo from rfl)
 have HWS := hid (fun k => (show wt wa fa mo (k + 1) = min (wt wa fa mo k * fa) mo from rfl))
 clear hok
 go_enter Try.func58, Try.ntmps58
 go_upto_region 1 with fail
 change (fun V => Code.wp _ _ _ _ V) _
 refine gen_world (X := fun V => Blk V w.heap.size 25 #[.int .i64 t, .int .i64 wa, .int .i64 fa, .int .i64 mo] ∧ Below w.heap.size w V ∧ w.heap.size < V.heap.size) ⟨heap1_0 w _, (Below.refl _ _).alloc (Nat.le_refl _) _, by simp⟩ ?_
 rintro w1 ⟨x1, b1, l1⟩
 have z0 : w1.cell? ⟨w.heap.size, 0, none⟩ = some (.int .i64 t) := x1.cells 0
 have z1 : w1.cell? ⟨w.heap.size, 1, none⟩ = some (.int .i64 wa) := x1.cells 1
 have z3 : w1.cell? ⟨w.heap.size, 3, none⟩ = some (.int .i64 mo) := x1.cells 3
 have X1 := hid x1
 have B1 := hid b1
 have B2 := hid (show Below w1.heap.size w1 (w1.alloc (.cells #[] 3)) from (Below.refl _ _).alloc (Nat.le_refl _) _)
 have HE := hid (show OwnI (w1.alloc (.cells #[] 3)) w1.heap.size (.slice (some ⟨w1.heap.size, 0, none⟩) 0 0) [] from App.empty_own (heap1_0 w1 _) (Nat.le_refl _))
 clear x1 b1
 go_wp2_with fail
 refine (hle.out _ _ _).mono ?_
 rintro e w2 ⟨rfl, rfl⟩
 clear z0 z1 z3
 go_wp2_with fail
 go_loopw [3, 4, 5] (fun v a i wr => ∃ (k : Nat) (A' : Option Addr) (c' : Nat), (k : Int) + 1 ≤ t ∧ i = .int .i64 (k + 1) ∧ a = .int .i64 (wt wa fa mo k) ∧ v = .slice A' k c' ∧ wr.ownsRow w1.heap.size 3 1 (.slice A' k c') k (cellsI (waitL wa fa mo k)) ∧ Below w1.heap.size w1 wr) (fun _ _ i _ => (t - intOf i).toNat)
 case atStart => exact ⟨0, _, _, by omega, by simp, by rw [HW0.out], rfl, HE.out, B2.out⟩
 case round =>
  obtain ⟨k, A', c', hk, rfl, rfl, rfl, hown, hb⟩ := hrel
  clear HE B2
  have hlo := hb.size
  have HB := hid hb
  have O := hid hown
  have z0 : wr.cell? ⟨w.heap.size, 0, none⟩ = some (.int .i64 t) := (X1.out.below hb l1).cells 0
  have z2 : wr.cell? ⟨w.heap.size, 2, none⟩ = some (.int .i64 fa) := (X1.out.below hb l1).cells 2
  have z3 : wr.cell? ⟨w.heap.size, 3, none⟩ = some (.int .i64 mo) := (X1.out.below hb l1).cells 3
  clear hb hown
  obtain ⟨hu1, hu2⟩ := HWT.out k
  have hs := HWS.out k
  have hmul : 0 ≤ wt wa fa mo k * fa ∧ wt wa fa mo k * fa ≤ 60000 := by
   refine ⟨Int.mul_nonneg hu1 (by omega), ?_⟩
   have h1 : wt wa fa mo k * fa ≤ wt wa fa mo k * 6 := Int.mul_le_mul_of_nonneg_left hf2 hu1
   omega
  obtain ⟨u, hu⟩ : ∃ u, wt wa fa mo k = u := ⟨_, rfl⟩
  have hsn := hid (waitL_snoc wa fa mo k)
  have HU := hid hu
  rw [hu] at hu1 hu2 hs hmul ⊢
  have HSU := hid hs
  clear hs hu
  obtain ⟨hm3, hm4⟩ := hmul
  have hwr : IntKind.i64.wrap (u * fa) = u * fa := IntWalk.i64_in _ (by omega)
  by_cases hlt : (k : Int) + 1 < t
  ·have B3 := hid (show Below w1.heap.size w1 (wr.alloc (.cells #[.int .i64 u] 3)) from HB.out.alloc hlo _)
   go_wp2_with (at_builtin; refine wpList_append_lies _ rfl _ _ 28 rfl w1.heap.size 3 i0 _ 1 8 Try.underlying28 hi hz0 hz1 hz2 rfl (by decide) _ _ _ rfl (World.ownsRow.alloc O.out _) ⟨wr.heap.size, 0, none⟩ 1 1 [.int .i64 u] rfl rfl ?cn_1 ?co_1 (by decide) ?c63_1 ?cb_1 ?cl_1 (wr.heap.size + 1) ?cH_1 ?next_1)
   (try (case cn_1 => exact World.news_of_block (cs := #[.int .i64 u]) (t := 3) (fr := (0, 0)) (heap_alloc_new _ _)))
   case co_1 => first | (intro u hu; simp at hu; rcases hu with rfl; rfl) | simp [Value.oneCell']
   case c63_1 => first | (unfold maxLen; omega) | omega
   case cb_1 => omega
   case cl_1 => first | (simp; omega) | omega
   (try (case cH_1 => simp))
   case next_1 =>
    intro g2 cap2 w2' hown2 hgrow2 hat2 hlt2
    have c2' : Chg (fun y => (Value.slice A' k c').ownBlock = some y) wr w2' := (Chg.alloc _ wr _).trans (Chg.of_grown hgrow2) (fun x _ hx => hx.symm)
    have B2' := hid (HB.out.trans (c2'.below hlo (fun x hx e => by have := (World.ownsRow.lt O.out x e).1; omega)))
    have O2 := hid hown2
    have l2 := c2'.size
    clear hown2 hgrow2 hat2 c2' B3
    have z2 : w2'.cell? ⟨w.heap.size, 2, none⟩ = some (.int .i64 fa) := (X1.out.below B2'.out l1).cells 2
    have z3 : w2'.cell? ⟨w.heap.size, 3, none⟩ = some (.int .i64 mo) := (X1.out.below B2'.out l1).cells 3
    go_wp2_with fail
    refine (hle.out _ _ _).mono ?_
    rintro e w4 ⟨rfl, rfl⟩
    go_wp2_with fail
    go_roundw
    case rel =>
     refine ⟨k + 1, some ⟨g2, 0, none⟩, cap2, by omega, by go_num, ?_, ?_, ?_, B2'.out⟩
     ·rw [HSU.out]
     ·first | rfl | simp
     ·rw [hsn.out, HU.out]
      rw [cellsI_append]
      exact O2.out
    case measure => simp [intOf]; omega
  ·have hkt : k = t.toNat - 1 := by omega
   have hcb : decide ((k : Int) + 1 < t) = false := by simpa using hlt
   have HK := hid hkt
   clear hkt hlt
   go_wp2_with fail
   go_ret
   exact ⟨A', c', by rw [HK.out] <;> rfl, by rw [← HK.out]; unfold OwnI; rw [waitL_len]; exact own_mono O.out (Nat.le_of_lt l1), B1.out.trans (HB.out.mono B1.out.size)⟩
set_option maxRecDepth 100000 in
set_option maxHeartbeats 4000000 in
theorem waitsS_any (t wa fa mo : Int) (w : World) :
  Calls Try.prog 18 #[.agg #[.int .i64 t, .int .i64 wa, .int .i64 fa, .int .i64 mo]] w (IntsR (waitsR t wa fa mo) w) := by
 have hp := hid (fun W => l8Policy_any t wa fa mo W)
 have hr0 : waitsR t wa fa mo = if okPol t wa fa mo = true then (waitL wa fa mo (t.toNat - 1), true) else ([], false) := rfl
 have hw := fun (h : okPol t wa fa mo = true) W => l8Waits_any t wa fa mo h W
 cases hok : okPol t wa fa mo with
 | false =>
  rw [hok] at hp hr0
  have hr := hid (hr0.trans (if_neg (by decide)))
  clear hok hr0 hw
  go_enter Try.func18, Try.ntmps18
  go_upto_region 1 with fail
  change (fun V => Code.wp _ _ _ _ V) _
  refine gen_world (X := fun V => Blk V w.heap.size 25 #[.int .i64 t, .int .i64 wa, .int .i64 fa, .int .i64 mo] ∧ Below w.heap.size w V ∧ w.heap.size < V.heap.size) ⟨heap1_0 w _, (Below.refl _ _).alloc (Nat.le_refl _) _, by simp⟩ ?_
  rintro w1 ⟨x1, b1, l1⟩
  have zs := x1.cells
  have B1 := hid b1
  clear x1 b1
  go_wp2_with fail
  refine (hp.out _).mono ?_
  rintro e w2 ⟨rfl, b2⟩
  have B2 := hid (B1.out.trans (b2.mono B1.out.size))
  have HE := hid (show OwnI (w2.alloc (.cells #[] 3)) w.heap.size (.slice (some ⟨w2.heap.size, 0, none⟩) 0 0) [] from App.empty_own (heap1_0 w2 _) B2.out.size)
  have B3 := hid (B2.out.alloc B2.out.size (.cells #[] 3))
  clear b2 zs
  go_wp2_with fail
  go_ret2
  exact ⟨_, _, by rw [hr.out] <;> rfl, by rw [hr.out]; exact HE.out, B3.out⟩
 | true =>
  replace hw := hid (hw hok)
  rw [hok] at hp hr0
  have hr := hid (hr0.trans (if_pos rfl))
  clear hok hr0
  go_enter Try.func18, Try.ntmps18
  go_upto_region 1 with fail
  change (fun V => Code.wp _ _ _ _ V) _
  refine gen_world (X := fun V => Blk V w.heap.size 25 #[.int .i64 t, .int .i64 wa, .int .i64 fa, .int .i64 mo] ∧ Below w.heap.size w V ∧ w.heap.size < V.heap.size) ⟨heap1_0 w _, (Below.refl _ _).alloc (Nat.le_refl _) _, by simp⟩ ?_
  rintro w1 ⟨x1, b1, l1⟩
  have zs := x1.cells
  have X1 := hid x1
  have B1 := hid b1
  clear x1 b1
  go_wp2_with fail
  refine (hp.out _).mono ?_
  rintro e w2 ⟨rfl, b2⟩
  have zs2 := (X1.out.below b2 l1).cells
  have B2 := hid (B1.out.trans (b2.mono B1.out.size))
  clear b2 zs X1
  go_wp2_with fail
  refine (hw.out _).mono ?_
  rintro e w3 ⟨A3, c3, rfl, o3, b3⟩
  have O3 := hid (own_mono o3 B2.out.size)
  have B3 := hid (B2.out.trans (b3.mono B2.out.size))
  clear o3 b3 zs2
  go_wp2_with fail
  go_ret2
  exact ⟨A3, c3, by rw [hr.out]; simp only [waitL_len] <;> rfl, by rw [hr.out]; have := O3.out; unfold OwnI at this ⊢; rw [waitL_len] at this; simpa only [waitL_len] using this, B3.out⟩
set_option maxRecDepth 100000 in
set_option maxHeartbeats 4000000 in
theorem waitsI_any (t wa fa mo : Int) (w : World) :
  Calls Try.prog 19 #[.agg #[.int .i64 t, .int .i64 wa, .int .i64 fa, .int .i64 mo]] w (IntsR (waitsR t wa fa mo) w) := by
 have hp := hid (fun W => isPolI_any t wa fa mo W)
 have hr0 : waitsR t wa fa mo = if okPol t wa fa mo = true then (waitL wa fa mo (t.toNat - 1), true) else ([], false) := rfl
 obtain ⟨i0, hi, hz0, hz1, hz2⟩ := info_parts info3
 cases hok : okPol t wa fa mo with
 | false =>
  rw [hok] at hp hr0
  have hr := hid (hr0.trans (if_neg (by decide)))
  clear hok hr0 hi hz0 hz1 hz2
  go_enter Try.func19, Try.ntmps19
  go_upto_region 1 with fail
  change (fun V => Code.wp _ _ _ _ V) _
  refine gen_world (X := fun V => Blk V w.heap.size 25 #[.int .i64 t, .int .i64 wa, .int .i64 fa, .int .i64 mo] ∧ Below w.heap.size w V ∧ w.heap.size < V.heap.size) ⟨heap1_0 w _, (Below.refl _ _).alloc (Nat.le_refl _) _, by simp⟩ ?_
  rintro w1 ⟨x1, b1, l1⟩
  have zs := x1.cells
  have B1 := hid b1
  have B2 := hid (b1.alloc b1.size (.cells #[] 3))
  have HE := hid (show OwnI (w1.alloc (.cells #[] 3)) w.heap.size (.slice (some ⟨w1.heap.size, 0, none⟩) 0 0) [] from App.empty_own (heap1_0 w1 _) b1.size)
  clear x1 b1
  go_wp2_with fail
  refine (hp.out _).mono ?_
  rintro e w2 ⟨rfl, b2⟩
  have O2 := hid (own_below HE.out b2 (Nat.le_refl _))
  have B3 := hid (B2.out.trans (b2.mono B2.out.size))
  clear b2 zs
  go_wp2_with fail
  go_ret2
  exact ⟨_, _, by rw [hr.out] <;> rfl, by rw [hr.out]; exact O2.out, B3.out⟩
 | true =>
  obtain ⟨⟨ht1, ht2⟩, ⟨hw1, hw2⟩, ⟨hm1, hm2⟩, hf1, hf2⟩ := okPol_iff hok
  have HWT := hid (fun k => wt_in hw1 hm1 hf1 k)
  have HW0 := hid (show wt wa fa mo 0 = min wa mo from rfl)
  have HWS := hid (fun k => (show wt wa fa mo (k + 1) = min (wt wa fa mo k * fa) mo from rfl))
  rw [hok] at hp hr0
  have hr := hid (hr0.trans (if_pos rfl))
  clear hok hr0
  go_enter Try.func19, Try.ntmps19
  go_upto_region 1 with fail
  change (fun V => Code.wp _ _ _ _ V) _
  refine gen_world (X := fun V => Blk V w.heap.size 25 #[.int .i64 t, .int .i64 wa, .int .i64 fa, .int .i64 mo] ∧ Below w.heap.size w V ∧ w.heap.size < V.heap.size) ⟨heap1_0 w _, (Below.refl _ _).alloc (Nat.le_refl _) _, by simp⟩ ?_
  rintro w1 ⟨x1, b1, l1⟩
  have zs := x1.cells
  have X1 := hid x1
  have B1 := hid b1
  have B2 := hid (show Below w1.heap.size w1 (w1.alloc (.cells #[] 3)) from (Below.refl _ _).alloc (Nat.le_refl _) _)
  have HE := hid (show (w1.alloc (.cells #[] 3)).ownsRow w1.heap.size 3 1 (.slice (some ⟨w1.heap.size, 0, none⟩) 0 0) 0 (cellsI []) from App.empty_own (heap1_0 w1 _) (Nat.le_refl _))
  clear x1 b1
  go_wp2_with fail
  refine (hp.out _).mono ?_
  rintro e w2 ⟨rfl, b2⟩
  have O2 := hid (own_below HE.out b2 (Nat.le_refl _))
  have C2 := hid (B2.out.trans (b2.mono B2.out.size))
  clear b2 HE B2 zs
  have zs := (X1.out.below C2.out l1).cells
  have hz : (if mo < wa then mo else wa) = wt wa fa mo 0 := by rw [HW0.out]; split <;> omega
  go_wp2_with fail
  have HZ := hid hz
  clear hz zs
  go_loopw [4, 5, 19] (fun v a i wr => ∃ (k : Nat) (A' : Option Addr) (c' : Nat), (k : Int) + 1 ≤ t ∧ i = .int .i64 k ∧ a = .int .i64 (wt wa fa mo k) ∧ v = .slice A' k c' ∧ wr.ownsRow w1.heap.size 3 1 (.slice A' k c') k (cellsI (waitL wa fa mo k)) ∧ Below w1.heap.size w1 wr) (fun _ _ i _ => (t - intOf i).toNat)
  case atStart => exact ⟨0, _, _, by omega, by simp, rfl, rfl, O2.out, C2.out⟩
  case round =>
   obtain ⟨k, A', c', hk, rfl, rfl, rfl, hown, hb⟩ := hrel
   clear O2 C2
   have hlo := hb.size
   have HB := hid hb
   have O := hid hown
   clear hb hown
   obtain ⟨hu1, hu2⟩ := HWT.out k
   have hs := HWS.out k
   have hmul : 0 ≤ wt wa fa mo k * fa ∧ wt wa fa mo k * fa ≤ 60000 := by
    refine ⟨Int.mul_nonneg hu1 (by omega), ?_⟩
    have h1 : wt wa fa mo k * fa ≤ wt wa fa mo k * 6 := Int.mul_le_mul_of_nonneg_left hf2 hu1
    omega
   obtain ⟨u, hu⟩ : ∃ u, wt wa fa mo k = u := ⟨_, rfl⟩
   have hsn := hid (waitL_snoc wa fa mo k)
   have HU := hid hu
   rw [hu] at hu1 hu2 hs hmul ⊢
   have HSU := hid (show (if mo < u * fa then mo else u * fa) = wt wa fa mo (k + 1) by rw [hs]; split <;> omega)
   clear hs hu
   obtain ⟨hm3, hm4⟩ := hmul
   have hwr : IntKind.i64.wrap (u * fa) = u * fa := IntWalk.i64_in _ (by omega)
   by_cases hlt : (k : Int) < t - 1
   ·have B3 := hid (show Below w1.heap.size w1 (wr.alloc (.cells #[.int .i64 u] 3)) from HB.out.alloc hlo _)
    go_wp2_with (at_builtin; refine wpList_append_lies _ rfl _ _ 28 rfl w1.heap.size 3 i0 _ 1 8 Try.underlying28 hi hz0 hz1 hz2 rfl (by decide) _ _ _ rfl (World.ownsRow.alloc O.out _) ⟨wr.heap.size, 0, none⟩ 1 1 [.int .i64 u] rfl rfl ?cn_1 ?co_1 (by decide) ?c63_1 ?cb_1 ?cl_1 (wr.heap.size + 1) ?cH_1 ?next_1)
    (try (case cn_1 => exact World.news_of_block (cs := #[.int .i64 u]) (t := 3) (fr := (0, 0)) (heap_alloc_new _ _)))
    case co_1 => first | (intro u hu; simp at hu; rcases hu with rfl; rfl) | simp [Value.oneCell']
    case c63_1 => first | (unfold maxLen; omega) | omega
    case cb_1 => omega
    case cl_1 => first | (simp; omega) | omega
    (try (case cH_1 => simp))
    case next_1 =>
     intro g2 cap2 w2' hown2 hgrow2 hat2 hlt2
     have c2' : Chg (fun y => (Value.slice A' k c').ownBlock = some y) wr w2' := (Chg.alloc _ wr _).trans (Chg.of_grown hgrow2) (fun x _ hx => hx.symm)
     have B2' := hid (HB.out.trans (c2'.below hlo (fun x hx e => by have := (World.ownsRow.lt O.out x e).1; omega)))
     have O2 := hid hown2
     clear hown2 hgrow2 hat2 c2' B3
     have z2 : w2'.cell? ⟨w.heap.size, 2, none⟩ = some (.int .i64 fa) := (X1.out.below B2'.out l1).cells 2
     have z3 : w2'.cell? ⟨w.heap.size, 3, none⟩ = some (.int .i64 mo) := (X1.out.below B2'.out l1).cells 3
     have hsu := HSU.out
     go_wp2_with fail
     go_roundw
     case rel =>
      refine ⟨k + 1, some ⟨g2, 0, none⟩, cap2, by omega, by go_num, by first | rfl | rw [← HSU.out], ?_, ?_, B2'.out⟩
      ·first | rfl | simp
      ·rw [hsn.out, HU.out]
       rw [cellsI_append]
       exact O2.out
     case measure => simp [intOf]; omega
   ·have hkt : k = t.toNat - 1 := by omega
    have hcb : decide ((k : Int) < t - 1) = false := by simpa using hlt
    have HK := hid hkt
    clear hkt hlt
    go_wp2_with fail
    go_ret2
    exact ⟨A', c', by rw [hr.out]; simp only [waitL_len]; rw [HK.out] <;> rfl, by rw [hr.out]; unfold OwnI; simp only [waitL_len]; rw [← HK.out]; exact own_mono O.out (Nat.le_of_lt l1), B1.out.trans (HB.out.mono B1.out.size)⟩end Go.Proofs.Ytibadkjdchdnjaa.Kpw
-- squeezed
