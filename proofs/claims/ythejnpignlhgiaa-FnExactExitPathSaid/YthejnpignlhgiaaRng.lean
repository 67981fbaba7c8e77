import Derived.Test.YthejnpignlhgiaaPArgP
import Derived.Test.YthejnpignlhgiaaM2
set_option linter.all false
namespace Go.Proofs.Ythejnpignlhgiaa.Rng
open Lib (hid)
open Go.ChangeShapes Go.WideShapes Go.ChangeAt Go.RowKit
open PL Mem Srun Sst To OwnS AskP StpS Res Swhole Sout IntsP LawI PArgP
theorem out_field0 (a b c d : Value) (w : World) : (Instr.field 56 (.agg #[a, b, c, d]) 0).run Try.prog w = .ok a w := by kernel_rfl
theorem l4Range_any (B : Nat) (A : Option Addr) (n c : Nat) (p : Pg) (f low high fuel : Int) (hn : n ≤ 9223372036854775807) (hl : p.length = n) (hsm : Small p 9223372036854775807) (w : World) (hr : RdP w B A p) (hB : B ≤ w.heap.size) :
  Calls Try.prog 75 #[.agg #[.slice A n c], .int .i64 f, .int .i64 low, .int .i64 high, .int .i64 fuel] w fun e w' => e = .returned (.bool (rangeOk p f low high fuel)) ∧ Below w.heap.size w w' := by
 have hq := hid (fun W (h : Below w.heap.size w W) => l2Ask_any B A n c p f low fuel hn hl hsm W (hr.below (h.mono hB)) (Nat.le_trans hB h.size))
 have hN := hid (fun W => l2Number_any high W)
 have hI := hid (fun W => l1In_any (high - low) 0 100 W)
 have HALs := hid (show Below w.heap.size w (w.alloc (.cells #[.slice A n c] 35)) from (Below.refl _ _).alloc (Nat.le_refl _) _)
 have hnum : asks p f low fuel = true → -32768 ≤ low ∧ low ≤ 32767 := asks_num
 have hs : rangeOk p f low high fuel = (asks p f low fuel && (isNum high && btw (high - low) 0 100)) := rfl
 generalize rangeOk p f low high fuel = R at *
 clear hr hsm
 cases h1 : asks p f low fuel with
 | false =>
  rw [h1] at hq hs
  have HS := hid (show R = false by rw [hs]; rfl)
  clear hs hnum h1
  go_enter Try.func75, Try.ntmps75
  go_wp2_with fail
  refine (hq.out _ HALs.out).mono ?_
  rintro e w1 ⟨rfl, b1⟩
  go_wp2_with fail
  go_ret
  exact ⟨by rw [HS.out]; rfl, HALs.out.trans (b1.mono HALs.out.size)⟩
 | true =>
  obtain ⟨hl1, hl2⟩ := hnum h1
  rw [h1] at hq hs
  cases h2 : isNum high with
  | false =>
   rw [h2] at hN hs
   have HS := hid (show R = false by rw [hs]; rfl)
   clear hs hnum h1 h2
   go_enter Try.func75, Try.ntmps75
   go_wp2_with fail
   refine (hq.out _ HALs.out).mono ?_
   rintro e w1 ⟨rfl, b1⟩
   go_wp2_with fail
   refine (hN.out _).mono ?_
   rintro e w2 ⟨rfl, rfl⟩
   go_wp2_with fail
   go_ret
   exact ⟨by rw [HS.out]; rfl, HALs.out.trans (b1.mono HALs.out.size)⟩
  | true =>
   have hh : -32768 ≤ high ∧ high ≤ 32767 := by unfold isNum at h2; simpa using h2
   obtain ⟨hh1, hh2⟩ := hh
   rw [h2] at hN hs
   generalize hb : btw (high - low) 0 100 = b at hs hI
   have HS := hid (show R = b by rw [hs]; simp)
   clear hs hnum h1 h2 hb
   go_enter Try.func75, Try.ntmps75
   go_wp2_with fail
   refine (hq.out _ HALs.out).mono ?_
   rintro e w1 ⟨rfl, b1⟩
   go_wp2_with fail
   refine (hN.out _).mono ?_
   rintro e w2 ⟨rfl, rfl⟩
   go_wp2_with fail
   refine (hI.out _).mono ?_
   rintro e w3 ⟨rfl, rfl⟩
   go_wp2_with fail
   go_ret
   exact ⟨by rw [HS.out] <;> rfl, HALs.out.trans (b1.mono HALs.out.size)⟩
set_option maxRecDepth 100000 in
set_option maxHeartbeats 4000000 in
theorem runAll_any (lo n c : Nat) (A : Option Addr) (p : Pg) (f low high fuel : Int) (hn : n ≤ 9223372036854775807) (hl : p.length = n) (hsm : Small p 9223372036854775807) (w : World) (ho : OwnP w lo (.slice A n c) p) :
  Calls Try.prog 76 #[.agg #[.slice A n c], .int .i64 f, .int .i64 low, .int .i64 high, .int .i64 fuel] w fun e w' => e = .returned (.bool (rangeOk p f low high fuel)) ∧ Below w.heap.size w w' := by
 have hq := hid (fun W (h : Below w.heap.size w W) => canRun_any w.heap.size A n c p f low fuel hn hl hsm W (ho.rd.below h) h.size)
 have hN := hid (fun W => Stp.isNumber_any high W)
 have HALs := hid (show Below w.heap.size w (w.alloc (.cells #[.slice A n c] 35)) from (Below.refl _ _).alloc (Nat.le_refl _) _)
 have hnum : asks p f low fuel = true → -32768 ≤ low ∧ low ≤ 32767 := asks_num
 have hs : rangeOk p f low high fuel = (asks p f low fuel && (isNum high && btw (high - low) 0 100)) := rfl
 generalize rangeOk p f low high fuel = R at *
 clear ho hsm
 cases h1 : asks p f low fuel with
 | false =>
  rw [h1] at hq hs
  have HS := hid (show R = false by rw [hs]; rfl)
  clear hs hnum h1
  go_enter Try.func76, Try.ntmps76
  go_wp2_with fail
  refine (hq.out _ HALs.out).mono ?_
  rintro e w1 ⟨rfl, b1⟩
  go_wp2_with fail
  go_ret
  exact ⟨by rw [HS.out]; rfl, HALs.out.trans (b1.mono HALs.out.size)⟩
 | true =>
  obtain ⟨hl1, hl2⟩ := hnum h1
  rw [h1] at hq hs
  cases h2 : isNum high with
  | false =>
   rw [h2] at hN hs
   have HS := hid (show R = false by rw [hs]; rfl)
   clear hs hnum h1 h2
   go_enter Try.func76, Try.ntmps76
   go_wp2_with fail
   refine (hq.out _ HALs.out).mono ?_
   rintro e w1 ⟨rfl, b1⟩
   go_wp2_with fail
   refine (hN.out _).mono ?_
   rintro e w2 ⟨rfl, rfl⟩
   go_wp2_with fail
   go_ret
   exact ⟨by rw [HS.out]; rfl, HALs.out.trans (b1.mono HALs.out.size)⟩
  | true =>
   have hh : -32768 ≤ high ∧ high ≤ 32767 := by unfold isNum at h2; simpa using h2
   obtain ⟨hh1, hh2⟩ := hh
   rw [h2] at hN hs
   have hRv : R = (decide (low ≤ high) && decide (high ≤ low + 100)) := by
    rw [hs]; unfold btw
    by_cases a : low ≤ high <;> by_cases b : high ≤ low + 100 <;> simp [a, b] <;> omega
   by_cases ha : low ≤ high
   ·by_cases hb : high ≤ low + 100
    ·have HS := hid (show R = true by rw [hRv, decide_eq_true ha, decide_eq_true hb]; rfl)
     have c1 : decide (low ≤ high) = true := decide_eq_true ha
     have c2 : decide (high ≤ low + 100) = true := decide_eq_true hb
     clear hs hnum h1 h2 hRv
     go_enter Try.func76, Try.ntmps76
     go_wp2_with fail
     refine (hq.out _ HALs.out).mono ?_
     rintro e w1 ⟨rfl, b1⟩
     go_wp2_with fail
     refine (hN.out _).mono ?_
     rintro e w2 ⟨rfl, rfl⟩
     go_wp2_with fail
     go_ret
     exact ⟨by rw [HS.out]; rfl, HALs.out.trans (b1.mono HALs.out.size)⟩
    ·have HS := hid (show R = false by rw [hRv, decide_eq_false hb]; simp)
     have c1 : decide (low ≤ high) = true := decide_eq_true ha
     have c2 : decide (high ≤ low + 100) = false := decide_eq_false hb
     clear hs hnum h1 h2 hRv
     go_enter Try.func76, Try.ntmps76
     go_wp2_with fail
     refine (hq.out _ HALs.out).mono ?_
     rintro e w1 ⟨rfl, b1⟩
     go_wp2_with fail
     refine (hN.out _).mono ?_
     rintro e w2 ⟨rfl, rfl⟩
     go_wp2_with fail
     go_ret
     exact ⟨by rw [HS.out]; rfl, HALs.out.trans (b1.mono HALs.out.size)⟩
   ·have HS := hid (show R = false by rw [hRv, decide_eq_false ha]; rfl)
    have c1 : decide (low ≤ high) = false := decide_eq_false ha
    clear hs hnum h1 h2 hRv
    go_enter Try.func76, Try.ntmps76
    go_wp2_with fail
    refine (hq.out _ HALs.out).mono ?_
    rintro e w1 ⟨rfl, b1⟩
    go_wp2_with fail
    refine (hN.out _).mono ?_
    rintro e w2 ⟨rfl, rfl⟩
    go_wp2_with fail
    go_ret
    exact ⟨by rw [HS.out]; rfl, HALs.out.trans (b1.mono HALs.out.size)⟩
end Go.Proofs.Ythejnpignlhgiaa.Rng
-- squeezed
