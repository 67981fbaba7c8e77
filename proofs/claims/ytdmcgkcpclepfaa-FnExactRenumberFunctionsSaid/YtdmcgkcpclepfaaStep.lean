import Derived.Test.YtdmcgkcpclepfaaTo
set_option linter.all false
namespace Go.Proofs.Ytdmcgkcpclepfaa.Stp
open Lib (hid)
open Go.ChangeShapes Go.WideShapes Go.ChangeAt Go.RowKit
open PL Mem To
theorem isRegister_any (r : Int) (w : World) : Calls Try.prog 139 #[.int .i64 r] w fun e w' => e = .returned (.bool (isReg r)) ∧ w = w' := by
 by_cases h1 : 0 ≤ r
 ·by_cases h2 : r < 4
  ·have hs := hid (show isReg r = true by unfold isReg; simp; omega)
   go_enter Try.func139, Try.ntmps139
   go_wp2
   go_ret
   exact ⟨by rw [hs.out]; rfl, rfl⟩
  ·have hs := hid (show isReg r = false by unfold isReg; simp; omega)
   go_enter Try.func139, Try.ntmps139
   go_wp2
   go_ret
   exact ⟨by rw [hs.out]; rfl, rfl⟩
 ·have hs := hid (show isReg r = false by unfold isReg; simp; omega)
  go_enter Try.func139, Try.ntmps139
  go_wp2
  go_ret
  exact ⟨by rw [hs.out]; rfl, rfl⟩
theorem isNumber_any (r : Int) (w : World) : Calls Try.prog 140 #[.int .i64 r] w fun e w' => e = .returned (.bool (isNum r)) ∧ w = w' := by
 by_cases h1 : -32768 ≤ r
 ·by_cases h2 : r ≤ 32767
  ·have hs := hid (show isNum r = true by unfold isNum; simp; omega)
   go_enter Try.func140, Try.ntmps140
   go_wp2
   go_ret
   exact ⟨by rw [hs.out]; rfl, rfl⟩
  ·have hs := hid (show isNum r = false by unfold isNum; simp; omega)
   go_enter Try.func140, Try.ntmps140
   go_wp2
   go_ret
   exact ⟨by rw [hs.out]; rfl, rfl⟩
 ·have hs := hid (show isNum r = false by unfold isNum; simp; omega)
  go_enter Try.func140, Try.ntmps140
  go_wp2
  go_ret
  exact ⟨by rw [hs.out]; rfl, rfl⟩
set_option maxRecDepth 100000 in
theorem isStep_1 (a b : Int) (n : Nat) (hn : n ≤ 9223372036854775807) (w : World) :
  Calls Try.prog 116 #[.agg #[.int .i64 1, .int .i64 a, .int .i64 b], .int .i64 n] w fun e w' => e = .returned (.bool (okStep n (1, a, b))) ∧ Below w.heap.size w w' := by
 have hs := hid (show okStep n (1, a, b) = (isReg a && isNum b) by simp [okStep])
 cases h1 : isReg a
 ·have H1 := hid h1
  clear h1
  go_enter Try.func116, Try.ntmps116
  go_wp2_with fail
  refine (isRegister_any a _).mono ?_
  rintro e w1 ⟨rfl, rfl⟩
  rw [H1.out]
  go_wp2_with fail
  go_ret
  exact ⟨by rw [hs.out, H1.out]; rfl, (Below.refl _ _).alloc (Nat.le_refl _) _⟩
 ·have H1 := hid h1
  clear h1
  go_enter Try.func116, Try.ntmps116
  go_wp2_with fail
  refine (isRegister_any a _).mono ?_
  rintro e w1 ⟨rfl, rfl⟩
  rw [H1.out]
  go_wp2_with fail
  refine (isNumber_any b _).mono ?_
  rintro e w1 ⟨rfl, rfl⟩
  go_wp2_with fail
  go_ret
  exact ⟨by rw [hs.out, H1.out]; rfl, (Below.refl _ _).alloc (Nat.le_refl _) _⟩
set_option maxRecDepth 100000 in
theorem isStep_2 (a b : Int) (n : Nat) (hn : n ≤ 9223372036854775807) (w : World) :
  Calls Try.prog 116 #[.agg #[.int .i64 2, .int .i64 a, .int .i64 b], .int .i64 n] w fun e w' => e = .returned (.bool (okStep n (2, a, b))) ∧ Below w.heap.size w w' := by
 have hs := hid (show okStep n (2, a, b) = (isReg a && isReg b) by simp [okStep])
 cases h1 : isReg a
 ·have H1 := hid h1
  clear h1
  go_enter Try.func116, Try.ntmps116
  go_wp2_with fail
  refine (isRegister_any a _).mono ?_
  rintro e w1 ⟨rfl, rfl⟩
  rw [H1.out]
  go_wp2_with fail
  go_ret
  exact ⟨by rw [hs.out, H1.out]; rfl, (Below.refl _ _).alloc (Nat.le_refl _) _⟩
 ·have H1 := hid h1
  clear h1
  go_enter Try.func116, Try.ntmps116
  go_wp2_with fail
  refine (isRegister_any a _).mono ?_
  rintro e w1 ⟨rfl, rfl⟩
  rw [H1.out]
  go_wp2_with fail
  refine (isRegister_any b _).mono ?_
  rintro e w1 ⟨rfl, rfl⟩
  go_wp2_with fail
  go_ret
  exact ⟨by rw [hs.out, H1.out]; rfl, (Below.refl _ _).alloc (Nat.le_refl _) _⟩
set_option maxRecDepth 100000 in
theorem isStep_3 (a b : Int) (n : Nat) (hn : n ≤ 9223372036854775807) (w : World) :
  Calls Try.prog 116 #[.agg #[.int .i64 3, .int .i64 a, .int .i64 b], .int .i64 n] w fun e w' => e = .returned (.bool (okStep n (3, a, b))) ∧ Below w.heap.size w w' := by
 have hs := hid (show okStep n (3, a, b) = (isReg a && decide (b = 0)) by simp [okStep])
 cases h1 : isReg a
 ·have H1 := hid h1
  clear h1
  go_enter Try.func116, Try.ntmps116
  go_wp2_with fail
  refine (isRegister_any a _).mono ?_
  rintro e w1 ⟨rfl, rfl⟩
  rw [H1.out]
  go_wp2_with fail
  go_ret
  exact ⟨by rw [hs.out, H1.out]; rfl, (Below.refl _ _).alloc (Nat.le_refl _) _⟩
 ·have H1 := hid h1
  clear h1
  by_cases hb : b = 0
  ·subst hb
   go_enter Try.func116, Try.ntmps116
   go_wp2_with fail
   refine (isRegister_any a _).mono ?_
   rintro e w1 ⟨rfl, rfl⟩
   rw [H1.out]
   go_wp2_with fail
   go_ret
   exact ⟨by rw [hs.out, H1.out]; rfl, (Below.refl _ _).alloc (Nat.le_refl _) _⟩
  ·have hb1 : (b == 0) = false := by simpa using hb
   have D1 := hid (show decide (b = 0) = false by simpa using hb)
   clear hb
   go_enter Try.func116, Try.ntmps116
   go_wp2_with fail
   refine (isRegister_any a _).mono ?_
   rintro e w1 ⟨rfl, rfl⟩
   rw [H1.out]
   go_wp2_with fail
   go_ret
   exact ⟨by rw [hs.out, H1.out, D1.out]; rfl, (Below.refl _ _).alloc (Nat.le_refl _) _⟩
set_option maxRecDepth 100000 in
theorem isStep_6 (a b : Int) (n : Nat) (hn : n ≤ 9223372036854775807) (w : World) :
  Calls Try.prog 116 #[.agg #[.int .i64 6, .int .i64 a, .int .i64 b], .int .i64 n] w fun e w' => e = .returned (.bool (okStep n (6, a, b))) ∧ Below w.heap.size w w' := by
 have hs := hid (show okStep n (6, a, b) = (isReg a && decide (b = 0)) by simp [okStep])
 cases h1 : isReg a
 ·have H1 := hid h1
  clear h1
  go_enter Try.func116, Try.ntmps116
  go_wp2_with fail
  refine (isRegister_any a _).mono ?_
  rintro e w1 ⟨rfl, rfl⟩
  rw [H1.out]
  go_wp2_with fail
  go_ret
  exact ⟨by rw [hs.out, H1.out]; rfl, (Below.refl _ _).alloc (Nat.le_refl _) _⟩
 ·have H1 := hid h1
  clear h1
  by_cases hb : b = 0
  ·subst hb
   go_enter Try.func116, Try.ntmps116
   go_wp2_with fail
   refine (isRegister_any a _).mono ?_
   rintro e w1 ⟨rfl, rfl⟩
   rw [H1.out]
   go_wp2_with fail
   go_ret
   exact ⟨by rw [hs.out, H1.out]; rfl, (Below.refl _ _).alloc (Nat.le_refl _) _⟩
  ·have hb1 : (b == 0) = false := by simpa using hb
   have D1 := hid (show decide (b = 0) = false by simpa using hb)
   clear hb
   go_enter Try.func116, Try.ntmps116
   go_wp2_with fail
   refine (isRegister_any a _).mono ?_
   rintro e w1 ⟨rfl, rfl⟩
   rw [H1.out]
   go_wp2_with fail
   go_ret
   exact ⟨by rw [hs.out, H1.out, D1.out]; rfl, (Below.refl _ _).alloc (Nat.le_refl _) _⟩
set_option maxRecDepth 100000 in
theorem isStep_7 (a b : Int) (n : Nat) (hn : n ≤ 9223372036854775807) (w : World) :
  Calls Try.prog 116 #[.agg #[.int .i64 7, .int .i64 a, .int .i64 b], .int .i64 n] w fun e w' => e = .returned (.bool (okStep n (7, a, b))) ∧ Below w.heap.size w w' := by
 have hs := hid (show okStep n (7, a, b) = (isReg a && decide (b = 0)) by simp [okStep])
 cases h1 : isReg a
 ·have H1 := hid h1
  clear h1
  go_enter Try.func116, Try.ntmps116
  go_wp2_with fail
  refine (isRegister_any a _).mono ?_
  rintro e w1 ⟨rfl, rfl⟩
  rw [H1.out]
  go_wp2_with fail
  go_ret
  exact ⟨by rw [hs.out, H1.out]; rfl, (Below.refl _ _).alloc (Nat.le_refl _) _⟩
 ·have H1 := hid h1
  clear h1
  by_cases hb : b = 0
  ·subst hb
   go_enter Try.func116, Try.ntmps116
   go_wp2_with fail
   refine (isRegister_any a _).mono ?_
   rintro e w1 ⟨rfl, rfl⟩
   rw [H1.out]
   go_wp2_with fail
   go_ret
   exact ⟨by rw [hs.out, H1.out]; rfl, (Below.refl _ _).alloc (Nat.le_refl _) _⟩
  ·have hb1 : (b == 0) = false := by simpa using hb
   have D1 := hid (show decide (b = 0) = false by simpa using hb)
   clear hb
   go_enter Try.func116, Try.ntmps116
   go_wp2_with fail
   refine (isRegister_any a _).mono ?_
   rintro e w1 ⟨rfl, rfl⟩
   rw [H1.out]
   go_wp2_with fail
   go_ret
   exact ⟨by rw [hs.out, H1.out, D1.out]; rfl, (Below.refl _ _).alloc (Nat.le_refl _) _⟩
set_option maxRecDepth 100000 in
theorem isStep_8 (a b : Int) (n : Nat) (hn : n ≤ 9223372036854775807) (w : World) :
  Calls Try.prog 116 #[.agg #[.int .i64 8, .int .i64 a, .int .i64 b], .int .i64 n] w fun e w' => e = .returned (.bool (okStep n (8, a, b))) ∧ Below w.heap.size w w' := by
 have hs := hid (show okStep n (8, a, b) = (isReg a && decide (b = 0)) by simp [okStep])
 cases h1 : isReg a
 ·have H1 := hid h1
  clear h1
  go_enter Try.func116, Try.ntmps116
  go_wp2_with fail
  refine (isRegister_any a _).mono ?_
  rintro e w1 ⟨rfl, rfl⟩
  rw [H1.out]
  go_wp2_with fail
  go_ret
  exact ⟨by rw [hs.out, H1.out]; rfl, (Below.refl _ _).alloc (Nat.le_refl _) _⟩
 ·have H1 := hid h1
  clear h1
  by_cases hb : b = 0
  ·subst hb
   go_enter Try.func116, Try.ntmps116
   go_wp2_with fail
   refine (isRegister_any a _).mono ?_
   rintro e w1 ⟨rfl, rfl⟩
   rw [H1.out]
   go_wp2_with fail
   go_ret
   exact ⟨by rw [hs.out, H1.out]; rfl, (Below.refl _ _).alloc (Nat.le_refl _) _⟩
  ·have hb1 : (b == 0) = false := by simpa using hb
   have D1 := hid (show decide (b = 0) = false by simpa using hb)
   clear hb
   go_enter Try.func116, Try.ntmps116
   go_wp2_with fail
   refine (isRegister_any a _).mono ?_
   rintro e w1 ⟨rfl, rfl⟩
   rw [H1.out]
   go_wp2_with fail
   go_ret
   exact ⟨by rw [hs.out, H1.out, D1.out]; rfl, (Below.refl _ _).alloc (Nat.le_refl _) _⟩
set_option maxRecDepth 100000 in
theorem isStep_9 (a b : Int) (n : Nat) (hn : n ≤ 9223372036854775807) (w : World) :
  Calls Try.prog 116 #[.agg #[.int .i64 9, .int .i64 a, .int .i64 b], .int .i64 n] w fun e w' => e = .returned (.bool (okStep n (9, a, b))) ∧ Below w.heap.size w w' := by
 have hs := hid (show okStep n (9, a, b) = (isReg a && decide (b = 0)) by simp [okStep])
 cases h1 : isReg a
 ·have H1 := hid h1
  clear h1
  go_enter Try.func116, Try.ntmps116
  go_wp2_with fail
  refine (isRegister_any a _).mono ?_
  rintro e w1 ⟨rfl, rfl⟩
  rw [H1.out]
  go_wp2_with fail
  go_ret
  exact ⟨by rw [hs.out, H1.out]; rfl, (Below.refl _ _).alloc (Nat.le_refl _) _⟩
 ·have H1 := hid h1
  clear h1
  by_cases hb : b = 0
  ·subst hb
   go_enter Try.func116, Try.ntmps116
   go_wp2_with fail
   refine (isRegister_any a _).mono ?_
   rintro e w1 ⟨rfl, rfl⟩
   rw [H1.out]
   go_wp2_with fail
   go_ret
   exact ⟨by rw [hs.out, H1.out]; rfl, (Below.refl _ _).alloc (Nat.le_refl _) _⟩
  ·have hb1 : (b == 0) = false := by simpa using hb
   have D1 := hid (show decide (b = 0) = false by simpa using hb)
   clear hb
   go_enter Try.func116, Try.ntmps116
   go_wp2_with fail
   refine (isRegister_any a _).mono ?_
   rintro e w1 ⟨rfl, rfl⟩
   rw [H1.out]
   go_wp2_with fail
   go_ret
   exact ⟨by rw [hs.out, H1.out, D1.out]; rfl, (Below.refl _ _).alloc (Nat.le_refl _) _⟩
set_option maxRecDepth 100000 in
theorem isStep_12 (a b : Int) (n : Nat) (hn : n ≤ 9223372036854775807) (w : World) :
  Calls Try.prog 116 #[.agg #[.int .i64 12, .int .i64 a, .int .i64 b], .int .i64 n] w fun e w' => e = .returned (.bool (okStep n (12, a, b))) ∧ Below w.heap.size w w' := by
 have hs := hid (show okStep n (12, a, b) = (isReg a && decide (b = 0)) by simp [okStep])
 cases h1 : isReg a
 ·have H1 := hid h1
  clear h1
  go_enter Try.func116, Try.ntmps116
  go_wp2_with fail
  refine (isRegister_any a _).mono ?_
  rintro e w1 ⟨rfl, rfl⟩
  rw [H1.out]
  go_wp2_with fail
  go_ret
  exact ⟨by rw [hs.out, H1.out]; rfl, (Below.refl _ _).alloc (Nat.le_refl _) _⟩
 ·have H1 := hid h1
  clear h1
  by_cases hb : b = 0
  ·subst hb
   go_enter Try.func116, Try.ntmps116
   go_wp2_with fail
   refine (isRegister_any a _).mono ?_
   rintro e w1 ⟨rfl, rfl⟩
   rw [H1.out]
   go_wp2_with fail
   go_ret
   exact ⟨by rw [hs.out, H1.out]; rfl, (Below.refl _ _).alloc (Nat.le_refl _) _⟩
  ·have hb1 : (b == 0) = false := by simpa using hb
   have D1 := hid (show decide (b = 0) = false by simpa using hb)
   clear hb
   go_enter Try.func116, Try.ntmps116
   go_wp2_with fail
   refine (isRegister_any a _).mono ?_
   rintro e w1 ⟨rfl, rfl⟩
   rw [H1.out]
   go_wp2_with fail
   go_ret
   exact ⟨by rw [hs.out, H1.out, D1.out]; rfl, (Below.refl _ _).alloc (Nat.le_refl _) _⟩
set_option maxRecDepth 100000 in
theorem isStep_13 (a b : Int) (n : Nat) (hn : n ≤ 9223372036854775807) (w : World) :
  Calls Try.prog 116 #[.agg #[.int .i64 13, .int .i64 a, .int .i64 b], .int .i64 n] w fun e w' => e = .returned (.bool (okStep n (13, a, b))) ∧ Below w.heap.size w w' := by
 have hs := hid (show okStep n (13, a, b) = (isReg a && decide (b = 0)) by simp [okStep])
 cases h1 : isReg a
 ·have H1 := hid h1
  clear h1
  go_enter Try.func116, Try.ntmps116
  go_wp2_with fail
  refine (isRegister_any a _).mono ?_
  rintro e w1 ⟨rfl, rfl⟩
  rw [H1.out]
  go_wp2_with fail
  go_ret
  exact ⟨by rw [hs.out, H1.out]; rfl, (Below.refl _ _).alloc (Nat.le_refl _) _⟩
 ·have H1 := hid h1
  clear h1
  by_cases hb : b = 0
  ·subst hb
   go_enter Try.func116, Try.ntmps116
   go_wp2_with fail
   refine (isRegister_any a _).mono ?_
   rintro e w1 ⟨rfl, rfl⟩
   rw [H1.out]
   go_wp2_with fail
   go_ret
   exact ⟨by rw [hs.out, H1.out]; rfl, (Below.refl _ _).alloc (Nat.le_refl _) _⟩
  ·have hb1 : (b == 0) = false := by simpa using hb
   have D1 := hid (show decide (b = 0) = false by simpa using hb)
   clear hb
   go_enter Try.func116, Try.ntmps116
   go_wp2_with fail
   refine (isRegister_any a _).mono ?_
   rintro e w1 ⟨rfl, rfl⟩
   rw [H1.out]
   go_wp2_with fail
   go_ret
   exact ⟨by rw [hs.out, H1.out, D1.out]; rfl, (Below.refl _ _).alloc (Nat.le_refl _) _⟩
set_option maxRecDepth 100000 in
theorem isStep_10 (a b : Int) (n : Nat) (hn : n ≤ 9223372036854775807) (w : World) :
  Calls Try.prog 116 #[.agg #[.int .i64 10, .int .i64 a, .int .i64 b], .int .i64 n] w fun e w' => e = .returned (.bool (okStep n (10, a, b))) ∧ Below w.heap.size w w' := by
 have hs := hid (show okStep n (10, a, b) = (decide (a = 0) && decide (b = 0)) by simp [okStep])
 by_cases ha : a = 0
 ·subst ha
  by_cases hb : b = 0
  ·subst hb
   go_enter Try.func116, Try.ntmps116
   go_wp2_with fail
   go_ret
   exact ⟨by rw [hs.out]; rfl, (Below.refl _ _).alloc (Nat.le_refl _) _⟩
  ·have hb1 : (b == 0) = false := by simpa using hb
   have D1 := hid (show decide (b = 0) = false by simpa using hb)
   clear hb
   go_enter Try.func116, Try.ntmps116
   go_wp2_with fail
   go_ret
   exact ⟨by rw [hs.out, D1.out]; rfl, (Below.refl _ _).alloc (Nat.le_refl _) _⟩
 ·have ha1 : (a == 0) = false := by simpa using ha
  have D1 := hid (show decide (a = 0) = false by simpa using ha)
  clear ha
  go_enter Try.func116, Try.ntmps116
  go_wp2_with fail
  go_ret
  exact ⟨by rw [hs.out, D1.out]; rfl, (Below.refl _ _).alloc (Nat.le_refl _) _⟩
set_option maxRecDepth 100000 in
theorem isStep_4 (a b : Int) (n : Nat) (hn : n ≤ 9223372036854775807) (w : World) :
  Calls Try.prog 116 #[.agg #[.int .i64 4, .int .i64 a, .int .i64 b], .int .i64 n] w fun e w' => e = .returned (.bool (okStep n (4, a, b))) ∧ Below w.heap.size w w' := by
 have hs := hid (show okStep n (4, a, b) = (decide (0 ≤ a) && decide (a < (n : Int)) && isReg b) by simp [okStep])
 by_cases h0 : 0 ≤ a
 ·have D0 := hid (show decide (0 ≤ a) = true by simpa using h0)
  by_cases h1 : a < (n : Int)
  ·have D1 := hid (show decide (a < (n : Int)) = true by simpa using h1)
   go_enter Try.func116, Try.ntmps116
   go_wp2_with fail
   refine (isRegister_any b _).mono ?_
   rintro e w1 ⟨rfl, rfl⟩
   go_wp2_with fail
   go_ret
   exact ⟨by rw [hs.out, D0.out, D1.out]; rfl, (Below.refl _ _).alloc (Nat.le_refl _) _⟩
  ·have D1 := hid (show decide (a < (n : Int)) = false by simpa using h1)
   go_enter Try.func116, Try.ntmps116
   go_wp2_with fail
   go_ret
   exact ⟨by rw [hs.out, D0.out, D1.out]; rfl, (Below.refl _ _).alloc (Nat.le_refl _) _⟩
 ·have D0 := hid (show decide (0 ≤ a) = false by simpa using h0)
  go_enter Try.func116, Try.ntmps116
  go_wp2_with fail
  go_ret
  exact ⟨by rw [hs.out, D0.out]; rfl, (Below.refl _ _).alloc (Nat.le_refl _) _⟩
set_option maxRecDepth 100000 in
theorem isStep_5 (a b : Int) (n : Nat) (hn : n ≤ 9223372036854775807) (w : World) :
  Calls Try.prog 116 #[.agg #[.int .i64 5, .int .i64 a, .int .i64 b], .int .i64 n] w fun e w' => e = .returned (.bool (okStep n (5, a, b))) ∧ Below w.heap.size w w' := by
 have hs := hid (show okStep n (5, a, b) = (decide (0 ≤ a) && decide (a < (n : Int)) && isReg b) by simp [okStep])
 by_cases h0 : 0 ≤ a
 ·have D0 := hid (show decide (0 ≤ a) = true by simpa using h0)
  by_cases h1 : a < (n : Int)
  ·have D1 := hid (show decide (a < (n : Int)) = true by simpa using h1)
   go_enter Try.func116, Try.ntmps116
   go_wp2_with fail
   refine (isRegister_any b _).mono ?_
   rintro e w1 ⟨rfl, rfl⟩
   go_wp2_with fail
   go_ret
   exact ⟨by rw [hs.out, D0.out, D1.out]; rfl, (Below.refl _ _).alloc (Nat.le_refl _) _⟩
  ·have D1 := hid (show decide (a < (n : Int)) = false by simpa using h1)
   go_enter Try.func116, Try.ntmps116
   go_wp2_with fail
   go_ret
   exact ⟨by rw [hs.out, D0.out, D1.out]; rfl, (Below.refl _ _).alloc (Nat.le_refl _) _⟩
 ·have D0 := hid (show decide (0 ≤ a) = false by simpa using h0)
  go_enter Try.func116, Try.ntmps116
  go_wp2_with fail
  go_ret
  exact ⟨by rw [hs.out, D0.out]; rfl, (Below.refl _ _).alloc (Nat.le_refl _) _⟩
set_option maxRecDepth 100000 in
theorem isStep_11 (a b : Int) (n : Nat) (hn : n ≤ 9223372036854775807) (w : World) :
  Calls Try.prog 116 #[.agg #[.int .i64 11, .int .i64 a, .int .i64 b], .int .i64 n] w fun e w' => e = .returned (.bool (okStep n (11, a, b))) ∧ Below w.heap.size w w' := by
 have hs := hid (show okStep n (11, a, b) = (decide (0 ≤ a) && decide (a ≤ 8) && isReg b) by simp [okStep])
 by_cases h0 : 0 ≤ a
 ·have D0 := hid (show decide (0 ≤ a) = true by simpa using h0)
  by_cases h1 : a ≤ 8
  ·have D1 := hid (show decide (a ≤ 8) = true by simpa using h1)
   go_enter Try.func116, Try.ntmps116
   go_wp2_with fail
   refine (isRegister_any b _).mono ?_
   rintro e w1 ⟨rfl, rfl⟩
   go_wp2_with fail
   go_ret
   exact ⟨by rw [hs.out, D0.out, D1.out]; rfl, (Below.refl _ _).alloc (Nat.le_refl _) _⟩
  ·have D1 := hid (show decide (a ≤ 8) = false by simpa using h1)
   go_enter Try.func116, Try.ntmps116
   go_wp2_with fail
   go_ret
   exact ⟨by rw [hs.out, D0.out, D1.out]; rfl, (Below.refl _ _).alloc (Nat.le_refl _) _⟩
 ·have D0 := hid (show decide (0 ≤ a) = false by simpa using h0)
  go_enter Try.func116, Try.ntmps116
  go_wp2_with fail
  go_ret
  exact ⟨by rw [hs.out, D0.out]; rfl, (Below.refl _ _).alloc (Nat.le_refl _) _⟩
set_option maxRecDepth 100000 in
theorem isStep_no (k : Int) (hk : ¬ (1 ≤ k ∧ k ≤ 13)) (a b : Int) (n : Nat) (hn : n ≤ 9223372036854775807) (w : World) :
  Calls Try.prog 116 #[.agg #[.int .i64 k, .int .i64 a, .int .i64 b], .int .i64 n] w fun e w' => e = .returned (.bool (okStep n (k, a, b))) ∧ Below w.heap.size w w' := by
 have hs := hid (show okStep n (k, a, b) = false by unfold okStep; simp only [show ¬ k = 1 by omega, show ¬ k = 2 by omega, show ¬ (k = 4 ∨ k = 5) by omega, show ¬ k = 11 by omega, show ¬ k = 10 by omega, show ¬ (k = 3 ∨ k = 6 ∨ k = 7 ∨ k = 8 ∨ k = 9 ∨ k = 12 ∨ k = 13) by omega, if_false])
 have n1 : (k == 1) = false := by simp; omega
 have n2 : (k == 2) = false := by simp; omega
 have n3 : (k == 3) = false := by simp; omega
 have n4 : (k == 4) = false := by simp; omega
 have n5 : (k == 5) = false := by simp; omega
 have n6 : (k == 6) = false := by simp; omega
 have n7 : (k == 7) = false := by simp; omega
 have n8 : (k == 8) = false := by simp; omega
 have n9 : (k == 9) = false := by simp; omega
 have n10 : (k == 10) = false := by simp; omega
 have n11 : (k == 11) = false := by simp; omega
 have n12 : (k == 12) = false := by simp; omega
 have n13 : (k == 13) = false := by simp; omega
 clear hk
 go_enter Try.func116, Try.ntmps116
 go_wp2_with fail
 go_ret
 exact ⟨by rw [hs.out]; rfl, (Below.refl _ _).alloc (Nat.le_refl _) _⟩
theorem isStep_any (k : Int) (a b : Int) (n : Nat) (hn : n ≤ 9223372036854775807) (w : World) :
  Calls Try.prog 116 #[.agg #[.int .i64 k, .int .i64 a, .int .i64 b], .int .i64 n] w fun e w' => e = .returned (.bool (okStep n (k, a, b))) ∧ Below w.heap.size w w' := by
 by_cases hk : 1 ≤ k ∧ k ≤ 13
 ·have h : k = 1 ∨ k = 2 ∨ k = 3 ∨ k = 4 ∨ k = 5 ∨ k = 6 ∨ k = 7 ∨ k = 8 ∨ k = 9 ∨ k = 10 ∨ k = 11 ∨ k = 12 ∨ k = 13 := by omega
  rcases h with rfl | rfl | rfl | rfl | rfl | rfl | rfl | rfl | rfl | rfl | rfl | rfl | rfl
  ·exact isStep_1 a b n hn w
  ·exact isStep_2 a b n hn w
  ·exact isStep_3 a b n hn w
  ·exact isStep_4 a b n hn w
  ·exact isStep_5 a b n hn w
  ·exact isStep_6 a b n hn w
  ·exact isStep_7 a b n hn w
  ·exact isStep_8 a b n hn w
  ·exact isStep_9 a b n hn w
  ·exact isStep_10 a b n hn w
  ·exact isStep_11 a b n hn w
  ·exact isStep_12 a b n hn w
  ·exact isStep_13 a b n hn w
 ·exact isStep_no k hk a b n hn w
end Go.Proofs.Ytdmcgkcpclepfaa.Stp
-- squeezed
