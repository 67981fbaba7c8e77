import Derived.Test.YthejnpignlhgiaaM1
set_option linter.all false
namespace Go.Proofs.Ythejnpignlhgiaa.Stp
open Lib (hid)
open Go.ChangeShapes Go.WideShapes Go.ChangeAt Go.RowKit
open PL Mem To
theorem isRegister_any (r : Int) (w : World) : Calls Try.prog 122 #[.int .i64 r] w fun e w' => e = .returned (.bool (isReg r)) ∧ w = w' := by
 by_cases h1 : 0 ≤ r
 ·by_cases h2 : r < 4
  ·have hs := hid (show isReg r = true by unfold isReg; simp; omega)
   go_enter Try.func122, Try.ntmps122
   go_wp2
   go_ret
   exact ⟨by rw [hs.out]; rfl, rfl⟩
  ·have hs := hid (show isReg r = false by unfold isReg; simp; omega)
   go_enter Try.func122, Try.ntmps122
   go_wp2
   go_ret
   exact ⟨by rw [hs.out]; rfl, rfl⟩
 ·have hs := hid (show isReg r = false by unfold isReg; simp; omega)
  go_enter Try.func122, Try.ntmps122
  go_wp2
  go_ret
  exact ⟨by rw [hs.out]; rfl, rfl⟩
theorem isNumber_any (r : Int) (w : World) : Calls Try.prog 81 #[.int .i64 r] w fun e w' => e = .returned (.bool (isNum r)) ∧ w = w' := by
 by_cases h1 : -32768 ≤ r
 ·by_cases h2 : r ≤ 32767
  ·have hs := hid (show isNum r = true by unfold isNum; simp; omega)
   go_enter Try.func81, Try.ntmps81
   go_wp2
   go_ret
   exact ⟨by rw [hs.out]; rfl, rfl⟩
  ·have hs := hid (show isNum r = false by unfold isNum; simp; omega)
   go_enter Try.func81, Try.ntmps81
   go_wp2
   go_ret
   exact ⟨by rw [hs.out]; rfl, rfl⟩
 ·have hs := hid (show isNum r = false by unfold isNum; simp; omega)
  go_enter Try.func81, Try.ntmps81
  go_wp2
  go_ret
  exact ⟨by rw [hs.out]; rfl, rfl⟩
set_option maxRecDepth 100000 in
theorem isStep_1 (a b : Int) (n : Nat) (hn : n ≤ 9223372036854775807) (w : World) :
  Calls Try.prog 101 #[.agg #[.int .i64 1, .int .i64 a, .int .i64 b], .int .i64 n] w fun e w' => e = .returned (.bool (okStep n (1, a, b))) ∧ Below w.heap.size w w' := by
 have hs := hid (show okStep n (1, a, b) = (isReg a && isNum b) by simp [okStep])
 cases h1 : isReg a
 ·have H1 := hid h1
  clear h1
  go_enter Try.func101, Try.ntmps101
  go_wp2_with fail
  refine (isRegister_any a _).mono ?_
  rintro e w1 ⟨rfl, rfl⟩
  rw [H1.out]
  go_wp2_with fail
  go_ret
  exact ⟨by rw [hs.out, H1.out]; rfl, (Below.refl _ _).alloc (Nat.le_refl _) _⟩
 ·have H1 := hid h1
  clear h1
  go_enter Try.func101, Try.ntmps101
  go_wp2_with fail
  refine (isRegister_any a _).mono ?_
  rintro e w1 ⟨rfl, rfl⟩
  rw [H1.out]
  go_wp2_with fail
  refine (isNumber_any b _).mono ?_
  rintro e w1 ⟨rfl, rfl⟩
  go_wp2_with fail
  go_ret
  exact ⟨by rw [hs.out, H1.out]; rfl, (Below.refl _ _).alloc (Nat.le_refl _) _⟩
set_option maxRecDepth 100000 in
theorem isStep_2 (a b : Int) (n : Nat) (hn : n ≤ 9223372036854775807) (w : World) :
  Calls Try.prog 101 #[.agg #[.int .i64 2, .int .i64 a, .int .i64 b], .int .i64 n] w fun e w' => e = .returned (.bool (okStep n (2, a, b))) ∧ Below w.heap.size w w' := by
 have hs := hid (show okStep n (2, a, b) = (isReg a && isReg b) by simp [okStep])
 cases h1 : isReg a
 ·have H1 := hid h1
  clear h1
  go_enter Try.func101, Try.ntmps101
  go_wp2_with fail
  refine (isRegister_any a _).mono ?_
  rintro e w1 ⟨rfl, rfl⟩
  rw [H1.out]
  go_wp2_with fail
  go_ret
  exact ⟨by rw [hs.out, H1.out]; rfl, (Below.refl _ _).alloc (Nat.le_refl _) _⟩
 ·have H1 := hid h1
  clear h1
  go_enter Try.func101, Try.ntmps101
  go_wp2_with fail
  refine (isRegister_any a _).mono ?_
  rintro e w1 ⟨rfl, rfl⟩
  rw [H1.out]
  go_wp2_with fail
  refine (isRegister_any b _).mono ?_
  rintro e w1 ⟨rfl, rfl⟩
  go_wp2_with fail
  go_ret
  exact ⟨by rw [hs.out, H1.out]; rfl, (Below.refl _ _).alloc (Nat.le_refl _) _⟩
set_option maxRecDepth 100000 in
theorem isStep_3 (a b : Int) (n : Nat) (hn : n ≤ 9223372036854775807) (w : World) :
  Calls Try.prog 101 #[.agg #[.int .i64 3, .int .i64 a, .int .i64 b], .int .i64 n] w fun e w' => e = .returned (.bool (okStep n (3, a, b))) ∧ Below w.heap.size w w' := by
 have hs := hid (show okStep n (3, a, b) = (isReg a && decide (b = 0)) by simp [okStep])
 cases h1 : isReg a
 ·have H1 := hid h1
  clear h1
  go_enter Try.func101, Try.ntmps101
  go_wp2_with fail
  refine (isRegister_any a _).mono ?_
  rintro e w1 ⟨rfl, rfl⟩
  rw [H1.out]
  go_wp2_with fail
  go_ret
  exact ⟨by rw [hs.out, H1.out]; rfl, (Below.refl _ _).alloc (Nat.le_refl _) _⟩
 ·have H1 := hid h1
  clear h1
  by_cases hb : b = 0
  ·subst hb
   go_enter Try.func101, Try.ntmps101
   go_wp2_with fail
   refine (isRegister_any a _).mono ?_
   rintro e w1 ⟨rfl, rfl⟩
   rw [H1.out]
   go_wp2_with fail
   go_ret
   exact ⟨by rw [hs.out, H1.out]; rfl, (Below.refl _ _).alloc (Nat.le_refl _) _⟩
  ·have hb1 : (b == 0) = false := by simpa using hb
   have D1 := hid (show decide (b = 0) = false by simpa using hb)
   clear hb
   go_enter Try.func101, Try.ntmps101
   go_wp2_with fail
   refine (isRegister_any a _).mono ?_
   rintro e w1 ⟨rfl, rfl⟩
   rw [H1.out]
   go_wp2_with fail
   go_ret
   exact ⟨by rw [hs.out, H1.out, D1.out]; rfl, (Below.refl _ _).alloc (Nat.le_refl _) _⟩
set_option maxRecDepth 100000 in
theorem isStep_6 (a b : Int) (n : Nat) (hn : n ≤ 9223372036854775807) (w : World) :
  Calls Try.prog 101 #[.agg #[.int .i64 6, .int .i64 a, .int .i64 b], .int .i64 n] w fun e w' => e = .returned (.bool (okStep n (6, a, b))) ∧ Below w.heap.size w w' := by
 have hs := hid (show okStep n (6, a, b) = (isReg a && decide (b = 0)) by simp [okStep])
 cases h1 : isReg a
 ·have H1 := hid h1
  clear h1
  go_enter Try.func101, Try.ntmps101
  go_wp2_with fail
  refine (isRegister_any a _).mono ?_
  rintro e w1 ⟨rfl, rfl⟩
  rw [H1.out]
  go_wp2_with fail
  go_ret
  exact ⟨by rw [hs.out, H1.out]; rfl, (Below.refl _ _).alloc (Nat.le_refl _) _⟩
 ·have H1 := hid h1
  clear h1
  by_cases hb : b = 0
  ·subst hb
   go_enter Try.func101, Try.ntmps101
   go_wp2_with fail
   refine (isRegister_any a _).mono ?_
   rintro e w1 ⟨rfl, rfl⟩
   rw [H1.out]
   go_wp2_with fail
   go_ret
   exact ⟨by rw [hs.out, H1.out]; rfl, (Below.refl _ _).alloc (Nat.le_refl _) _⟩
  ·have hb1 : (b == 0) = false := by simpa using hb
   have D1 := hid (show decide (b = 0) = false by simpa using hb)
   clear hb
   go_enter Try.func101, Try.ntmps101
   go_wp2_with fail
   refine (isRegister_any a _).mono ?_
   rintro e w1 ⟨rfl, rfl⟩
   rw [H1.out]
   go_wp2_with fail
   go_ret
   exact ⟨by rw [hs.out, H1.out, D1.out]; rfl, (Below.refl _ _).alloc (Nat.le_refl _) _⟩
set_option maxRecDepth 100000 in
theorem isStep_7 (a b : Int) (n : Nat) (hn : n ≤ 9223372036854775807) (w : World) :
  Calls Try.prog 101 #[.agg #[.int .i64 7, .int .i64 a, .int .i64 b], .int .i64 n] w fun e w' => e = .returned (.bool (okStep n (7, a, b))) ∧ Below w.heap.size w w' := by
 have hs := hid (show okStep n (7, a, b) = (isReg a && decide (b = 0)) by simp [okStep])
 cases h1 : isReg a
 ·have H1 := hid h1
  clear h1
  go_enter Try.func101, Try.ntmps101
  go_wp2_with fail
  refine (isRegister_any a _).mono ?_
  rintro e w1 ⟨rfl, rfl⟩
  rw [H1.out]
  go_wp2_with fail
  go_ret
  exact ⟨by rw [hs.out, H1.out]; rfl, (Below.refl _ _).alloc (Nat.le_refl _) _⟩
 ·have H1 := hid h1
  clear h1
  by_cases hb : b = 0
  ·subst hb
   go_enter Try.func101, Try.ntmps101
   go_wp2_with fail
   refine (isRegister_any a _).mono ?_
   rintro e w1 ⟨rfl, rfl⟩
   rw [H1.out]
   go_wp2_with fail
   go_ret
   exact ⟨by rw [hs.out, H1.out]; rfl, (Below.refl _ _).alloc (Nat.le_refl _) _⟩
  ·have hb1 : (b == 0) = false := by simpa using hb
   have D1 := hid (show decide (b = 0) = false by simpa using hb)
   clear hb
   go_enter Try.func101, Try.ntmps101
   go_wp2_with fail
   refine (isRegister_any a _).mono ?_
   rintro e w1 ⟨rfl, rfl⟩
   rw [H1.out]
   go_wp2_with fail
   go_ret
   exact ⟨by rw [hs.out, H1.out, D1.out]; rfl, (Below.refl _ _).alloc (Nat.le_refl _) _⟩
set_option maxRecDepth 100000 in
theorem isStep_8 (a b : Int) (n : Nat) (hn : n ≤ 9223372036854775807) (w : World) :
  Calls Try.prog 101 #[.agg #[.int .i64 8, .int .i64 a, .int .i64 b], .int .i64 n] w fun e w' => e = .returned (.bool (okStep n (8, a, b))) ∧ Below w.heap.size w w' := by
 have hs := hid (show okStep n (8, a, b) = (isReg a && decide (b = 0)) by simp [okStep])
 cases h1 : isReg a
 ·have H1 := hid h1
  clear h1
  go_enter Try.func101, Try.ntmps101
  go_wp2_with fail
  refine (isRegister_any a _).mono ?_
  rintro e w1 ⟨rfl, rfl⟩
  rw [H1.out]
  go_wp2_with fail
  go_ret
  exact ⟨by rw [hs.out, H1.out]; rfl, (Below.refl _ _).alloc (Nat.le_refl _) _⟩
 ·have H1 := hid h1
  clear h1
  by_cases hb : b = 0
  ·subst hb
   go_enter Try.func101, Try.ntmps101
   go_wp2_with fail
   refine (isRegister_any a _).mono ?_
   rintro e w1 ⟨rfl, rfl⟩
   rw [H1.out]
   go_wp2_with fail
   go_ret
   exact ⟨by rw [hs.out, H1.out]; rfl, (Below.refl _ _).alloc (Nat.le_refl _) _⟩
  ·have hb1 : (b == 0) = false := by simpa using hb
   have D1 := hid (show decide (b = 0) = false by simpa using hb)
   clear hb
   go_enter Try.func101, Try.ntmps101
   go_wp2_with fail
   refine (isRegister_any a _).mono ?_
   rintro e w1 ⟨rfl, rfl⟩
   rw [H1.out]
   go_wp2_with fail
   go_ret
   exact ⟨by rw [hs.out, H1.out, D1.out]; rfl, (Below.refl _ _).alloc (Nat.le_refl _) _⟩
set_option maxRecDepth 100000 in
theorem isStep_9 (a b : Int) (n : Nat) (hn : n ≤ 9223372036854775807) (w : World) :
  Calls Try.prog 101 #[.agg #[.int .i64 9, .int .i64 a, .int .i64 b], .int .i64 n] w fun e w' => e = .returned (.bool (okStep n (9, a, b))) ∧ Below w.heap.size w w' := by
 have hs := hid (show okStep n (9, a, b) = (isReg a && decide (b = 0)) by simp [okStep])
 cases h1 : isReg a
 ·have H1 := hid h1
  clear h1
  go_enter Try.func101, Try.ntmps101
  go_wp2_with fail
  refine (isRegister_any a _).mono ?_
  rintro e w1 ⟨rfl, rfl⟩
  rw [H1.out]
  go_wp2_with fail
  go_ret
  exact ⟨by rw [hs.out, H1.out]; rfl, (Below.refl _ _).alloc (Nat.le_refl _) _⟩
 ·have H1 := hid h1
  clear h1
  by_cases hb : b = 0
  ·subst hb
   go_enter Try.func101, Try.ntmps101
   go_wp2_with fail
   refine (isRegister_any a _).mono ?_
   rintro e w1 ⟨rfl, rfl⟩
   rw [H1.out]
   go_wp2_with fail
   go_ret
   exact ⟨by rw [hs.out, H1.out]; rfl, (Below.refl _ _).alloc (Nat.le_refl _) _⟩
  ·have hb1 : (b == 0) = false := by simpa using hb
   have D1 := hid (show decide (b = 0) = false by simpa using hb)
   clear hb
   go_enter Try.func101, Try.ntmps101
   go_wp2_with fail
   refine (isRegister_any a _).mono ?_
   rintro e w1 ⟨rfl, rfl⟩
   rw [H1.out]
   go_wp2_with fail
   go_ret
   exact ⟨by rw [hs.out, H1.out, D1.out]; rfl, (Below.refl _ _).alloc (Nat.le_refl _) _⟩
set_option maxRecDepth 100000 in
theorem isStep_12 (a b : Int) (n : Nat) (hn : n ≤ 9223372036854775807) (w : World) :
  Calls Try.prog 101 #[.agg #[.int .i64 12, .int .i64 a, .int .i64 b], .int .i64 n] w fun e w' => e = .returned (.bool (okStep n (12, a, b))) ∧ Below w.heap.size w w' := by
 have hs := hid (show okStep n (12, a, b) = (isReg a && decide (b = 0)) by simp [okStep])
 cases h1 : isReg a
 ·have H1 := hid h1
  clear h1
  go_enter Try.func101, Try.ntmps101
  go_wp2_with fail
  refine (isRegister_any a _).mono ?_
  rintro e w1 ⟨rfl, rfl⟩
  rw [H1.out]
  go_wp2_with fail
  go_ret
  exact ⟨by rw [hs.out, H1.out]; rfl, (Below.refl _ _).alloc (Nat.le_refl _) _⟩
 ·have H1 := hid h1
  clear h1
  by_cases hb : b = 0
  ·subst hb
   go_enter Try.func101, Try.ntmps101
   go_wp2_with fail
   refine (isRegister_any a _).mono ?_
   rintro e w1 ⟨rfl, rfl⟩
   rw [H1.out]
   go_wp2_with fail
   go_ret
   exact ⟨by rw [hs.out, H1.out]; rfl, (Below.refl _ _).alloc (Nat.le_refl _) _⟩
  ·have hb1 : (b == 0) = false := by simpa using hb
   have D1 := hid (show decide (b = 0) = false by simpa using hb)
   clear hb
   go_enter Try.func101, Try.ntmps101
   go_wp2_with fail
   refine (isRegister_any a _).mono ?_
   rintro e w1 ⟨rfl, rfl⟩
   rw [H1.out]
   go_wp2_with fail
   go_ret
   exact ⟨by rw [hs.out, H1.out, D1.out]; rfl, (Below.refl _ _).alloc (Nat.le_refl _) _⟩
set_option maxRecDepth 100000 in
theorem isStep_13 (a b : Int) (n : Nat) (hn : n ≤ 9223372036854775807) (w : World) :
  Calls Try.prog 101 #[.agg #[.int .i64 13, .int .i64 a, .int .i64 b], .int .i64 n] w fun e w' => e = .returned (.bool (okStep n (13, a, b))) ∧ Below w.heap.size w w' := by
 have hs := hid (show okStep n (13, a, b) = (isReg a && decide (b = 0)) by simp [okStep])
 cases h1 : isReg a
 ·have H1 := hid h1
  clear h1
  go_enter Try.func101, Try.ntmps101
  go_wp2_with fail
  refine (isRegister_any a _).mono ?_
  rintro e w1 ⟨rfl, rfl⟩
  rw [H1.out]
  go_wp2_with fail
  go_ret
  exact ⟨by rw [hs.out, H1.out]; rfl, (Below.refl _ _).alloc (Nat.le_refl _) _⟩
 ·have H1 := hid h1
  clear h1
  by_cases hb : b = 0
  ·subst hb
   go_enter Try.func101, Try.ntmps101
   go_wp2_with fail
   refine (isRegister_any a _).mono ?_
   rintro e w1 ⟨rfl, rfl⟩
   rw [H1.out]
   go_wp2_with fail
   go_ret
   exact ⟨by rw [hs.out, H1.out]; rfl, (Below.refl _ _).alloc (Nat.le_refl _) _⟩
  ·have hb1 : (b == 0) = false := by simpa using hb
   have D1 := hid (show decide (b = 0) = false by simpa using hb)
   clear hb
   go_enter Try.func101, Try.ntmps101
   go_wp2_with fail
   refine (isRegister_any a _).mono ?_
   rintro e w1 ⟨rfl, rfl⟩
   rw [H1.out]
   go_wp2_with fail
   go_ret
   exact ⟨by rw [hs.out, H1.out, D1.out]; rfl, (Below.refl _ _).alloc (Nat.le_refl _) _⟩
set_option maxRecDepth 100000 in
theorem isStep_10 (a b : Int) (n : Nat) (hn : n ≤ 9223372036854775807) (w : World) :
  Calls Try.prog 101 #[.agg #[.int .i64 10, .int .i64 a, .int .i64 b], .int .i64 n] w fun e w' => e = .returned (.bool (okStep n (10, a, b))) ∧ Below w.heap.size w w' := by
 have hs := hid (show okStep n (10, a, b) = (decide (a = 0) && decide (b = 0)) by simp [okStep])
 by_cases ha : a = 0
 ·subst ha
  by_cases hb : b = 0
  ·subst hb
   go_enter Try.func101, Try.ntmps101
   go_wp2_with fail
   go_ret
   exact ⟨by rw [hs.out]; rfl, (Below.refl _ _).alloc (Nat.le_refl _) _⟩
  ·have hb1 : (b == 0) = false := by simpa using hb
   have D1 := hid (show decide (b = 0) = false by simpa using hb)
   clear hb
   go_enter Try.func101, Try.ntmps101
   go_wp2_with fail
   go_ret
   exact ⟨by rw [hs.out, D1.out]; rfl, (Below.refl _ _).alloc (Nat.le_refl _) _⟩
 ·have ha1 : (a == 0) = false := by simpa using ha
  have D1 := hid (show decide (a = 0) = false by simpa using ha)
  clear ha
  go_enter Try.func101, Try.ntmps101
  go_wp2_with fail
  go_ret
  exact ⟨by rw [hs.out, D1.out]; rfl, (Below.refl _ _).alloc (Nat.le_refl _) _⟩
set_option maxRecDepth 100000 in
theorem isStep_4 (a b : Int) (n : Nat) (hn : n ≤ 9223372036854775807) (w : World) :
  Calls Try.prog 101 #[.agg #[.int .i64 4, .int .i64 a, .int .i64 b], .int .i64 n] w fun e w' => e = .returned (.bool (okStep n (4, a, b))) ∧ Below w.heap.size w w' := by
 have hs := hid (show okStep n (4, a, b) = (decide (0 ≤ a) && decide (a < (n : Int)) && isReg b) by simp [okStep])
 by_cases h0 : 0 ≤ a
 ·have D0 := hid (show decide (0 ≤ a) = true by simpa using h0)
  by_cases h1 : a < (n : Int)
  ·have D1 := hid (show decide (a < (n : Int)) = true by simpa using h1)
   go_enter Try.func101, Try.ntmps101
   go_wp2_with fail
   refine (isRegister_any b _).mono ?_
   rintro e w1 ⟨rfl, rfl⟩
   go_wp2_with fail
   go_ret
   exact ⟨by rw [hs.out, D0.out, D1.out]; rfl, (Below.refl _ _).alloc (Nat.le_refl _) _⟩
  ·have D1 := hid (show decide (a < (n : Int)) = false by simpa using h1)
   go_enter Try.func101, Try.ntmps101
   go_wp2_with fail
   go_ret
   exact ⟨by rw [hs.out, D0.out, D1.out]; rfl, (Below.refl _ _).alloc (Nat.le_refl _) _⟩
 ·have D0 := hid (show decide (0 ≤ a) = false by simpa using h0)
  go_enter Try.func101, Try.ntmps101
  go_wp2_with fail
  go_ret
  exact ⟨by rw [hs.out, D0.out]; rfl, (Below.refl _ _).alloc (Nat.le_refl _) _⟩
set_option maxRecDepth 100000 in
theorem isStep_5 (a b : Int) (n : Nat) (hn : n ≤ 9223372036854775807) (w : World) :
  Calls Try.prog 101 #[.agg #[.int .i64 5, .int .i64 a, .int .i64 b], .int .i64 n] w fun e w' => e = .returned (.bool (okStep n (5, a, b))) ∧ Below w.heap.size w w' := by
 have hs := hid (show okStep n (5, a, b) = (decide (0 ≤ a) && decide (a < (n : Int)) && isReg b) by simp [okStep])
 by_cases h0 : 0 ≤ a
 ·have D0 := hid (show decide (0 ≤ a) = true by simpa using h0)
  by_cases h1 : a < (n : Int)
  ·have D1 := hid (show decide (a < (n : Int)) = true by simpa using h1)
   go_enter Try.func101, Try.ntmps101
   go_wp2_with fail
   refine (isRegister_any b _).mono ?_
   rintro e w1 ⟨rfl, rfl⟩
   go_wp2_with fail
   go_ret
   exact ⟨by rw [hs.out, D0.out, D1.out]; rfl, (Below.refl _ _).alloc (Nat.le_refl _) _⟩
  ·have D1 := hid (show decide (a < (n : Int)) = false by simpa using h1)
   go_enter Try.func101, Try.ntmps101
   go_wp2_with fail
   go_ret
   exact ⟨by rw [hs.out, D0.out, D1.out]; rfl, (Below.refl _ _).alloc (Nat.le_refl _) _⟩
 ·have D0 := hid (show decide (0 ≤ a) = false by simpa using h0)
  go_enter Try.func101, Try.ntmps101
  go_wp2_with fail
  go_ret
  exact ⟨by rw [hs.out, D0.out]; rfl, (Below.refl _ _).alloc (Nat.le_refl _) _⟩
set_option maxRecDepth 100000 in
theorem isStep_11 (a b : Int) (n : Nat) (hn : n ≤ 9223372036854775807) (w : World) :
  Calls Try.prog 101 #[.agg #[.int .i64 11, .int .i64 a, .int .i64 b], .int .i64 n] w fun e w' => e = .returned (.bool (okStep n (11, a, b))) ∧ Below w.heap.size w w' := by
 have hs := hid (show okStep n (11, a, b) = (decide (0 ≤ a) && decide (a ≤ 8) && isReg b) by simp [okStep])
 by_cases h0 : 0 ≤ a
 ·have D0 := hid (show decide (0 ≤ a) = true by simpa using h0)
  by_cases h1 : a ≤ 8
  ·have D1 := hid (show decide (a ≤ 8) = true by simpa using h1)
   go_enter Try.func101, Try.ntmps101
   go_wp2_with fail
   refine (isRegister_any b _).mono ?_
   rintro e w1 ⟨rfl, rfl⟩
   go_wp2_with fail
   go_ret
   exact ⟨by rw [hs.out, D0.out, D1.out]; rfl, (Below.refl _ _).alloc (Nat.le_refl _) _⟩
  ·have D1 := hid (show decide (a ≤ 8) = false by simpa using h1)
   go_enter Try.func101, Try.ntmps101
   go_wp2_with fail
   go_ret
   exact ⟨by rw [hs.out, D0.out, D1.out]; rfl, (Below.refl _ _).alloc (Nat.le_refl _) _⟩
 ·have D0 := hid (show decide (0 ≤ a) = false by simpa using h0)
  go_enter Try.func101, Try.ntmps101
  go_wp2_with fail
  go_ret
  exact ⟨by rw [hs.out, D0.out]; rfl, (Below.refl _ _).alloc (Nat.le_refl _) _⟩
set_option maxRecDepth 100000 in
theorem isStep_no (k : Int) (hk : ¬ (1 ≤ k ∧ k ≤ 13)) (a b : Int) (n : Nat) (hn : n ≤ 9223372036854775807) (w : World) :
  Calls Try.prog 101 #[.agg #[.int .i64 k, .int .i64 a, .int .i64 b], .int .i64 n] w fun e w' => e = .returned (.bool (okStep n (k, a, b))) ∧ Below w.heap.size w w' := by
 have hs := hid (show okStep n (k, a, b) = false by unfold okStep; simp only [show ¬ k = 1 by omega, show ¬ k = 2 by omega, show ¬ (k = 4 ∨ k = 5) by omega, show ¬ k = 11 by omega, show ¬ k = 10 by omega, show ¬ (k = 3 ∨ k = 6 ∨ k = 7 ∨ k = 8 ∨ k = 9 ∨ k = 12 ∨ k = 13) by omega, if_false])
 have n1 : (k == 1) = false := by simp; omega
 have n2 : (k == 2) = false := by simp; omega
 have n3 : (k == 3) = false := by simp; omega
 have n4 : (k == 4) = false := by simp; omega
 have n5 : (k == 5) = false := by simp; omega
 have n6 : (k == 6) = false := by simp; omega
 have n7 : (k == 7) = false := by simp; omega
 have n8 : (k == 8) = false := by simp; omega
 have n9 : (k == 9) = false := by simp; omega
 have n10 : (k == 10) = false := by simp; omega
 have n11 : (k == 11) = false := by simp; omega
 have n12 : (k == 12) = false := by simp; omega
 have n13 : (k == 13) = false := by simp; omega
 clear hk
 go_enter Try.func101, Try.ntmps101
 go_wp2_with fail
 go_ret
 exact ⟨by rw [hs.out]; rfl, (Below.refl _ _).alloc (Nat.le_refl _) _⟩
theorem isStep_any (k : Int) (a b : Int) (n : Nat) (hn : n ≤ 9223372036854775807) (w : World) :
  Calls Try.prog 101 #[.agg #[.int .i64 k, .int .i64 a, .int .i64 b], .int .i64 n] w fun e w' => e = .returned (.bool (okStep n (k, a, b))) ∧ Below w.heap.size w w' := by
 by_cases hk : 1 ≤ k ∧ k ≤ 13
 ·have h : k = 1 ∨ k = 2 ∨ k = 3 ∨ k = 4 ∨ k = 5 ∨ k = 6 ∨ k = 7 ∨ k = 8 ∨ k = 9 ∨ k = 10 ∨ k = 11 ∨ k = 12 ∨ k = 13 := by omega
  rcases h with rfl | rfl | rfl | rfl | rfl | rfl | rfl | rfl | rfl | rfl | rfl | rfl | rfl
  ·exact isStep_1 a b n hn w
  ·exact isStep_2 a b n hn w
  ·exact isStep_3 a b n hn w
  ·exact isStep_4 a b n hn w
  ·exact isStep_5 a b n hn w
  ·exact isStep_6 a b n hn w
  ·exact isStep_7 a b n hn w
  ·exact isStep_8 a b n hn w
  ·exact isStep_9 a b n hn w
  ·exact isStep_10 a b n hn w
  ·exact isStep_11 a b n hn w
  ·exact isStep_12 a b n hn w
  ·exact isStep_13 a b n hn w
 ·exact isStep_no k hk a b n hn w
end Go.Proofs.Ythejnpignlhgiaa.Stp

namespace Go.Proofs.Ythejnpignlhgiaa.Prg
open Lib (hid)
open Go.ChangeShapes Go.WideShapes Go.ChangeAt Go.RowKit
open PL Mem To Stp
def allOk (n : Nat) (p : Pg) (k : Nat) : Prop := ∀ (i : Nat) (xs : List Tr), i < k → p[i]? = some xs → okBody n xs = true
def allSt (n : Nat) (b : List Tr) (k : Nat) : Prop := ∀ (i : Nat) (s : Tr), i < k → b[i]? = some s → okStep n s = true
theorem allOk_next {n : Nat} {p : Pg} {k : Nat} {xs : List Tr} (h : allOk n p k) (hx : p[k]? = some xs) (ho : okBody n xs = true) : allOk n p (k + 1) := by
 intro i ys hi hy
 rcases Nat.lt_or_ge i k with hik | hik
 ·exact h i ys hik hy
 ·obtain rfl : i = k := by omega
  rw [hx] at hy
  obtain rfl : xs = ys := by simpa using hy
  exact ho
theorem allSt_next {n : Nat} {p : List Tr} {k : Nat} {xs : Tr} (h : allSt n p k) (hx : p[k]? = some xs) (ho : okStep n xs = true) : allSt n p (k + 1) := by
 intro i ys hi hy
 rcases Nat.lt_or_ge i k with hik | hik
 ·exact h i ys hik hy
 ·obtain rfl : i = k := by omega
  rw [hx] at hy
  obtain rfl : xs = ys := by simpa using hy
  exact ho
theorem okBody_yes {n : Nat} {b : List Tr} (hl : b.length ≤ 8) (h : allSt n b b.length) : okBody n b = true := by
 unfold okBody
 rw [Bool.and_eq_true, decide_eq_true_eq, List.all_eq_true]
 refine ⟨hl, fun s hs => ?_⟩
 obtain ⟨i, hi, rfl⟩ := List.mem_iff_getElem.1 hs
 exact h i _ hi (List.getElem?_eq_getElem hi)
theorem okBody_long {n : Nat} {b : List Tr} (hl : ¬ b.length ≤ 8) : okBody n b = false := by
 unfold okBody; rw [decide_eq_false hl]; rfl
theorem okBody_bad {n : Nat} {b : List Tr} {j : Nat} {s : Tr} (hs : b[j]? = some s) (h : okStep n s = false) : okBody n b = false := by
 unfold okBody
 rw [Bool.and_eq_false_iff]; right
 rw [← Bool.not_eq_true, List.all_eq_true]
 intro hall
 have := hall s (List.mem_of_getElem? hs)
 rw [h] at this; cases this
theorem okProg_yes {n : Nat} {p : Pg} (hl : p.length = n) (h1 : 1 ≤ n) (h2 : n ≤ 6) (h : allOk n p n) : okProg p = true := by
 unfold okProg
 rw [hl, Bool.and_eq_true, Bool.and_eq_true, decide_eq_true_eq, decide_eq_true_eq, List.all_eq_true]
 refine ⟨⟨h1, h2⟩, fun s hs => ?_⟩
 obtain ⟨i, hi, rfl⟩ := List.mem_iff_getElem.1 hs
 exact h i _ (by omega) (List.getElem?_eq_getElem hi)
theorem okProg_len {n : Nat} {p : Pg} (hl : p.length = n) (h : ¬ (1 ≤ n ∧ n ≤ 6)) : okProg p = false := by
 unfold okProg
 rw [hl, ← Bool.not_eq_true, Bool.and_eq_true, Bool.and_eq_true, decide_eq_true_eq, decide_eq_true_eq]
 exact fun g => h g.1
theorem okProg_bad {n : Nat} {p : Pg} {k : Nat} {xs : List Tr} (hl : p.length = n) (hx : p[k]? = some xs) (h : okBody n xs = false) : okProg p = false := by
 unfold okProg
 rw [hl, Bool.and_eq_false_iff]; right
 rw [← Bool.not_eq_true, List.all_eq_true]
 intro hall
 have := hall xs (List.mem_of_getElem? hx)
 rw [h] at this; cases this
theorem isProgram_any (B : Nat) (A : Option Addr) (n c : Nat) (p : Pg) (hn : n ≤ 9223372036854775807) (hl : p.length = n) (hsm : Small p 9223372036854775807) (w : World) (hr : RdP w B A p) (hB : B ≤ w.heap.size) :
  Calls Try.prog 65 #[.agg #[.slice A n c]] w fun e w' => e = .returned (.bool (okProg p)) ∧ Below w.heap.size w w' := by
 have hR := hid hr
 have hL := hid hl
 have hS := hid hsm
 clear hr hl hsm
 by_cases hn1 : n < 1
 ·have hs := hid (show okProg p = false from okProg_len hL.out (by omega))
  go_enter Try.func65, Try.ntmps65
  go_wp2_with fail
  go_ret
  exact ⟨by rw [hs.out]; rfl, (Below.refl _ _).alloc (Nat.le_refl _) _⟩
 by_cases hn6 : 6 < n
 ·have hs := hid (show okProg p = false from okProg_len hL.out (by omega))
  go_enter Try.func65, Try.ntmps65
  go_wp2_with fail
  go_ret
  exact ⟨by rw [hs.out]; rfl, (Below.refl _ _).alloc (Nat.le_refl _) _⟩
 go_enter Try.func65, Try.ntmps65
 go_wp2_with fail
 go_loopw [20] (fun i wr => ∃ k : Nat, k ≤ n ∧ i = .int .i64 k ∧ allOk n p k ∧ Below (w.heap.size + 1) (w.alloc (.cells #[.slice A n c] 35)) wr) (fun i _ => n - (intOf i).toNat)
 case atStart => exact ⟨0, Nat.zero_le _, rfl, fun _ _ h => absurd h (by omega), Below.refl _ _⟩
 case round =>
  obtain ⟨k, hk, rfl, hok, hb⟩ := hrel
  have hO := hid hok
  clear hok
  have hsz : w.heap.size + 1 ≤ wr.heap.size := by have := hb.size; simpa using this
  have cb : wr.cell? ⟨w.heap.size, 0, none⟩ = some (.slice A n c) := (hb.cell (p := ⟨w.heap.size, 0, none⟩) (by simp)).trans (by simp [go_sem])
  have hRb : Hid (RdP wr B A p) := hid ((hR.out.below ((Below.refl B w).alloc hB _)).below (hb.mono (by omega)))
  have hbw : Below w.heap.size w wr := ((Below.refl _ _).alloc (Nat.le_refl _) _).trans (hb.mono (by omega))
  by_cases hlt : k < n
  ·obtain ⟨xs, hs⟩ : ∃ s, p[k]? = some s := ⟨_, List.getElem?_eq_getElem (by rw [hL.out]; exact hlt)⟩
   obtain ⟨ad, Ai, ci, rfl, hab, h0, h1⟩ := hRb.out k _ hs
   have hH := hid hs
   have hxn := hS.out k xs hs
   have H1 := hid h1
   clear hs h1
   by_cases h8 : 8 < xs.length
   ·have hs := hid (show okProg p = false from okProg_bad hL.out hH.out (okBody_long (by omega)))
    go_wp2_with fail
    go_ret
    exact ⟨by rw [hs.out]; rfl, hbw⟩
   ·go_wp2_with fail
    obtain ⟨wo, rfl⟩ : ∃ wo : World, wo = wr := ⟨_, rfl⟩
    go_loopw [29] (fun i wr => ∃ j : Nat, j ≤ xs.length ∧ i = .int .i64 j ∧ allSt n xs j ∧ Below wo.heap.size wo wr) (fun i _ => xs.length - (intOf i).toNat)
    case atStart => exact ⟨0, Nat.zero_le _, rfl, fun _ _ h => absurd h (by omega), Below.refl _ _⟩
    case round =>
     obtain ⟨j, hj, rfl, hst, hb2⟩ := hrel
     have hT := hid hst
     clear hst
     have hsz2 := hb2.size
     by_cases hjl : j < xs.length
     ·obtain ⟨⟨s0, s1, s2⟩, hs⟩ : ∃ s, xs[j]? = some s := ⟨_, List.getElem?_eq_getElem hjl⟩
      obtain ⟨ad', rfl, hab', c0, c1, c2⟩ := (H1.out.below (hb2.mono (by omega))) j _ hs
      dsimp only at c0 c1 c2
      have hX := hid hs
      have cb2 : wr.cell? ⟨w.heap.size, 0, none⟩ = some (.slice (some ad) n c) := (hb2.cell (p := ⟨w.heap.size, 0, none⟩) (by show w.heap.size < wo.heap.size; omega)).trans cb
      have cb3 : ∀ o, (wr.alloc o).cell? ⟨w.heap.size, 0, none⟩ = some (.slice (some ad) n c) := fun o => (World.cell?_alloc_lt wr o ⟨w.heap.size, 0, none⟩ (by show w.heap.size < wr.heap.size; omega)).trans cb2
      clear hs
      go_wp2_with fail
      refine (isStep_any s0 s1 s2 n hn _).mono ?_
      rintro e w1 ⟨rfl, hb3⟩
      cases hok : okStep n (s0, s1, s2)
      ·have hs := hid (show okProg p = false from okProg_bad hL.out hH.out (okBody_bad hX.out hok))
       clear hok
       go_wp2_with fail
       go_ret
       exact ⟨by rw [hs.out]; rfl, (hbw.trans (hb2.mono hbw.size)).trans ((((Below.refl _ _).alloc (Nat.le_refl _) _).trans (hb3.mono (by simp))).mono (Nat.le_trans hbw.size hsz2))⟩
      ·have hN := hid (allSt_next hT.out hX.out hok)
       clear hok
       go_wp2_with fail
       go_roundw
       case rel => exact ⟨j + 1, by omega, by go_num, hN.out, hb2.trans ((((Below.refl _ _).alloc (Nat.le_refl _) _).trans (hb3.mono (by simp))).mono hsz2)⟩
       case measure => simp [intOf]; omega
     ·obtain rfl : j = xs.length := by omega
      have hN := hid (allOk_next hO.out hH.out (okBody_yes (by omega) hT.out))
      go_wp2_with fail
      go_roundw
      case rel => exact ⟨k + 1, by omega, by go_num, hN.out, hb.trans (hb2.mono hsz)⟩
      case measure => simp [intOf]; omega
  ·obtain rfl : k = n := by omega
   have hs := hid (show okProg p = true from okProg_yes hL.out (by omega) (by omega) hO.out)
   go_wp2_with fail
   go_ret
   exact ⟨by rw [hs.out]; rfl, hbw⟩
end Go.Proofs.Ythejnpignlhgiaa.Prg
