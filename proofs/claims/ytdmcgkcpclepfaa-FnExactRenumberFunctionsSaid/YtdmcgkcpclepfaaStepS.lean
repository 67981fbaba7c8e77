import Derived.Test.YtdmcgkcpclepfaaTo
set_option linter.all false
namespace Go.Proofs.Ytdmcgkcpclepfaa.StpS
open Lib (hid)
open Go.ChangeShapes Go.WideShapes Go.ChangeAt Go.RowKit
open PL Mem To
def btw (x a b : Int) : Bool := decide (a ≤ x) && decide (x ≤ b)
theorem l1In_any (x a b : Int) (w : World) : Calls Try.prog 103 #[.int .i64 x, .int .i64 a, .int .i64 b] w fun e w' => e = .returned (.bool (btw x a b)) ∧ w = w' := by
 by_cases h1 : a ≤ x
 ·by_cases h2 : x ≤ b
  ·have hs := hid (show btw x a b = true by unfold btw; simp; omega)
   go_enter Try.func103, Try.ntmps103
   go_wp2
   go_ret
   exact ⟨by rw [hs.out]; rfl, rfl⟩
  ·have hs := hid (show btw x a b = false by unfold btw; simp; omega)
   go_enter Try.func103, Try.ntmps103
   go_wp2
   go_ret
   exact ⟨by rw [hs.out]; rfl, rfl⟩
 ·have hs := hid (show btw x a b = false by unfold btw; simp; omega)
  go_enter Try.func103, Try.ntmps103
  go_wp2
  go_ret
  exact ⟨by rw [hs.out]; rfl, rfl⟩
theorem l2Reg_any (r : Int) (w : World) : Calls Try.prog 137 #[.int .i64 r] w fun e w' => e = .returned (.bool (isReg r)) ∧ w = w' := by
 have hs := hid (show isReg r = btw r (0) (3) from rfl)
 go_enter Try.func137, Try.ntmps137
 go_wp2_with fail
 refine (l1In_any r (0) (3) _).mono ?_
 rintro e w1 ⟨rfl, rfl⟩
 go_wp2_with fail
 go_ret
 exact ⟨by rw [hs.out]; rfl, rfl⟩
theorem l2Number_any (r : Int) (w : World) : Calls Try.prog 138 #[.int .i64 r] w fun e w' => e = .returned (.bool (isNum r)) ∧ w = w' := by
 have hs := hid (show isNum r = btw r (-32768) (32767) from rfl)
 go_enter Try.func138, Try.ntmps138
 go_wp2_with fail
 refine (l1In_any r (-32768) (32767) _).mono ?_
 rintro e w1 ⟨rfl, rfl⟩
 go_wp2_with fail
 go_ret
 exact ⟨by rw [hs.out]; rfl, rfl⟩
def inP (f : Int) (n : Nat) : Bool := decide (0 ≤ f) && decide (f < (n : Int))
theorem l2Function_any (A : Option Addr) (n c : Nat) (f : Int) (hn : n ≤ 9223372036854775807) (w : World) : Calls Try.prog 74 #[.agg #[.slice A n c], .int .i64 f] w fun e w' => e = .returned (.bool (inP f n)) ∧ w.alloc (.cells #[.slice A n c] 31) = w' := by
 have hs := hid (show inP f n = btw f 0 ((n : Int) - 1) by unfold inP btw; congr 1; simp; omega)
 go_enter Try.func74, Try.ntmps74
 go_wp2_with fail
 refine (l1In_any f 0 ((n : Int) - 1) _).mono ?_
 rintro e w1 ⟨rfl, rfl⟩
 go_wp2_with fail
 go_ret
 exact ⟨by rw [hs.out]; rfl, rfl⟩
set_option maxRecDepth 100000 in
theorem l2Step_1 (a b : Int) (A : Option Addr) (n c : Nat) (hn : n ≤ 9223372036854775807) (w : World) :
  Calls Try.prog 114 #[.agg #[.slice A n c], .agg #[.int .i64 1, .int .i64 a, .int .i64 b]] w fun e w' => e = .returned (.bool (okStep n (1, a, b))) ∧ Below w.heap.size w w' := by
 have hs := hid (show okStep n (1, a, b) = (isReg a && isNum b) by simp [okStep])
 cases h1 : isReg a
 ·have H1 := hid h1
  clear h1
  go_enter Try.func114, Try.ntmps114
  go_wp2_with fail
  refine (l2Reg_any a _).mono ?_
  rintro e w1 ⟨rfl, rfl⟩
  rw [H1.out]
  go_wp2_with fail
  go_ret
  exact ⟨by rw [hs.out, H1.out]; rfl, ((Below.refl _ _).alloc (Nat.le_refl _) _).alloc (by simp) _⟩
 ·have H1 := hid h1
  clear h1
  go_enter Try.func114, Try.ntmps114
  go_wp2_with fail
  refine (l2Reg_any a _).mono ?_
  rintro e w1 ⟨rfl, rfl⟩
  rw [H1.out]
  go_wp2_with fail
  refine (l2Number_any b _).mono ?_
  rintro e w1 ⟨rfl, rfl⟩
  go_wp2_with fail
  go_ret
  exact ⟨by rw [hs.out, H1.out]; rfl, ((Below.refl _ _).alloc (Nat.le_refl _) _).alloc (by simp) _⟩
set_option maxRecDepth 100000 in
theorem l2Step_2 (a b : Int) (A : Option Addr) (n c : Nat) (hn : n ≤ 9223372036854775807) (w : World) :
  Calls Try.prog 114 #[.agg #[.slice A n c], .agg #[.int .i64 2, .int .i64 a, .int .i64 b]] w fun e w' => e = .returned (.bool (okStep n (2, a, b))) ∧ Below w.heap.size w w' := by
 have hs := hid (show okStep n (2, a, b) = (isReg a && isReg b) by simp [okStep])
 cases h1 : isReg a
 ·have H1 := hid h1
  clear h1
  go_enter Try.func114, Try.ntmps114
  go_wp2_with fail
  refine (l2Reg_any a _).mono ?_
  rintro e w1 ⟨rfl, rfl⟩
  rw [H1.out]
  go_wp2_with fail
  go_ret
  exact ⟨by rw [hs.out, H1.out]; rfl, ((Below.refl _ _).alloc (Nat.le_refl _) _).alloc (by simp) _⟩
 ·have H1 := hid h1
  clear h1
  go_enter Try.func114, Try.ntmps114
  go_wp2_with fail
  refine (l2Reg_any a _).mono ?_
  rintro e w1 ⟨rfl, rfl⟩
  rw [H1.out]
  go_wp2_with fail
  refine (l2Reg_any b _).mono ?_
  rintro e w1 ⟨rfl, rfl⟩
  go_wp2_with fail
  go_ret
  exact ⟨by rw [hs.out, H1.out]; rfl, ((Below.refl _ _).alloc (Nat.le_refl _) _).alloc (by simp) _⟩
set_option maxRecDepth 100000 in
theorem l2Step_3 (a b : Int) (A : Option Addr) (n c : Nat) (hn : n ≤ 9223372036854775807) (w : World) :
  Calls Try.prog 114 #[.agg #[.slice A n c], .agg #[.int .i64 3, .int .i64 a, .int .i64 b]] w fun e w' => e = .returned (.bool (okStep n (3, a, b))) ∧ Below w.heap.size w w' := by
 have hs := hid (show okStep n (3, a, b) = (isReg a && decide (b = 0)) by simp [okStep])
 cases h1 : isReg a
 ·have H1 := hid h1
  clear h1
  go_enter Try.func114, Try.ntmps114
  go_wp2_with fail
  refine (l2Reg_any a _).mono ?_
  rintro e w1 ⟨rfl, rfl⟩
  rw [H1.out]
  go_wp2_with fail
  go_ret
  exact ⟨by rw [hs.out, H1.out]; rfl, ((Below.refl _ _).alloc (Nat.le_refl _) _).alloc (by simp) _⟩
 ·have H1 := hid h1
  clear h1
  by_cases hb : b = 0
  ·subst hb
   go_enter Try.func114, Try.ntmps114
   go_wp2_with fail
   refine (l2Reg_any a _).mono ?_
   rintro e w1 ⟨rfl, rfl⟩
   rw [H1.out]
   go_wp2_with fail
   go_ret
   exact ⟨by rw [hs.out, H1.out]; rfl, ((Below.refl _ _).alloc (Nat.le_refl _) _).alloc (by simp) _⟩
  ·have hb1 : (b == 0) = false := by simpa using hb
   have D1 := hid (show decide (b = 0) = false by simpa using hb)
   clear hb
   go_enter Try.func114, Try.ntmps114
   go_wp2_with fail
   refine (l2Reg_any a _).mono ?_
   rintro e w1 ⟨rfl, rfl⟩
   rw [H1.out]
   go_wp2_with fail
   go_ret
   exact ⟨by rw [hs.out, H1.out, D1.out]; rfl, ((Below.refl _ _).alloc (Nat.le_refl _) _).alloc (by simp) _⟩
set_option maxRecDepth 100000 in
theorem l2Step_6 (a b : Int) (A : Option Addr) (n c : Nat) (hn : n ≤ 9223372036854775807) (w : World) :
  Calls Try.prog 114 #[.agg #[.slice A n c], .agg #[.int .i64 6, .int .i64 a, .int .i64 b]] w fun e w' => e = .returned (.bool (okStep n (6, a, b))) ∧ Below w.heap.size w w' := by
 have hs := hid (show okStep n (6, a, b) = (isReg a && decide (b = 0)) by simp [okStep])
 cases h1 : isReg a
 ·have H1 := hid h1
  clear h1
  go_enter Try.func114, Try.ntmps114
  go_wp2_with fail
  refine (l2Reg_any a _).mono ?_
  rintro e w1 ⟨rfl, rfl⟩
  rw [H1.out]
  go_wp2_with fail
  go_ret
  exact ⟨by rw [hs.out, H1.out]; rfl, ((Below.refl _ _).alloc (Nat.le_refl _) _).alloc (by simp) _⟩
 ·have H1 := hid h1
  clear h1
  by_cases hb : b = 0
  ·subst hb
   go_enter Try.func114, Try.ntmps114
   go_wp2_with fail
   refine (l2Reg_any a _).mono ?_
   rintro e w1 ⟨rfl, rfl⟩
   rw [H1.out]
   go_wp2_with fail
   go_ret
   exact ⟨by rw [hs.out, H1.out]; rfl, ((Below.refl _ _).alloc (Nat.le_refl _) _).alloc (by simp) _⟩
  ·have hb1 : (b == 0) = false := by simpa using hb
   have D1 := hid (show decide (b = 0) = false by simpa using hb)
   clear hb
   go_enter Try.func114, Try.ntmps114
   go_wp2_with fail
   refine (l2Reg_any a _).mono ?_
   rintro e w1 ⟨rfl, rfl⟩
   rw [H1.out]
   go_wp2_with fail
   go_ret
   exact ⟨by rw [hs.out, H1.out, D1.out]; rfl, ((Below.refl _ _).alloc (Nat.le_refl _) _).alloc (by simp) _⟩
set_option maxRecDepth 100000 in
theorem l2Step_7 (a b : Int) (A : Option Addr) (n c : Nat) (hn : n ≤ 9223372036854775807) (w : World) :
  Calls Try.prog 114 #[.agg #[.slice A n c], .agg #[.int .i64 7, .int .i64 a, .int .i64 b]] w fun e w' => e = .returned (.bool (okStep n (7, a, b))) ∧ Below w.heap.size w w' := by
 have hs := hid (show okStep n (7, a, b) = (isReg a && decide (b = 0)) by simp [okStep])
 cases h1 : isReg a
 ·have H1 := hid h1
  clear h1
  go_enter Try.func114, Try.ntmps114
  go_wp2_with fail
  refine (l2Reg_any a _).mono ?_
  rintro e w1 ⟨rfl, rfl⟩
  rw [H1.out]
  go_wp2_with fail
  go_ret
  exact ⟨by rw [hs.out, H1.out]; rfl, ((Below.refl _ _).alloc (Nat.le_refl _) _).alloc (by simp) _⟩
 ·have H1 := hid h1
  clear h1
  by_cases hb : b = 0
  ·subst hb
   go_enter Try.func114, Try.ntmps114
   go_wp2_with fail
   refine (l2Reg_any a _).mono ?_
   rintro e w1 ⟨rfl, rfl⟩
   rw [H1.out]
   go_wp2_with fail
   go_ret
   exact ⟨by rw [hs.out, H1.out]; rfl, ((Below.refl _ _).alloc (Nat.le_refl _) _).alloc (by simp) _⟩
  ·have hb1 : (b == 0) = false := by simpa using hb
   have D1 := hid (show decide (b = 0) = false by simpa using hb)
   clear hb
   go_enter Try.func114, Try.ntmps114
   go_wp2_with fail
   refine (l2Reg_any a _).mono ?_
   rintro e w1 ⟨rfl, rfl⟩
   rw [H1.out]
   go_wp2_with fail
   go_ret
   exact ⟨by rw [hs.out, H1.out, D1.out]; rfl, ((Below.refl _ _).alloc (Nat.le_refl _) _).alloc (by simp) _⟩
set_option maxRecDepth 100000 in
theorem l2Step_8 (a b : Int) (A : Option Addr) (n c : Nat) (hn : n ≤ 9223372036854775807) (w : World) :
  Calls Try.prog 114 #[.agg #[.slice A n c], .agg #[.int .i64 8, .int .i64 a, .int .i64 b]] w fun e w' => e = .returned (.bool (okStep n (8, a, b))) ∧ Below w.heap.size w w' := by
 have hs := hid (show okStep n (8, a, b) = (isReg a && decide (b = 0)) by simp [okStep])
 cases h1 : isReg a
 ·have H1 := hid h1
  clear h1
  go_enter Try.func114, Try.ntmps114
  go_wp2_with fail
  refine (l2Reg_any a _).mono ?_
  rintro e w1 ⟨rfl, rfl⟩
  rw [H1.out]
  go_wp2_with fail
  go_ret
  exact ⟨by rw [hs.out, H1.out]; rfl, ((Below.refl _ _).alloc (Nat.le_refl _) _).alloc (by simp) _⟩
 ·have H1 := hid h1
  clear h1
  by_cases hb : b = 0
  ·subst hb
   go_enter Try.func114, Try.ntmps114
   go_wp2_with fail
   refine (l2Reg_any a _).mono ?_
   rintro e w1 ⟨rfl, rfl⟩
   rw [H1.out]
   go_wp2_with fail
   go_ret
   exact ⟨by rw [hs.out, H1.out]; rfl, ((Below.refl _ _).alloc (Nat.le_refl _) _).alloc (by simp) _⟩
  ·have hb1 : (b == 0) = false := by simpa using hb
   have D1 := hid (show decide (b = 0) = false by simpa using hb)
   clear hb
   go_enter Try.func114, Try.ntmps114
   go_wp2_with fail
   refine (l2Reg_any a _).mono ?_
   rintro e w1 ⟨rfl, rfl⟩
   rw [H1.out]
   go_wp2_with fail
   go_ret
   exact ⟨by rw [hs.out, H1.out, D1.out]; rfl, ((Below.refl _ _).alloc (Nat.le_refl _) _).alloc (by simp) _⟩
set_option maxRecDepth 100000 in
theorem l2Step_9 (a b : Int) (A : Option Addr) (n c : Nat) (hn : n ≤ 9223372036854775807) (w : World) :
  Calls Try.prog 114 #[.agg #[.slice A n c], .agg #[.int .i64 9, .int .i64 a, .int .i64 b]] w fun e w' => e = .returned (.bool (okStep n (9, a, b))) ∧ Below w.heap.size w w' := by
 have hs := hid (show okStep n (9, a, b) = (isReg a && decide (b = 0)) by simp [okStep])
 cases h1 : isReg a
 ·have H1 := hid h1
  clear h1
  go_enter Try.func114, Try.ntmps114
  go_wp2_with fail
  refine (l2Reg_any a _).mono ?_
  rintro e w1 ⟨rfl, rfl⟩
  rw [H1.out]
  go_wp2_with fail
  go_ret
  exact ⟨by rw [hs.out, H1.out]; rfl, ((Below.refl _ _).alloc (Nat.le_refl _) _).alloc (by simp) _⟩
 ·have H1 := hid h1
  clear h1
  by_cases hb : b = 0
  ·subst hb
   go_enter Try.func114, Try.ntmps114
   go_wp2_with fail
   refine (l2Reg_any a _).mono ?_
   rintro e w1 ⟨rfl, rfl⟩
   rw [H1.out]
   go_wp2_with fail
   go_ret
   exact ⟨by rw [hs.out, H1.out]; rfl, ((Below.refl _ _).alloc (Nat.le_refl _) _).alloc (by simp) _⟩
  ·have hb1 : (b == 0) = false := by simpa using hb
   have D1 := hid (show decide (b = 0) = false by simpa using hb)
   clear hb
   go_enter Try.func114, Try.ntmps114
   go_wp2_with fail
   refine (l2Reg_any a _).mono ?_
   rintro e w1 ⟨rfl, rfl⟩
   rw [H1.out]
   go_wp2_with fail
   go_ret
   exact ⟨by rw [hs.out, H1.out, D1.out]; rfl, ((Below.refl _ _).alloc (Nat.le_refl _) _).alloc (by simp) _⟩
set_option maxRecDepth 100000 in
theorem l2Step_12 (a b : Int) (A : Option Addr) (n c : Nat) (hn : n ≤ 9223372036854775807) (w : World) :
  Calls Try.prog 114 #[.agg #[.slice A n c], .agg #[.int .i64 12, .int .i64 a, .int .i64 b]] w fun e w' => e = .returned (.bool (okStep n (12, a, b))) ∧ Below w.heap.size w w' := by
 have hs := hid (show okStep n (12, a, b) = (isReg a && decide (b = 0)) by simp [okStep])
 cases h1 : isReg a
 ·have H1 := hid h1
  clear h1
  go_enter Try.func114, Try.ntmps114
  go_wp2_with fail
  refine (l2Reg_any a _).mono ?_
  rintro e w1 ⟨rfl, rfl⟩
  rw [H1.out]
  go_wp2_with fail
  go_ret
  exact ⟨by rw [hs.out, H1.out]; rfl, ((Below.refl _ _).alloc (Nat.le_refl _) _).alloc (by simp) _⟩
 ·have H1 := hid h1
  clear h1
  by_cases hb : b = 0
  ·subst hb
   go_enter Try.func114, Try.ntmps114
   go_wp2_with fail
   refine (l2Reg_any a _).mono ?_
   rintro e w1 ⟨rfl, rfl⟩
   rw [H1.out]
   go_wp2_with fail
   go_ret
   exact ⟨by rw [hs.out, H1.out]; rfl, ((Below.refl _ _).alloc (Nat.le_refl _) _).alloc (by simp) _⟩
  ·have hb1 : (b == 0) = false := by simpa using hb
   have D1 := hid (show decide (b = 0) = false by simpa using hb)
   clear hb
   go_enter Try.func114, Try.ntmps114
   go_wp2_with fail
   refine (l2Reg_any a _).mono ?_
   rintro e w1 ⟨rfl, rfl⟩
   rw [H1.out]
   go_wp2_with fail
   go_ret
   exact ⟨by rw [hs.out, H1.out, D1.out]; rfl, ((Below.refl _ _).alloc (Nat.le_refl _) _).alloc (by simp) _⟩
set_option maxRecDepth 100000 in
theorem l2Step_13 (a b : Int) (A : Option Addr) (n c : Nat) (hn : n ≤ 9223372036854775807) (w : World) :
  Calls Try.prog 114 #[.agg #[.slice A n c], .agg #[.int .i64 13, .int .i64 a, .int .i64 b]] w fun e w' => e = .returned (.bool (okStep n (13, a, b))) ∧ Below w.heap.size w w' := by
 have hs := hid (show okStep n (13, a, b) = (isReg a && decide (b = 0)) by simp [okStep])
 cases h1 : isReg a
 ·have H1 := hid h1
  clear h1
  go_enter Try.func114, Try.ntmps114
  go_wp2_with fail
  refine (l2Reg_any a _).mono ?_
  rintro e w1 ⟨rfl, rfl⟩
  rw [H1.out]
  go_wp2_with fail
  go_ret
  exact ⟨by rw [hs.out, H1.out]; rfl, ((Below.refl _ _).alloc (Nat.le_refl _) _).alloc (by simp) _⟩
 ·have H1 := hid h1
  clear h1
  by_cases hb : b = 0
  ·subst hb
   go_enter Try.func114, Try.ntmps114
   go_wp2_with fail
   refine (l2Reg_any a _).mono ?_
   rintro e w1 ⟨rfl, rfl⟩
   rw [H1.out]
   go_wp2_with fail
   go_ret
   exact ⟨by rw [hs.out, H1.out]; rfl, ((Below.refl _ _).alloc (Nat.le_refl _) _).alloc (by simp) _⟩
  ·have hb1 : (b == 0) = false := by simpa using hb
   have D1 := hid (show decide (b = 0) = false by simpa using hb)
   clear hb
   go_enter Try.func114, Try.ntmps114
   go_wp2_with fail
   refine (l2Reg_any a _).mono ?_
   rintro e w1 ⟨rfl, rfl⟩
   rw [H1.out]
   go_wp2_with fail
   go_ret
   exact ⟨by rw [hs.out, H1.out, D1.out]; rfl, ((Below.refl _ _).alloc (Nat.le_refl _) _).alloc (by simp) _⟩
set_option maxRecDepth 100000 in
theorem l2Step_10 (a b : Int) (A : Option Addr) (n c : Nat) (hn : n ≤ 9223372036854775807) (w : World) :
  Calls Try.prog 114 #[.agg #[.slice A n c], .agg #[.int .i64 10, .int .i64 a, .int .i64 b]] w fun e w' => e = .returned (.bool (okStep n (10, a, b))) ∧ Below w.heap.size w w' := by
 have hs := hid (show okStep n (10, a, b) = (decide (a = 0) && decide (b = 0)) by simp [okStep])
 by_cases ha : a = 0
 ·subst ha
  by_cases hb : b = 0
  ·subst hb
   go_enter Try.func114, Try.ntmps114
   go_wp2_with fail
   go_ret
   exact ⟨by rw [hs.out]; rfl, ((Below.refl _ _).alloc (Nat.le_refl _) _).alloc (by simp) _⟩
  ·have hb1 : (b == 0) = false := by simpa using hb
   have D1 := hid (show decide (b = 0) = false by simpa using hb)
   clear hb
   go_enter Try.func114, Try.ntmps114
   go_wp2_with fail
   go_ret
   exact ⟨by rw [hs.out, D1.out]; rfl, ((Below.refl _ _).alloc (Nat.le_refl _) _).alloc (by simp) _⟩
 ·have ha1 : (a == 0) = false := by simpa using ha
  have D1 := hid (show decide (a = 0) = false by simpa using ha)
  clear ha
  go_enter Try.func114, Try.ntmps114
  go_wp2_with fail
  go_ret
  exact ⟨by rw [hs.out, D1.out]; rfl, ((Below.refl _ _).alloc (Nat.le_refl _) _).alloc (by simp) _⟩
set_option maxRecDepth 100000 in
theorem l2Step_4 (a b : Int) (A : Option Addr) (n c : Nat) (hn : n ≤ 9223372036854775807) (w : World) :
  Calls Try.prog 114 #[.agg #[.slice A n c], .agg #[.int .i64 4, .int .i64 a, .int .i64 b]] w fun e w' => e = .returned (.bool (okStep n (4, a, b))) ∧ Below w.heap.size w w' := by
 have hs := hid (show okStep n (4, a, b) = (inP a n && isReg b) by simp [okStep, inP])
 cases h1 : inP a n
 ·have H1 := hid h1
  clear h1
  go_enter Try.func114, Try.ntmps114
  go_wp2_with fail
  refine (l2Function_any A n c a hn _).mono ?_
  rintro e w1 ⟨rfl, rfl⟩
  rw [H1.out]
  go_wp2_with fail
  go_ret
  exact ⟨by rw [hs.out, H1.out]; rfl, (((Below.refl _ _).alloc (Nat.le_refl _) _).alloc (by simp) _).alloc (by simp; omega) _⟩
 ·have H1 := hid h1
  clear h1
  go_enter Try.func114, Try.ntmps114
  go_wp2_with fail
  refine (l2Function_any A n c a hn _).mono ?_
  rintro e w1 ⟨rfl, rfl⟩
  rw [H1.out]
  go_wp2_with fail
  refine (l2Reg_any b _).mono ?_
  rintro e w1 ⟨rfl, rfl⟩
  go_wp2_with fail
  go_ret
  exact ⟨by rw [hs.out, H1.out]; rfl, (((Below.refl _ _).alloc (Nat.le_refl _) _).alloc (by simp) _).alloc (by simp; omega) _⟩
set_option maxRecDepth 100000 in
theorem l2Step_5 (a b : Int) (A : Option Addr) (n c : Nat) (hn : n ≤ 9223372036854775807) (w : World) :
  Calls Try.prog 114 #[.agg #[.slice A n c], .agg #[.int .i64 5, .int .i64 a, .int .i64 b]] w fun e w' => e = .returned (.bool (okStep n (5, a, b))) ∧ Below w.heap.size w w' := by
 have hs := hid (show okStep n (5, a, b) = (inP a n && isReg b) by simp [okStep, inP])
 cases h1 : inP a n
 ·have H1 := hid h1
  clear h1
  go_enter Try.func114, Try.ntmps114
  go_wp2_with fail
  refine (l2Function_any A n c a hn _).mono ?_
  rintro e w1 ⟨rfl, rfl⟩
  rw [H1.out]
  go_wp2_with fail
  go_ret
  exact ⟨by rw [hs.out, H1.out]; rfl, (((Below.refl _ _).alloc (Nat.le_refl _) _).alloc (by simp) _).alloc (by simp; omega) _⟩
 ·have H1 := hid h1
  clear h1
  go_enter Try.func114, Try.ntmps114
  go_wp2_with fail
  refine (l2Function_any A n c a hn _).mono ?_
  rintro e w1 ⟨rfl, rfl⟩
  rw [H1.out]
  go_wp2_with fail
  refine (l2Reg_any b _).mono ?_
  rintro e w1 ⟨rfl, rfl⟩
  go_wp2_with fail
  go_ret
  exact ⟨by rw [hs.out, H1.out]; rfl, (((Below.refl _ _).alloc (Nat.le_refl _) _).alloc (by simp) _).alloc (by simp; omega) _⟩
set_option maxRecDepth 100000 in
theorem l2Step_11 (a b : Int) (A : Option Addr) (n c : Nat) (hn : n ≤ 9223372036854775807) (w : World) :
  Calls Try.prog 114 #[.agg #[.slice A n c], .agg #[.int .i64 11, .int .i64 a, .int .i64 b]] w fun e w' => e = .returned (.bool (okStep n (11, a, b))) ∧ Below w.heap.size w w' := by
 have hs := hid (show okStep n (11, a, b) = (btw a 0 8 && isReg b) by simp [okStep, btw])
 cases h1 : btw a 0 8
 ·have H1 := hid h1
  clear h1
  go_enter Try.func114, Try.ntmps114
  go_wp2_with fail
  refine (l1In_any a 0 8 _).mono ?_
  rintro e w1 ⟨rfl, rfl⟩
  rw [H1.out]
  go_wp2_with fail
  go_ret
  exact ⟨by rw [hs.out, H1.out]; rfl, ((Below.refl _ _).alloc (Nat.le_refl _) _).alloc (by simp) _⟩
 ·have H1 := hid h1
  clear h1
  go_enter Try.func114, Try.ntmps114
  go_wp2_with fail
  refine (l1In_any a 0 8 _).mono ?_
  rintro e w1 ⟨rfl, rfl⟩
  rw [H1.out]
  go_wp2_with fail
  refine (l2Reg_any b _).mono ?_
  rintro e w1 ⟨rfl, rfl⟩
  go_wp2_with fail
  go_ret
  exact ⟨by rw [hs.out, H1.out]; rfl, ((Below.refl _ _).alloc (Nat.le_refl _) _).alloc (by simp) _⟩
set_option maxRecDepth 100000 in
theorem l2Step_no (k : Int) (hk : ¬ (1 ≤ k ∧ k ≤ 13)) (a b : Int) (A : Option Addr) (n c : Nat) (hn : n ≤ 9223372036854775807) (w : World) :
  Calls Try.prog 114 #[.agg #[.slice A n c], .agg #[.int .i64 k, .int .i64 a, .int .i64 b]] w fun e w' => e = .returned (.bool (okStep n (k, a, b))) ∧ Below w.heap.size w w' := by
 have hs := hid (show okStep n (k, a, b) = false by unfold okStep; simp only [show ¬ k = 1 by omega, show ¬ k = 2 by omega, show ¬ (k = 4 ∨ k = 5) by omega, show ¬ k = 11 by omega, show ¬ k = 10 by omega, show ¬ (k = 3 ∨ k = 6 ∨ k = 7 ∨ k = 8 ∨ k = 9 ∨ k = 12 ∨ k = 13) by omega, if_false])
 have n1 : (k == 1) = false := by simp; omega
 have n2 : (k == 2) = false := by simp; omega
 have n3 : (k == 3) = false := by simp; omega
 have n4 : (k == 4) = false := by simp; omega
 have n5 : (k == 5) = false := by simp; omega
 have n6 : (k == 6) = false := by simp; omega
 have n7 : (k == 7) = false := by simp; omega
 have n8 : (k == 8) = false := by simp; omega
 have n9 : (k == 9) = false := by simp; omega
 have n10 : (k == 10) = false := by simp; omega
 have n11 : (k == 11) = false := by simp; omega
 have n12 : (k == 12) = false := by simp; omega
 have n13 : (k == 13) = false := by simp; omega
 clear hk
 go_enter Try.func114, Try.ntmps114
 go_wp2_with fail
 go_ret
 exact ⟨by rw [hs.out]; rfl, ((Below.refl _ _).alloc (Nat.le_refl _) _).alloc (by simp) _⟩
theorem l2Step_any (k : Int) (a b : Int) (A : Option Addr) (n c : Nat) (hn : n ≤ 9223372036854775807) (w : World) :
  Calls Try.prog 114 #[.agg #[.slice A n c], .agg #[.int .i64 k, .int .i64 a, .int .i64 b]] w fun e w' => e = .returned (.bool (okStep n (k, a, b))) ∧ Below w.heap.size w w' := by
 by_cases hk : 1 ≤ k ∧ k ≤ 13
 ·have h : k = 1 ∨ k = 2 ∨ k = 3 ∨ k = 4 ∨ k = 5 ∨ k = 6 ∨ k = 7 ∨ k = 8 ∨ k = 9 ∨ k = 10 ∨ k = 11 ∨ k = 12 ∨ k = 13 := by omega
  rcases h with rfl | rfl | rfl | rfl | rfl | rfl | rfl | rfl | rfl | rfl | rfl | rfl | rfl
  ·exact l2Step_1 a b A n c hn w
  ·exact l2Step_2 a b A n c hn w
  ·exact l2Step_3 a b A n c hn w
  ·exact l2Step_4 a b A n c hn w
  ·exact l2Step_5 a b A n c hn w
  ·exact l2Step_6 a b A n c hn w
  ·exact l2Step_7 a b A n c hn w
  ·exact l2Step_8 a b A n c hn w
  ·exact l2Step_9 a b A n c hn w
  ·exact l2Step_10 a b A n c hn w
  ·exact l2Step_11 a b A n c hn w
  ·exact l2Step_12 a b A n c hn w
  ·exact l2Step_13 a b A n c hn w
 ·exact l2Step_no k hk a b A n c hn w
end Go.Proofs.Ytdmcgkcpclepfaa.StpS
-- squeezed
