import Derived.Test.YthejnpignlhgiaaM1
import Derived.Test.YthejnpignlhgiaaM9
import Derived.Deep.RegionWith
set_option linter.all false
namespace Go.Proofs.Ythejnpignlhgiaa.StpS
open Lib (hid)
open Go.ChangeShapes Go.WideShapes Go.ChangeAt Go.RowKit
open PL Mem To
def btw (x a b : Int) : Bool := decide (a ≤ x) && decide (x ≤ b)
theorem l1In_any (x a b : Int) (w : World) : Calls Try.prog 96 #[.int .i64 x, .int .i64 a, .int .i64 b] w fun e w' => e = .returned (.bool (btw x a b)) ∧ w = w' := by
 by_cases h1 : a ≤ x
 ·by_cases h2 : x ≤ b
  ·have hs := hid (show btw x a b = true by unfold btw; simp; omega)
   go_enter Try.func96, Try.ntmps96
   go_wp2
   go_ret
   exact ⟨by rw [hs.out]; rfl, rfl⟩
  ·have hs := hid (show btw x a b = false by unfold btw; simp; omega)
   go_enter Try.func96, Try.ntmps96
   go_wp2
   go_ret
   exact ⟨by rw [hs.out]; rfl, rfl⟩
 ·have hs := hid (show btw x a b = false by unfold btw; simp; omega)
  go_enter Try.func96, Try.ntmps96
  go_wp2
  go_ret
  exact ⟨by rw [hs.out]; rfl, rfl⟩
theorem l2Reg_any (r : Int) (w : World) : Calls Try.prog 120 #[.int .i64 r] w fun e w' => e = .returned (.bool (isReg r)) ∧ w = w' := by
 have hs := hid (show isReg r = btw r (0) (3) from rfl)
 go_enter Try.func120, Try.ntmps120
 go_wp2_with fail
 refine (l1In_any r (0) (3) _).mono ?_
 rintro e w1 ⟨rfl, rfl⟩
 go_wp2_with fail
 go_ret
 exact ⟨by rw [hs.out]; rfl, rfl⟩
theorem l2Number_any (r : Int) (w : World) : Calls Try.prog 78 #[.int .i64 r] w fun e w' => e = .returned (.bool (isNum r)) ∧ w = w' := by
 have hs := hid (show isNum r = btw r (-32768) (32767) from rfl)
 go_enter Try.func78, Try.ntmps78
 go_wp2_with fail
 refine (l1In_any r (-32768) (32767) _).mono ?_
 rintro e w1 ⟨rfl, rfl⟩
 go_wp2_with fail
 go_ret
 exact ⟨by rw [hs.out]; rfl, rfl⟩
def inP (f : Int) (n : Nat) : Bool := decide (0 ≤ f) && decide (f < (n : Int))
theorem l2Function_any (A : Option Addr) (n c : Nat) (f : Int) (hn : n ≤ 9223372036854775807) (w : World) : Calls Try.prog 98 #[.agg #[.slice A n c], .int .i64 f] w fun e w' => e = .returned (.bool (inP f n)) ∧ w.alloc (.cells #[.slice A n c] 35) = w' := by
 have hs := hid (show inP f n = btw f 0 ((n : Int) - 1) by unfold inP btw; congr 1; simp; omega)
 go_enter Try.func98, Try.ntmps98
 go_wp2_with fail
 refine (l1In_any f 0 ((n : Int) - 1) _).mono ?_
 rintro e w1 ⟨rfl, rfl⟩
 go_wp2_with fail
 go_ret
 exact ⟨by rw [hs.out]; rfl, rfl⟩
set_option maxRecDepth 100000 in
theorem l2Step_1 (a b : Int) (A : Option Addr) (n c : Nat) (hn : n ≤ 9223372036854775807) (w : World) :
  Calls Try.prog 97 #[.agg #[.slice A n c], .agg #[.int .i64 1, .int .i64 a, .int .i64 b]] w fun e w' => e = .returned (.bool (okStep n (1, a, b))) ∧ Below w.heap.size w w' := by
 have hs := hid (show okStep n (1, a, b) = (isReg a && isNum b) by simp [okStep])
 cases h1 : isReg a
 ·have H1 := hid h1
  clear h1
  go_enter Try.func97, Try.ntmps97
  go_wp2_with fail
  refine (l2Reg_any a _).mono ?_
  rintro e w1 ⟨rfl, rfl⟩
  rw [H1.out]
  go_wp2_with fail
  go_ret
  exact ⟨by rw [hs.out, H1.out]; rfl, ((Below.refl _ _).alloc (Nat.le_refl _) _).alloc (by simp) _⟩
 ·have H1 := hid h1
  clear h1
  go_enter Try.func97, Try.ntmps97
  go_wp2_with fail
  refine (l2Reg_any a _).mono ?_
  rintro e w1 ⟨rfl, rfl⟩
  rw [H1.out]
  go_wp2_with fail
  refine (l2Number_any b _).mono ?_
  rintro e w1 ⟨rfl, rfl⟩
  go_wp2_with fail
  go_ret
  exact ⟨by rw [hs.out, H1.out]; rfl, ((Below.refl _ _).alloc (Nat.le_refl _) _).alloc (by simp) _⟩
set_option maxRecDepth 100000 in
theorem l2Step_2 (a b : Int) (A : Option Addr) (n c : Nat) (hn : n ≤ 9223372036854775807) (w : World) :
  Calls Try.prog 97 #[.agg #[.slice A n c], .agg #[.int .i64 2, .int .i64 a, .int .i64 b]] w fun e w' => e = .returned (.bool (okStep n (2, a, b))) ∧ Below w.heap.size w w' := by
 have hs := hid (show okStep n (2, a, b) = (isReg a && isReg b) by simp [okStep])
 cases h1 : isReg a
 ·have H1 := hid h1
  clear h1
  go_enter Try.func97, Try.ntmps97
  go_wp2_with fail
  refine (l2Reg_any a _).mono ?_
  rintro e w1 ⟨rfl, rfl⟩
  rw [H1.out]
  go_wp2_with fail
  go_ret
  exact ⟨by rw [hs.out, H1.out]; rfl, ((Below.refl _ _).alloc (Nat.le_refl _) _).alloc (by simp) _⟩
 ·have H1 := hid h1
  clear h1
  go_enter Try.func97, Try.ntmps97
  go_wp2_with fail
  refine (l2Reg_any a _).mono ?_
  rintro e w1 ⟨rfl, rfl⟩
  rw [H1.out]
  go_wp2_with fail
  refine (l2Reg_any b _).mono ?_
  rintro e w1 ⟨rfl, rfl⟩
  go_wp2_with fail
  go_ret
  exact ⟨by rw [hs.out, H1.out]; rfl, ((Below.refl _ _).alloc (Nat.le_refl _) _).alloc (by simp) _⟩
set_option maxRecDepth 100000 in
theorem l2Step_3 (a b : Int) (A : Option Addr) (n c : Nat) (hn : n ≤ 9223372036854775807) (w : World) :
  Calls Try.prog 97 #[.agg #[.slice A n c], .agg #[.int .i64 3, .int .i64 a, .int .i64 b]] w fun e w' => e = .returned (.bool (okStep n (3, a, b))) ∧ Below w.heap.size w w' := by
 have hs := hid (show okStep n (3, a, b) = (isReg a && decide (b = 0)) by simp [okStep])
 cases h1 : isReg a
 ·have H1 := hid h1
  clear h1
  go_enter Try.func97, Try.ntmps97
  go_wp2_with fail
  refine (l2Reg_any a _).mono ?_
  rintro e w1 ⟨rfl, rfl⟩
  rw [H1.out]
  go_wp2_with fail
  go_ret
  exact ⟨by rw [hs.out, H1.out]; rfl, ((Below.refl _ _).alloc (Nat.le_refl _) _).alloc (by simp) _⟩
 ·have H1 := hid h1
  clear h1
  by_cases hb : b = 0
  ·subst hb
   go_enter Try.func97, Try.ntmps97
   go_wp2_with fail
   refine (l2Reg_any a _).mono ?_
   rintro e w1 ⟨rfl, rfl⟩
   rw [H1.out]
   go_wp2_with fail
   go_ret
   exact ⟨by rw [hs.out, H1.out]; rfl, ((Below.refl _ _).alloc (Nat.le_refl _) _).alloc (by simp) _⟩
  ·have hb1 : (b == 0) = false := by simpa using hb
   have D1 := hid (show decide (b = 0) = false by simpa using hb)
   clear hb
   go_enter Try.func97, Try.ntmps97
   go_wp2_with fail
   refine (l2Reg_any a _).mono ?_
   rintro e w1 ⟨rfl, rfl⟩
   rw [H1.out]
   go_wp2_with fail
   go_ret
   exact ⟨by rw [hs.out, H1.out, D1.out]; rfl, ((Below.refl _ _).alloc (Nat.le_refl _) _).alloc (by simp) _⟩
set_option maxRecDepth 100000 in
theorem l2Step_6 (a b : Int) (A : Option Addr) (n c : Nat) (hn : n ≤ 9223372036854775807) (w : World) :
  Calls Try.prog 97 #[.agg #[.slice A n c], .agg #[.int .i64 6, .int .i64 a, .int .i64 b]] w fun e w' => e = .returned (.bool (okStep n (6, a, b))) ∧ Below w.heap.size w w' := by
 have hs := hid (show okStep n (6, a, b) = (isReg a && decide (b = 0)) by simp [okStep])
 cases h1 : isReg a
 ·have H1 := hid h1
  clear h1
  go_enter Try.func97, Try.ntmps97
  go_wp2_with fail
  refine (l2Reg_any a _).mono ?_
  rintro e w1 ⟨rfl, rfl⟩
  rw [H1.out]
  go_wp2_with fail
  go_ret
  exact ⟨by rw [hs.out, H1.out]; rfl, ((Below.refl _ _).alloc (Nat.le_refl _) _).alloc (by simp) _⟩
 ·have H1 := hid h1
  clear h1
  by_cases hb : b = 0
  ·subst hb
   go_enter Try.func97, Try.ntmps97
   go_wp2_with fail
   refine (l2Reg_any a _).mono ?_
   rintro e w1 ⟨rfl, rfl⟩
   rw [H1.out]
   go_wp2_with fail
   go_ret
   exact ⟨by rw [hs.out, H1.out]; rfl, ((Below.refl _ _).alloc (Nat.le_refl _) _).alloc (by simp) _⟩
  ·have hb1 : (b == 0) = false := by simpa using hb
   have D1 := hid (show decide (b = 0) = false by simpa using hb)
   clear hb
   go_enter Try.func97, Try.ntmps97
   go_wp2_with fail
   refine (l2Reg_any a _).mono ?_
   rintro e w1 ⟨rfl, rfl⟩
   rw [H1.out]
   go_wp2_with fail
   go_ret
   exact ⟨by rw [hs.out, H1.out, D1.out]; rfl, ((Below.refl _ _).alloc (Nat.le_refl _) _).alloc (by simp) _⟩
set_option maxRecDepth 100000 in
theorem l2Step_7 (a b : Int) (A : Option Addr) (n c : Nat) (hn : n ≤ 9223372036854775807) (w : World) :
  Calls Try.prog 97 #[.agg #[.slice A n c], .agg #[.int .i64 7, .int .i64 a, .int .i64 b]] w fun e w' => e = .returned (.bool (okStep n (7, a, b))) ∧ Below w.heap.size w w' := by
 have hs := hid (show okStep n (7, a, b) = (isReg a && decide (b = 0)) by simp [okStep])
 cases h1 : isReg a
 ·have H1 := hid h1
  clear h1
  go_enter Try.func97, Try.ntmps97
  go_wp2_with fail
  refine (l2Reg_any a _).mono ?_
  rintro e w1 ⟨rfl, rfl⟩
  rw [H1.out]
  go_wp2_with fail
  go_ret
  exact ⟨by rw [hs.out, H1.out]; rfl, ((Below.refl _ _).alloc (Nat.le_refl _) _).alloc (by simp) _⟩
 ·have H1 := hid h1
  clear h1
  by_cases hb : b = 0
  ·subst hb
   go_enter Try.func97, Try.ntmps97
   go_wp2_with fail
   refine (l2Reg_any a _).mono ?_
   rintro e w1 ⟨rfl, rfl⟩
   rw [H1.out]
   go_wp2_with fail
   go_ret
   exact ⟨by rw [hs.out, H1.out]; rfl, ((Below.refl _ _).alloc (Nat.le_refl _) _).alloc (by simp) _⟩
  ·have hb1 : (b == 0) = false := by simpa using hb
   have D1 := hid (show decide (b = 0) = false by simpa using hb)
   clear hb
   go_enter Try.func97, Try.ntmps97
   go_wp2_with fail
   refine (l2Reg_any a _).mono ?_
   rintro e w1 ⟨rfl, rfl⟩
   rw [H1.out]
   go_wp2_with fail
   go_ret
   exact ⟨by rw [hs.out, H1.out, D1.out]; rfl, ((Below.refl _ _).alloc (Nat.le_refl _) _).alloc (by simp) _⟩
set_option maxRecDepth 100000 in
theorem l2Step_8 (a b : Int) (A : Option Addr) (n c : Nat) (hn : n ≤ 9223372036854775807) (w : World) :
  Calls Try.prog 97 #[.agg #[.slice A n c], .agg #[.int .i64 8, .int .i64 a, .int .i64 b]] w fun e w' => e = .returned (.bool (okStep n (8, a, b))) ∧ Below w.heap.size w w' := by
 have hs := hid (show okStep n (8, a, b) = (isReg a && decide (b = 0)) by simp [okStep])
 cases h1 : isReg a
 ·have H1 := hid h1
  clear h1
  go_enter Try.func97, Try.ntmps97
  go_wp2_with fail
  refine (l2Reg_any a _).mono ?_
  rintro e w1 ⟨rfl, rfl⟩
  rw [H1.out]
  go_wp2_with fail
  go_ret
  exact ⟨by rw [hs.out, H1.out]; rfl, ((Below.refl _ _).alloc (Nat.le_refl _) _).alloc (by simp) _⟩
 ·have H1 := hid h1
  clear h1
  by_cases hb : b = 0
  ·subst hb
   go_enter Try.func97, Try.ntmps97
   go_wp2_with fail
   refine (l2Reg_any a _).mono ?_
   rintro e w1 ⟨rfl, rfl⟩
   rw [H1.out]
   go_wp2_with fail
   go_ret
   exact ⟨by rw [hs.out, H1.out]; rfl, ((Below.refl _ _).alloc (Nat.le_refl _) _).alloc (by simp) _⟩
  ·have hb1 : (b == 0) = false := by simpa using hb
   have D1 := hid (show decide (b = 0) = false by simpa using hb)
   clear hb
   go_enter Try.func97, Try.ntmps97
   go_wp2_with fail
   refine (l2Reg_any a _).mono ?_
   rintro e w1 ⟨rfl, rfl⟩
   rw [H1.out]
   go_wp2_with fail
   go_ret
   exact ⟨by rw [hs.out, H1.out, D1.out]; rfl, ((Below.refl _ _).alloc (Nat.le_refl _) _).alloc (by simp) _⟩
set_option maxRecDepth 100000 in
theorem l2Step_9 (a b : Int) (A : Option Addr) (n c : Nat) (hn : n ≤ 9223372036854775807) (w : World) :
  Calls Try.prog 97 #[.agg #[.slice A n c], .agg #[.int .i64 9, .int .i64 a, .int .i64 b]] w fun e w' => e = .returned (.bool (okStep n (9, a, b))) ∧ Below w.heap.size w w' := by
 have hs := hid (show okStep n (9, a, b) = (isReg a && decide (b = 0)) by simp [okStep])
 cases h1 : isReg a
 ·have H1 := hid h1
  clear h1
  go_enter Try.func97, Try.ntmps97
  go_wp2_with fail
  refine (l2Reg_any a _).mono ?_
  rintro e w1 ⟨rfl, rfl⟩
  rw [H1.out]
  go_wp2_with fail
  go_ret
  exact ⟨by rw [hs.out, H1.out]; rfl, ((Below.refl _ _).alloc (Nat.le_refl _) _).alloc (by simp) _⟩
 ·have H1 := hid h1
  clear h1
  by_cases hb : b = 0
  ·subst hb
   go_enter Try.func97, Try.ntmps97
   go_wp2_with fail
   refine (l2Reg_any a _).mono ?_
   rintro e w1 ⟨rfl, rfl⟩
   rw [H1.out]
   go_wp2_with fail
   go_ret
   exact ⟨by rw [hs.out, H1.out]; rfl, ((Below.refl _ _).alloc (Nat.le_refl _) _).alloc (by simp) _⟩
  ·have hb1 : (b == 0) = false := by simpa using hb
   have D1 := hid (show decide (b = 0) = false by simpa using hb)
   clear hb
   go_enter Try.func97, Try.ntmps97
   go_wp2_with fail
   refine (l2Reg_any a _).mono ?_
   rintro e w1 ⟨rfl, rfl⟩
   rw [H1.out]
   go_wp2_with fail
   go_ret
   exact ⟨by rw [hs.out, H1.out, D1.out]; rfl, ((Below.refl _ _).alloc (Nat.le_refl _) _).alloc (by simp) _⟩
set_option maxRecDepth 100000 in
theorem l2Step_12 (a b : Int) (A : Option Addr) (n c : Nat) (hn : n ≤ 9223372036854775807) (w : World) :
  Calls Try.prog 97 #[.agg #[.slice A n c], .agg #[.int .i64 12, .int .i64 a, .int .i64 b]] w fun e w' => e = .returned (.bool (okStep n (12, a, b))) ∧ Below w.heap.size w w' := by
 have hs := hid (show okStep n (12, a, b) = (isReg a && decide (b = 0)) by simp [okStep])
 cases h1 : isReg a
 ·have H1 := hid h1
  clear h1
  go_enter Try.func97, Try.ntmps97
  go_wp2_with fail
  refine (l2Reg_any a _).mono ?_
  rintro e w1 ⟨rfl, rfl⟩
  rw [H1.out]
  go_wp2_with fail
  go_ret
  exact ⟨by rw [hs.out, H1.out]; rfl, ((Below.refl _ _).alloc (Nat.le_refl _) _).alloc (by simp) _⟩
 ·have H1 := hid h1
  clear h1
  by_cases hb : b = 0
  ·subst hb
   go_enter Try.func97, Try.ntmps97
   go_wp2_with fail
   refine (l2Reg_any a _).mono ?_
   rintro e w1 ⟨rfl, rfl⟩
   rw [H1.out]
   go_wp2_with fail
   go_ret
   exact ⟨by rw [hs.out, H1.out]; rfl, ((Below.refl _ _).alloc (Nat.le_refl _) _).alloc (by simp) _⟩
  ·have hb1 : (b == 0) = false := by simpa using hb
   have D1 := hid (show decide (b = 0) = false by simpa using hb)
   clear hb
   go_enter Try.func97, Try.ntmps97
   go_wp2_with fail
   refine (l2Reg_any a _).mono ?_
   rintro e w1 ⟨rfl, rfl⟩
   rw [H1.out]
   go_wp2_with fail
   go_ret
   exact ⟨by rw [hs.out, H1.out, D1.out]; rfl, ((Below.refl _ _).alloc (Nat.le_refl _) _).alloc (by simp) _⟩
set_option maxRecDepth 100000 in
theorem l2Step_13 (a b : Int) (A : Option Addr) (n c : Nat) (hn : n ≤ 9223372036854775807) (w : World) :
  Calls Try.prog 97 #[.agg #[.slice A n c], .agg #[.int .i64 13, .int .i64 a, .int .i64 b]] w fun e w' => e = .returned (.bool (okStep n (13, a, b))) ∧ Below w.heap.size w w' := by
 have hs := hid (show okStep n (13, a, b) = (isReg a && decide (b = 0)) by simp [okStep])
 cases h1 : isReg a
 ·have H1 := hid h1
  clear h1
  go_enter Try.func97, Try.ntmps97
  go_wp2_with fail
  refine (l2Reg_any a _).mono ?_
  rintro e w1 ⟨rfl, rfl⟩
  rw [H1.out]
  go_wp2_with fail
  go_ret
  exact ⟨by rw [hs.out, H1.out]; rfl, ((Below.refl _ _).alloc (Nat.le_refl _) _).alloc (by simp) _⟩
 ·have H1 := hid h1
  clear h1
  by_cases hb : b = 0
  ·subst hb
   go_enter Try.func97, Try.ntmps97
   go_wp2_with fail
   refine (l2Reg_any a _).mono ?_
   rintro e w1 ⟨rfl, rfl⟩
   rw [H1.out]
   go_wp2_with fail
   go_ret
   exact ⟨by rw [hs.out, H1.out]; rfl, ((Below.refl _ _).alloc (Nat.le_refl _) _).alloc (by simp) _⟩
  ·have hb1 : (b == 0) = false := by simpa using hb
   have D1 := hid (show decide (b = 0) = false by simpa using hb)
   clear hb
   go_enter Try.func97, Try.ntmps97
   go_wp2_with fail
   refine (l2Reg_any a _).mono ?_
   rintro e w1 ⟨rfl, rfl⟩
   rw [H1.out]
   go_wp2_with fail
   go_ret
   exact ⟨by rw [hs.out, H1.out, D1.out]; rfl, ((Below.refl _ _).alloc (Nat.le_refl _) _).alloc (by simp) _⟩
set_option maxRecDepth 100000 in
theorem l2Step_10 (a b : Int) (A : Option Addr) (n c : Nat) (hn : n ≤ 9223372036854775807) (w : World) :
  Calls Try.prog 97 #[.agg #[.slice A n c], .agg #[.int .i64 10, .int .i64 a, .int .i64 b]] w fun e w' => e = .returned (.bool (okStep n (10, a, b))) ∧ Below w.heap.size w w' := by
 have hs := hid (show okStep n (10, a, b) = (decide (a = 0) && decide (b = 0)) by simp [okStep])
 by_cases ha : a = 0
 ·subst ha
  by_cases hb : b = 0
  ·subst hb
   go_enter Try.func97, Try.ntmps97
   go_wp2_with fail
   go_ret
   exact ⟨by rw [hs.out]; rfl, ((Below.refl _ _).alloc (Nat.le_refl _) _).alloc (by simp) _⟩
  ·have hb1 : (b == 0) = false := by simpa using hb
   have D1 := hid (show decide (b = 0) = false by simpa using hb)
   clear hb
   go_enter Try.func97, Try.ntmps97
   go_wp2_with fail
   go_ret
   exact ⟨by rw [hs.out, D1.out]; rfl, ((Below.refl _ _).alloc (Nat.le_refl _) _).alloc (by simp) _⟩
 ·have ha1 : (a == 0) = false := by simpa using ha
  have D1 := hid (show decide (a = 0) = false by simpa using ha)
  clear ha
  go_enter Try.func97, Try.ntmps97
  go_wp2_with fail
  go_ret
  exact ⟨by rw [hs.out, D1.out]; rfl, ((Below.refl _ _).alloc (Nat.le_refl _) _).alloc (by simp) _⟩
set_option maxRecDepth 100000 in
theorem l2Step_4 (a b : Int) (A : Option Addr) (n c : Nat) (hn : n ≤ 9223372036854775807) (w : World) :
  Calls Try.prog 97 #[.agg #[.slice A n c], .agg #[.int .i64 4, .int .i64 a, .int .i64 b]] w fun e w' => e = .returned (.bool (okStep n (4, a, b))) ∧ Below w.heap.size w w' := by
 have hs := hid (show okStep n (4, a, b) = (inP a n && isReg b) by simp [okStep, inP])
 cases h1 : inP a n
 ·have H1 := hid h1
  clear h1
  go_enter Try.func97, Try.ntmps97
  go_wp2_with fail
  refine (l2Function_any A n c a hn _).mono ?_
  rintro e w1 ⟨rfl, rfl⟩
  rw [H1.out]
  go_wp2_with fail
  go_ret
  exact ⟨by rw [hs.out, H1.out]; rfl, (((Below.refl _ _).alloc (Nat.le_refl _) _).alloc (by simp) _).alloc (by simp; omega) _⟩
 ·have H1 := hid h1
  clear h1
  go_enter Try.func97, Try.ntmps97
  go_wp2_with fail
  refine (l2Function_any A n c a hn _).mono ?_
  rintro e w1 ⟨rfl, rfl⟩
  rw [H1.out]
  go_wp2_with fail
  refine (l2Reg_any b _).mono ?_
  rintro e w1 ⟨rfl, rfl⟩
  go_wp2_with fail
  go_ret
  exact ⟨by rw [hs.out, H1.out]; rfl, (((Below.refl _ _).alloc (Nat.le_refl _) _).alloc (by simp) _).alloc (by simp; omega) _⟩
set_option maxRecDepth 100000 in
theorem l2Step_5 (a b : Int) (A : Option Addr) (n c : Nat) (hn : n ≤ 9223372036854775807) (w : World) :
  Calls Try.prog 97 #[.agg #[.slice A n c], .agg #[.int .i64 5, .int .i64 a, .int .i64 b]] w fun e w' => e = .returned (.bool (okStep n (5, a, b))) ∧ Below w.heap.size w w' := by
 have hs := hid (show okStep n (5, a, b) = (inP a n && isReg b) by simp [okStep, inP])
 cases h1 : inP a n
 ·have H1 := hid h1
  clear h1
  go_enter Try.func97, Try.ntmps97
  go_wp2_with fail
  refine (l2Function_any A n c a hn _).mono ?_
  rintro e w1 ⟨rfl, rfl⟩
  rw [H1.out]
  go_wp2_with fail
  go_ret
  exact ⟨by rw [hs.out, H1.out]; rfl, (((Below.refl _ _).alloc (Nat.le_refl _) _).alloc (by simp) _).alloc (by simp; omega) _⟩
 ·have H1 := hid h1
  clear h1
  go_enter Try.func97, Try.ntmps97
  go_wp2_with fail
  refine (l2Function_any A n c a hn _).mono ?_
  rintro e w1 ⟨rfl, rfl⟩
  rw [H1.out]
  go_wp2_with fail
  refine (l2Reg_any b _).mono ?_
  rintro e w1 ⟨rfl, rfl⟩
  go_wp2_with fail
  go_ret
  exact ⟨by rw [hs.out, H1.out]; rfl, (((Below.refl _ _).alloc (Nat.le_refl _) _).alloc (by simp) _).alloc (by simp; omega) _⟩
set_option maxRecDepth 100000 in
theorem l2Step_11 (a b : Int) (A : Option Addr) (n c : Nat) (hn : n ≤ 9223372036854775807) (w : World) :
  Calls Try.prog 97 #[.agg #[.slice A n c], .agg #[.int .i64 11, .int .i64 a, .int .i64 b]] w fun e w' => e = .returned (.bool (okStep n (11, a, b))) ∧ Below w.heap.size w w' := by
 have hs := hid (show okStep n (11, a, b) = (btw a 0 8 && isReg b) by simp [okStep, btw])
 cases h1 : btw a 0 8
 ·have H1 := hid h1
  clear h1
  go_enter Try.func97, Try.ntmps97
  go_wp2_with fail
  refine (l1In_any a 0 8 _).mono ?_
  rintro e w1 ⟨rfl, rfl⟩
  rw [H1.out]
  go_wp2_with fail
  go_ret
  exact ⟨by rw [hs.out, H1.out]; rfl, ((Below.refl _ _).alloc (Nat.le_refl _) _).alloc (by simp) _⟩
 ·have H1 := hid h1
  clear h1
  go_enter Try.func97, Try.ntmps97
  go_wp2_with fail
  refine (l1In_any a 0 8 _).mono ?_
  rintro e w1 ⟨rfl, rfl⟩
  rw [H1.out]
  go_wp2_with fail
  refine (l2Reg_any b _).mono ?_
  rintro e w1 ⟨rfl, rfl⟩
  go_wp2_with fail
  go_ret
  exact ⟨by rw [hs.out, H1.out]; rfl, ((Below.refl _ _).alloc (Nat.le_refl _) _).alloc (by simp) _⟩
set_option maxRecDepth 100000 in
theorem l2Step_no (k : Int) (hk : ¬ (1 ≤ k ∧ k ≤ 13)) (a b : Int) (A : Option Addr) (n c : Nat) (hn : n ≤ 9223372036854775807) (w : World) :
  Calls Try.prog 97 #[.agg #[.slice A n c], .agg #[.int .i64 k, .int .i64 a, .int .i64 b]] w fun e w' => e = .returned (.bool (okStep n (k, a, b))) ∧ Below w.heap.size w w' := by
 have hs := hid (show okStep n (k, a, b) = false by unfold okStep; simp only [show ¬ k = 1 by omega, show ¬ k = 2 by omega, show ¬ (k = 4 ∨ k = 5) by omega, show ¬ k = 11 by omega, show ¬ k = 10 by omega, show ¬ (k = 3 ∨ k = 6 ∨ k = 7 ∨ k = 8 ∨ k = 9 ∨ k = 12 ∨ k = 13) by omega, if_false])
 have n1 : (k == 1) = false := by simp; omega
 have n2 : (k == 2) = false := by simp; omega
 have n3 : (k == 3) = false := by simp; omega
 have n4 : (k == 4) = false := by simp; omega
 have n5 : (k == 5) = false := by simp; omega
 have n6 : (k == 6) = false := by simp; omega
 have n7 : (k == 7) = false := by simp; omega
 have n8 : (k == 8) = false := by simp; omega
 have n9 : (k == 9) = false := by simp; omega
 have n10 : (k == 10) = false := by simp; omega
 have n11 : (k == 11) = false := by simp; omega
 have n12 : (k == 12) = false := by simp; omega
 have n13 : (k == 13) = false := by simp; omega
 clear hk
 go_enter Try.func97, Try.ntmps97
 go_wp2_with fail
 go_ret
 exact ⟨by rw [hs.out]; rfl, ((Below.refl _ _).alloc (Nat.le_refl _) _).alloc (by simp) _⟩
theorem l2Step_any (k : Int) (a b : Int) (A : Option Addr) (n c : Nat) (hn : n ≤ 9223372036854775807) (w : World) :
  Calls Try.prog 97 #[.agg #[.slice A n c], .agg #[.int .i64 k, .int .i64 a, .int .i64 b]] w fun e w' => e = .returned (.bool (okStep n (k, a, b))) ∧ Below w.heap.size w w' := by
 by_cases hk : 1 ≤ k ∧ k ≤ 13
 ·have h : k = 1 ∨ k = 2 ∨ k = 3 ∨ k = 4 ∨ k = 5 ∨ k = 6 ∨ k = 7 ∨ k = 8 ∨ k = 9 ∨ k = 10 ∨ k = 11 ∨ k = 12 ∨ k = 13 := by omega
  rcases h with rfl | rfl | rfl | rfl | rfl | rfl | rfl | rfl | rfl | rfl | rfl | rfl | rfl
  ·exact l2Step_1 a b A n c hn w
  ·exact l2Step_2 a b A n c hn w
  ·exact l2Step_3 a b A n c hn w
  ·exact l2Step_4 a b A n c hn w
  ·exact l2Step_5 a b A n c hn w
  ·exact l2Step_6 a b A n c hn w
  ·exact l2Step_7 a b A n c hn w
  ·exact l2Step_8 a b A n c hn w
  ·exact l2Step_9 a b A n c hn w
  ·exact l2Step_10 a b A n c hn w
  ·exact l2Step_11 a b A n c hn w
  ·exact l2Step_12 a b A n c hn w
  ·exact l2Step_13 a b A n c hn w
 ·exact l2Step_no k hk a b A n c hn w
end Go.Proofs.Ythejnpignlhgiaa.StpS

namespace Go.Proofs.Ythejnpignlhgiaa.PrgS
open Lib (hid)
open Go.ChangeShapes Go.WideShapes Go.ChangeAt Go.RowKit
open PL Mem To StpS Prg
set_option maxHeartbeats 1000000 in
theorem l2Program_any (B : Nat) (A : Option Addr) (n c : Nat) (p : Pg) (hn : n ≤ 9223372036854775807) (hl : p.length = n) (hsm : Small p 9223372036854775807) (w : World) (hr : RdP w B A p) (hB : B ≤ w.heap.size) :
  Calls Try.prog 60 #[.agg #[.slice A n c]] w fun e w' => e = .returned (.bool (okProg p)) ∧ Below w.heap.size w w' := by
 have hR := hid hr
 have hL := hid hl
 have hS := hid hsm
 clear hr hl hsm
 cases hin : btw n 1 6
 ·have hI := hid hin
  have hs := hid (show okProg p = false from okProg_len hL.out (by unfold btw at hin; simp at hin; omega))
  clear hin
  go_enter Try.func60, Try.ntmps60
  go_wp2_with fail
  refine (l1In_any n 1 6 _).mono ?_
  rintro e w1 ⟨rfl, rfl⟩
  rw [hI.out]
  go_wp2_with fail
  go_ret
  exact ⟨by rw [hs.out]; rfl, (Below.refl _ _).alloc (Nat.le_refl _) _⟩
 have h16 : 1 ≤ n ∧ n ≤ 6 := by unfold btw at hin; simp at hin; omega
 obtain ⟨hn1, hn6⟩ := h16
 have hI := hid hin
 clear hin
 go_enter Try.func60, Try.ntmps60
 go_wp2_with fail
 refine (l1In_any n 1 6 _).mono ?_
 rintro e w1 ⟨rfl, rfl⟩
 rw [hI.out]
 go_wp2_with fail
 go_loopw [3] (fun i wr => ∃ k : Nat, k ≤ n ∧ i = .int .i64 k ∧ allOk n p k ∧ Below (w.heap.size + 1) (w.alloc (.cells #[.slice A n c] 35)) wr) (fun i _ => n - (intOf i).toNat)
 case atStart => exact ⟨0, Nat.zero_le _, rfl, fun _ _ h => absurd h (by omega), Below.refl _ _⟩
 case round =>
  obtain ⟨k, hk, rfl, hok, hb⟩ := hrel
  have hO := hid hok
  clear hok
  have hsz : w.heap.size + 1 ≤ wr.heap.size := by have := hb.size; simpa using this
  have cb : wr.cell? ⟨w.heap.size, 0, none⟩ = some (.slice A n c) := (hb.cell (p := ⟨w.heap.size, 0, none⟩) (by simp)).trans (by simp [go_sem])
  have hRb : Hid (RdP wr B A p) := hid ((hR.out.below ((Below.refl B w).alloc hB _)).below (hb.mono (by omega)))
  have hbw : Below w.heap.size w wr := ((Below.refl _ _).alloc (Nat.le_refl _) _).trans (hb.mono (by omega))
  by_cases hlt : k < n
  ·obtain ⟨xs, hs⟩ : ∃ s, p[k]? = some s := ⟨_, List.getElem?_eq_getElem (by rw [hL.out]; exact hlt)⟩
   obtain ⟨ad, Ai, ci, rfl, hab, h0, h1⟩ := hRb.out k _ hs
   have hH := hid hs
   have hxn := hS.out k xs hs
   have H1 := hid h1
   clear hs h1
   by_cases h8 : 8 < xs.length
   ·have hs := hid (show okProg p = false from okProg_bad hL.out hH.out (okBody_long (by omega)))
    go_wp2_with fail
    go_ret
    exact ⟨by rw [hs.out]; rfl, hbw⟩
   ·go_wp2_with fail
    obtain ⟨wo, rfl⟩ : ∃ wo : World, wo = wr := ⟨_, rfl⟩
    go_loopw [4] (fun i wr => ∃ j : Nat, j ≤ xs.length ∧ i = .int .i64 j ∧ allSt n xs j ∧ Below wo.heap.size wo wr) (fun i _ => xs.length - (intOf i).toNat)
    case atStart => exact ⟨0, Nat.zero_le _, rfl, fun _ _ h => absurd h (by omega), Below.refl _ _⟩
    case round =>
     obtain ⟨j, hj, rfl, hst, hb2⟩ := hrel
     have hT := hid hst
     clear hst
     have hsz2 := hb2.size
     have cb2 : wr.cell? ⟨w.heap.size, 0, none⟩ = some (.slice (some ad) n c) := (hb2.cell (p := ⟨w.heap.size, 0, none⟩) (by show w.heap.size < wo.heap.size; omega)).trans cb
     have cr2 : wr.cell? (ad.add k) = some (.slice Ai xs.length ci) := (hb2.cell (by rw [block_of_add]; omega)).trans h0
     by_cases hjl : j < xs.length
     ·obtain ⟨⟨s0, s1, s2⟩, hs⟩ : ∃ s, xs[j]? = some s := ⟨_, List.getElem?_eq_getElem hjl⟩
      obtain ⟨ad', rfl, hab', c0, c1, c2⟩ := (H1.out.below (hb2.mono (by omega))) j _ hs
      dsimp only at c0 c1 c2
      have hX := hid hs
      clear hs
      cases hok : okStep n (s0, s1, s2)
      ·have hs := hid (show okProg p = false from okProg_bad hL.out hH.out (okBody_bad hX.out hok))
       have hC := hid (fun w => by have := l2Step_any s0 s1 s2 (some ad) n c hn w; rw [hok] at this; exact this)
       clear hok
       go_wp2_with fail
       go_region_with (go_at_call 97; refine (hC.out _).mono ?_; rintro e w1 ⟨rfl, hb3⟩)
       all_goals
        go_wp2_with fail
        go_ret
        exact ⟨by rw [hs.out]; rfl, (hbw.trans (hb2.mono hbw.size)).trans ((below_undrew hb3).mono (Nat.le_trans hbw.size hsz2))⟩
      ·have hN := hid (allSt_next hT.out hX.out hok)
       have hC := hid (fun w => by have := l2Step_any s0 s1 s2 (some ad) n c hn w; rw [hok] at this; exact this)
       clear hok
       go_wp2_with fail
       go_region_with (go_at_call 97; refine (hC.out _).mono ?_; rintro e w1 ⟨rfl, hb3⟩)
       all_goals
        go_wp2_with fail
        go_roundw
        case rel => exact ⟨j + 1, by omega, by go_num, hN.out, hb2.trans ((below_undrew hb3).mono hsz2)⟩
        case measure => simp [intOf]; omega
     ·obtain rfl : j = xs.length := by omega
      have hN := hid (allOk_next hO.out hH.out (okBody_yes (by omega) hT.out))
      go_wp2_with fail
      go_roundw
      case rel => exact ⟨k + 1, by omega, by go_num, hN.out, hb.trans (hb2.mono hsz)⟩
      case measure => simp [intOf]; omega
  ·obtain rfl : k = n := by omega
   have hs := hid (show okProg p = true from okProg_yes hL.out (by omega) (by omega) hO.out)
   go_wp2_with fail
   go_ret
   exact ⟨by rw [hs.out]; rfl, hbw⟩
end Go.Proofs.Ythejnpignlhgiaa.PrgS
