/- IsStep, the program's and the model's: whether a step is valid in a program. -/
import Derived.Test.YthjafhebebnldaaIspS
namespace Go.Proofs.Ythjafhebebnldaa.IsStepC
set_option linter.unusedVariables false
set_option linter.unusedSimpArgs false
open Go.ChangeShapes Go.WideShapes Go.ChangeAt Go.RowKit
open PL Mem To StpS Prg PrgS Stp

theorem implIsStep (B : Nat) (A : Option Addr) (n c : Nat) (p : Pg) (k a b : Int) (hn : n ≤ 9223372036854775807) (hl : p.length = n) (hsm : Small p 9223372036854775807) (w : World) (hr : RdP w B A p) (hB : B ≤ w.heap.size) :
    Calls Try.prog 20 #[.agg #[.slice A n c], .agg #[.int .i64 k, .int .i64 a, .int .i64 b]] w fun e w' => e = .returned (.tuple #[.bool (okProg p && okStep n (k, a, b)), .bool (okProg p)]) ∧ Below w.heap.size w w' := by
  have hC := fun w hr hB => isProgram_any B A n c p hn hl hsm w hr hB
  have hR := Lib.hid hr
  clear hr hl hsm
  have h2 : ∀ o o' : Obj, Below w.heap.size w ((w.alloc o).alloc o') := fun o o' => ((Below.refl _ _).alloc (Nat.le_refl _) _).alloc (by simp) _
  have h3 : ∀ o o' : Obj, w.heap.size < ((w.alloc o).alloc o').heap.size ∧ w.heap.size + 1 < ((w.alloc o).alloc o').heap.size := fun o o' => by simp; omega
  cases hok : okProg p
  · rw [hok] at hC
    have HC := Lib.hid hC
    clear hC hok
    go_enter Try.func20, Try.ntmps20
    go_wp2_with fail
    refine (HC.out _ (hR.out.below ((h2 _ _).mono hB)) (Nat.le_trans hB (h2 _ _).size)).mono ?_
    rintro e w1 ⟨rfl, b1⟩
    have kp : w1.cell? ⟨w.heap.size, 0, none⟩ = some (.slice A n c) := (b1.cell (p := ⟨w.heap.size, 0, none⟩) (h3 _ _).1).trans (by simp [go_sem])
    have k0 : w1.cell? ⟨w.heap.size + 1, 0, none⟩ = some (.int .i64 k) := (b1.cell (p := ⟨w.heap.size + 1, 0, none⟩) (h3 _ _).2).trans (by simp [go_sem])
    have k1 : w1.cell? ⟨w.heap.size + 1, 1, none⟩ = some (.int .i64 a) := (b1.cell (p := ⟨w.heap.size + 1, 1, none⟩) (h3 _ _).2).trans (by simp [go_sem])
    have k2 : w1.cell? ⟨w.heap.size + 1, 2, none⟩ = some (.int .i64 b) := (b1.cell (p := ⟨w.heap.size + 1, 2, none⟩) (h3 _ _).2).trans (by simp [go_sem])
    have bb1 : Below w.heap.size w w1 := (h2 _ _).trans (b1.mono (h2 _ _).size)
    go_wp2_with fail
    go_ret2
    exact ⟨rfl, bb1⟩
  · rw [hok] at hC
    have HC := Lib.hid hC
    clear hC hok
    go_enter Try.func20, Try.ntmps20
    go_wp2_with fail
    refine (HC.out _ (hR.out.below ((h2 _ _).mono hB)) (Nat.le_trans hB (h2 _ _).size)).mono ?_
    rintro e w1 ⟨rfl, b1⟩
    have kp : w1.cell? ⟨w.heap.size, 0, none⟩ = some (.slice A n c) := (b1.cell (p := ⟨w.heap.size, 0, none⟩) (h3 _ _).1).trans (by simp [go_sem])
    have k0 : w1.cell? ⟨w.heap.size + 1, 0, none⟩ = some (.int .i64 k) := (b1.cell (p := ⟨w.heap.size + 1, 0, none⟩) (h3 _ _).2).trans (by simp [go_sem])
    have k1 : w1.cell? ⟨w.heap.size + 1, 1, none⟩ = some (.int .i64 a) := (b1.cell (p := ⟨w.heap.size + 1, 1, none⟩) (h3 _ _).2).trans (by simp [go_sem])
    have k2 : w1.cell? ⟨w.heap.size + 1, 2, none⟩ = some (.int .i64 b) := (b1.cell (p := ⟨w.heap.size + 1, 2, none⟩) (h3 _ _).2).trans (by simp [go_sem])
    have bb1 : Below w.heap.size w w1 := (h2 _ _).trans (b1.mono (h2 _ _).size)
    go_wp2_with fail
    refine (isStep_any k a b n hn _).mono ?_
    rintro e w2 ⟨rfl, b2⟩
    go_wp2_with fail
    go_ret2
    exact ⟨by simp, bb1.trans (b2.mono bb1.size)⟩
theorem specIsStep (B : Nat) (A : Option Addr) (n c : Nat) (p : Pg) (k a b : Int) (hn : n ≤ 9223372036854775807) (hl : p.length = n) (hsm : Small p 9223372036854775807) (w : World) (hr : RdP w B A p) (hB : B ≤ w.heap.size) :
    Calls Try.prog 18 #[.agg #[.slice A n c], .agg #[.int .i64 k, .int .i64 a, .int .i64 b]] w fun e w' => e = .returned (.tuple #[.bool (okProg p && okStep n (k, a, b)), .bool (okProg p)]) ∧ Below w.heap.size w w' := by
  have hC := fun w hr hB => l2Program_any B A n c p hn hl hsm w hr hB
  have hR := Lib.hid hr
  clear hr hl hsm
  have h2 : ∀ o o' : Obj, Below w.heap.size w ((w.alloc o).alloc o') := fun o o' => ((Below.refl _ _).alloc (Nat.le_refl _) _).alloc (by simp) _
  have h3 : ∀ o o' : Obj, w.heap.size < ((w.alloc o).alloc o').heap.size ∧ w.heap.size + 1 < ((w.alloc o).alloc o').heap.size := fun o o' => by simp; omega
  cases hok : okProg p
  · rw [hok] at hC
    have HC := Lib.hid hC
    clear hC hok
    go_enter Try.func18, Try.ntmps18
    go_wp2_with fail
    refine (HC.out _ (hR.out.below ((h2 _ _).mono hB)) (Nat.le_trans hB (h2 _ _).size)).mono ?_
    rintro e w1 ⟨rfl, b1⟩
    have kp : w1.cell? ⟨w.heap.size, 0, none⟩ = some (.slice A n c) := (b1.cell (p := ⟨w.heap.size, 0, none⟩) (h3 _ _).1).trans (by simp [go_sem])
    have k0 : w1.cell? ⟨w.heap.size + 1, 0, none⟩ = some (.int .i64 k) := (b1.cell (p := ⟨w.heap.size + 1, 0, none⟩) (h3 _ _).2).trans (by simp [go_sem])
    have k1 : w1.cell? ⟨w.heap.size + 1, 1, none⟩ = some (.int .i64 a) := (b1.cell (p := ⟨w.heap.size + 1, 1, none⟩) (h3 _ _).2).trans (by simp [go_sem])
    have k2 : w1.cell? ⟨w.heap.size + 1, 2, none⟩ = some (.int .i64 b) := (b1.cell (p := ⟨w.heap.size + 1, 2, none⟩) (h3 _ _).2).trans (by simp [go_sem])
    have bb1 : Below w.heap.size w w1 := (h2 _ _).trans (b1.mono (h2 _ _).size)
    go_wp2_with fail
    go_ret2
    exact ⟨rfl, bb1⟩
  · rw [hok] at hC
    have HC := Lib.hid hC
    clear hC hok
    go_enter Try.func18, Try.ntmps18
    go_wp2_with fail
    refine (HC.out _ (hR.out.below ((h2 _ _).mono hB)) (Nat.le_trans hB (h2 _ _).size)).mono ?_
    rintro e w1 ⟨rfl, b1⟩
    have kp : w1.cell? ⟨w.heap.size, 0, none⟩ = some (.slice A n c) := (b1.cell (p := ⟨w.heap.size, 0, none⟩) (h3 _ _).1).trans (by simp [go_sem])
    have k0 : w1.cell? ⟨w.heap.size + 1, 0, none⟩ = some (.int .i64 k) := (b1.cell (p := ⟨w.heap.size + 1, 0, none⟩) (h3 _ _).2).trans (by simp [go_sem])
    have k1 : w1.cell? ⟨w.heap.size + 1, 1, none⟩ = some (.int .i64 a) := (b1.cell (p := ⟨w.heap.size + 1, 1, none⟩) (h3 _ _).2).trans (by simp [go_sem])
    have k2 : w1.cell? ⟨w.heap.size + 1, 2, none⟩ = some (.int .i64 b) := (b1.cell (p := ⟨w.heap.size + 1, 2, none⟩) (h3 _ _).2).trans (by simp [go_sem])
    have bb1 : Below w.heap.size w w1 := (h2 _ _).trans (b1.mono (h2 _ _).size)
    go_wp2_with fail
    refine (l2Step_any k a b A n c hn _).mono ?_
    rintro e w2 ⟨rfl, b2⟩
    go_wp2_with fail
    go_ret2
    exact ⟨by simp, bb1.trans (b2.mono bb1.size)⟩
end Go.Proofs.Ythjafhebebnldaa.IsStepC
