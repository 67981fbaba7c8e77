import Derived.Test.YtdmcgkcpclepfaaMark
import Derived.Test.YtdmcgkcpclepfaaRes
import Derived.Test.YtdmcgkcpclepfaaIsp
import Derived.Test.YtdmcgkcpclepfaaIspS
import Derived.Deep.QuietTactic
set_option linter.all false
namespace Go.Proofs.Ytdmcgkcpclepfaa.AskP
open Lib (hid)
open Go.ChangeShapes Go.WideShapes Go.ChangeAt Go.RowKit
open PL Mem To MarkP Res Prg PrgS Stp StpS
theorem isFn_eq (p : Pg) (f : Int) : isFn p f = (okProg p && inP f p.length) := by simp [isFn, inP, Bool.and_assoc]
theorem isFunction_any (B : Nat) (A : Option Addr) (n c : Nat) (p : Pg) (f : Int) (hn : n ≤ 9223372036854775807) (hl : p.length = n) (hsm : Small p 9223372036854775807) (w : World) (hr : RdP w B A p) (hB : B ≤ w.heap.size) :
  Calls Try.prog 75 #[.agg #[.slice A n c], .int .i64 f] w fun e w' => e = .returned (.bool (isFn p f)) ∧ Below w.heap.size w w' := by
 have hC := hid (fun w hr hB => isProgram_any B A n c p hn hl hsm w hr hB)
 have hR := hid hr
 have h1 : ∀ o : Obj, Below w.heap.size w (w.alloc o) := fun o => (Below.refl _ _).alloc (Nat.le_refl _) _
 have H1 := hid h1
 have hL := hid hl
 clear hr h1 hl hsm
 cases hok : okProg p with
 | false =>
  have hs := hid (show isFn p f = false by simp [isFn, hok])
  rw [hok] at hC
  clear hok
  go_enter Try.func75, Try.ntmps75
  go_wp2_with fail
  refine (hC.out _ (hR.out.below ((H1.out _).mono hB)) (Nat.le_trans hB (H1.out _).size)).mono ?_
  rintro e w1 ⟨rfl, b1⟩
  go_wp2_with fail
  go_ret
  exact ⟨by rw [hs.out]; rfl, (H1.out _).trans (b1.mono (H1.out _).size)⟩
 | true =>
  rw [hok] at hC
  have hb : ∀ w1 : World, Below (w.alloc (.cells #[.slice A n c] 31)).heap.size (w.alloc (.cells #[.slice A n c] 31)) w1 → w1.cell? ⟨w.heap.size, 0, none⟩ = some (.slice A n c) :=
   fun w1 b => (b.cell (p := ⟨w.heap.size, 0, none⟩) (by simp)).trans (by simp [go_sem])
  have HB := hid hb
  by_cases f0 : 0 ≤ f
  ·by_cases fn : f < n
   ·have hs := hid (show isFn p f = true by simp only [isFn, hok, hL.out, Bool.true_and, Bool.and_eq_true, decide_eq_true_eq]; exact ⟨f0, fn⟩)
    clear hok hb
    go_enter Try.func75, Try.ntmps75
    go_wp2_with fail
    refine (hC.out _ (hR.out.below ((H1.out _).mono hB)) (Nat.le_trans hB (H1.out _).size)).mono ?_
    rintro e w1 ⟨rfl, b1⟩
    have k1 := HB.out w1 b1
    go_wp2_with fail
    go_ret
    exact ⟨by rw [hs.out]; rfl, (H1.out _).trans (b1.mono (H1.out _).size)⟩
   ·have hs := hid (show isFn p f = false by simp [isFn, hok, hL.out]; omega)
    have hd : decide (f < (n : Int)) = false := by simpa using fn
    clear hok hb
    go_enter Try.func75, Try.ntmps75
    go_wp2_with fail
    refine (hC.out _ (hR.out.below ((H1.out _).mono hB)) (Nat.le_trans hB (H1.out _).size)).mono ?_
    rintro e w1 ⟨rfl, b1⟩
    have k1 := HB.out w1 b1
    go_wp2_with fail
    go_ret
    exact ⟨by rw [hs.out]; rfl, (H1.out _).trans (b1.mono (H1.out _).size)⟩
  ·have hs := hid (show isFn p f = false by simp [isFn, hok]; omega)
   clear hok hb
   go_enter Try.func75, Try.ntmps75
   go_wp2_with fail
   refine (hC.out _ (hR.out.below ((H1.out _).mono hB)) (Nat.le_trans hB (H1.out _).size)).mono ?_
   rintro e w1 ⟨rfl, b1⟩
   have k1 := HB.out w1 b1
   go_wp2_with fail
   go_ret
   exact ⟨by rw [hs.out]; rfl, (H1.out _).trans (b1.mono (H1.out _).size)⟩
def asks (p : Pg) (f arg fuel : Int) : Bool := isFn p f && isNum arg && decide (0 ≤ fuel) && decide (fuel ≤ 200)
theorem asks_btw (p : Pg) (f arg fuel : Int) : asks p f arg fuel = (okProg p && inP f p.length && isNum arg && btw fuel 0 200) := by
 unfold asks
 rw [isFn_eq]
 unfold btw
 simp [Bool.and_assoc]
end Go.Proofs.Ytdmcgkcpclepfaa.AskP
-- squeezed
