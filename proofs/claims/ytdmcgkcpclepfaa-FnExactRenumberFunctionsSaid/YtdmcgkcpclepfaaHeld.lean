import Derived.Test.YtdmcgkcpclepfaaMark
set_option linter.all false
namespace Go.Proofs.Ytdmcgkcpclepfaa.MarkP
open Lib (hid)
open Go.ChangeShapes Go.WideShapes Go.ChangeAt Go.RowKit
open PL Mem To
theorem heldStepS_any (B n c : Nat) (A : Option Addr) (k : Int) (hn : n ≤ 2000000) (hk0 : 0 ≤ k) (hk : k ≤ 20000000000) (w : World) (hr : Rd3 w B A (marks k n)) :
  Calls Try.prog 113 #[.slice A n c, .int .i64 k] w fun e w' => e = .returned (.int .i64 (k + 3 * n)) ∧ w = w' := by
 have hR := hid hr
 clear hr
 go_enter Try.func113, Try.ntmps113
 go_wp2
 go_loop [1, 5] (fun v i => ∃ (j : Nat) (m : Int), j ≤ n ∧ i = .int .i64 j ∧ v = .int .i64 m ∧ 0 ≤ m ∧ m ≤ 20000000000 + 3 * j ∧ Hid (m = k + 3 * j)) (fun _ i => n - (intOf i).toNat)
 case atStart => exact ⟨0, k, Nat.zero_le _, rfl, rfl, hk0, by omega, hid (by omega)⟩
 case round =>
  obtain ⟨j, m, hj, rfl, rfl, m0, m1, hM⟩ := hrel
  have m2 : m ≤ 27000000000 := by omega
  by_cases hlt : j < n
  ·have hs := marks_at k n j hlt
   rw [← hM.out] at hs
   obtain ⟨ad, rfl, hab, h0, h1, h2⟩ := hR.out j _ hs
   clear hs
   dsimp only [mkTr] at h0 h1 h2
   go_wp2
   go_round
   case rel => exact ⟨j + 1, m + 1 + 1 + 1, by omega, by go_num, rfl, by omega, by omega, hid (by rw [hM.out]; omega)⟩
   case measure => simp [intOf]; omega
  ·obtain rfl : j = n := by omega
   go_wp2
   go_ret
   exact ⟨by rw [hM.out]; rfl, rfl⟩
theorem heldStepSS_any (B n c : Nat) (A : Option Addr) (p : Pg) (k : Int) (hn : n ≤ 2000000) (hl : p.length = n) (hsm : Small p 2000000) (hk0 : 0 ≤ k) (hk : k + 3 * cnt p ≤ 20000000000) (w : World)
  (hr : RdP w B A (markP k p)) :
  Calls Try.prog 72 #[.slice A n c, .int .i64 k] w fun e w' => e = .returned (.int .i64 (k + 3 * cnt p)) ∧ w = w' := by
 have hR := hid hr
 have hL := hid hl
 have hS := hid hsm
 clear hr hl hsm
 go_enter Try.func72, Try.ntmps72
 go_wp2
 go_loop [1, 5] (fun v i => ∃ (j : Nat) (m : Int), j ≤ n ∧ i = .int .i64 j ∧ v = .int .i64 m ∧ 0 ≤ m ∧ m ≤ 20000000000 ∧ Hid (m = k + 3 * cnt (p.take j))) (fun _ i => n - (intOf i).toNat)
 case atStart => exact ⟨0, k, Nat.zero_le _, rfl, rfl, hk0, by omega, hid (by simp [cnt])⟩
 case round =>
  obtain ⟨j, m, hj, rfl, rfl, m0, m1, hM⟩ := hrel
  by_cases hlt : j < n
  ·obtain ⟨xs, hs⟩ : ∃ s, p[j]? = some s := ⟨_, List.getElem?_eq_getElem (by rw [hL.out]; exact hlt)⟩
   have hsm := markP_at k p j xs hs
   rw [← hM.out] at hsm
   obtain ⟨ad, Ai, ci, rfl, hab, hc, hrow⟩ := hR.out j _ hsm
   rw [marks_length] at hc
   have hxn := hS.out j xs hs
   have hnx := cnt_next p j xs hs
   have hct := cnt_take p (j + 1)
   have m2 : m + 3 * xs.length ≤ 20000000000 := by have := hM.out; omega
   have HR := hid hrow
   have HS := hid hs
   have HN := hid hnx
   clear hrow hs hnx hct hsm
   go_wp2_with fail
   refine (heldStepS_any B xs.length ci Ai m hxn m0 m1 _ HR.out).mono ?_
   rintro e w1 ⟨rfl, rfl⟩
   go_wp2_with fail
   go_round
   case rel => exact ⟨j + 1, m + 3 * xs.length, by omega, by go_num, rfl, by omega, by omega, hid (by rw [hM.out, HN.out]; omega)⟩
   case measure => simp [intOf]; omega
  ·obtain rfl : j = n := by omega
   go_wp2
   go_ret
   exact ⟨by rw [hM.out, List.take_of_length_le (by rw [hL.out]; omega)]; rfl, rfl⟩
theorem heldProgram_any (n c : Nat) (A : Option Addr) (p : Pg) (k : Int) (hn : n ≤ 2000000) (hl : p.length = n) (hsm : Small p 2000000) (hk0 : 0 ≤ k) (hk : k + 3 * cnt p ≤ 20000000000) (w : World)
  (hr : RdP w w.heap.size A (markP k p)) :
  Calls Try.prog 30 #[.agg #[.slice A n c], .int .i64 k] w fun e w' => e = .returned (.int .i64 (k + 3 * cnt p)) ∧ Below w.heap.size w w' := by
 have hR := hid hr
 have h1 : ∀ o : Obj, Below w.heap.size w (w.alloc o) := fun o => (Below.refl _ _).alloc (Nat.le_refl _) _
 have H1 := hid h1
 have hneg : ¬ (k + 3 * (cnt p : Int)) < 0 := by omega
 clear hr h1
 generalize hq : k + 3 * (cnt p : Int) = q at *
 have HQ := hid hq
 clear hq
 go_enter Try.func30, Try.ntmps30
 go_wp2_with fail
 refine (heldStepSS_any w.heap.size n c A p k hn hl hsm hk0 (by rw [HQ.out]; exact hk) _ (hR.out.below (H1.out _))).mono ?_
 rintro e w1 ⟨rfl, rfl⟩
 rw [HQ.out]
 go_wp2_with fail
 go_ret
 exact ⟨rfl, H1.out _⟩
end Go.Proofs.Ytdmcgkcpclepfaa.MarkP
-- squeezed
