import Derived.Test.YtdmcgkcpclepfabM2
import Derived.RegionTactic
import Derived.BigRegion
set_option linter.all false
namespace Go.Proofs.Ytdmcgkcpclepfab.Sme
open Lib (hid)
open Go.ChangeShapes Go.WideShapes Go.ChangeAt Go.RowKit
open PL Mem IntsP
theorem differ {xs ys : List Int} (hl : xs.length = ys.length) (h : ∀ (j : Nat) (x y : Int), xs[j]? = some x → ys[j]? = some y → x = y) : xs = ys := by
 apply List.ext_getElem hl
 intro i h1 h2
 exact h i _ _ (List.getElem?_eq_getElem h1) (List.getElem?_eq_getElem h2)
set_option maxRecDepth 100000 in
set_option maxHeartbeats 4000000 in
theorem l1Same_any (n n' c c' : Nat) (A A' : Option Addr) (xs ys : List Int) (hn : n ≤ 1000000) (hn' : n' ≤ 1000000) (hl : xs.length = n) (hl' : ys.length = n') (B : Nat) (w : World) (hB : B ≤ w.heap.size) (hr : RdI w B A xs) (hr' : RdI w B A' ys) :
  Calls Try.prog 66 #[.slice A n c, .slice A' n' c'] w fun e w' => e = .returned (.bool (decide (xs = ys))) ∧ Below w.heap.size w w' := by
 by_cases hnn : n = n'
 ·subst hnn
  have HR := hid (fun (V : World) (b : Below w.heap.size w V) => (show RdI V B A xs ∧ RdI V B A' ys from ⟨hr.below (b.mono hB), hr'.below (b.mono hB)⟩))
  have HL := hid hl
  have HL' := hid hl'
  clear hl hl' hr hr'
  go_enter Try.func66, Try.ntmps66
  go_wp2_with fail
  go_loopw [5] (fun i wr => ∃ k : Nat, k ≤ n ∧ i = .int .i64 k ∧ Below w.heap.size w wr ∧ ∀ (j : Nat) (x y : Int), j < k → xs[j]? = some x → ys[j]? = some y → x = y) (fun i _ => n - (intOf i).toNat)
  case atStart => exact ⟨0, Nat.zero_le _, rfl, Below.refl _ _, fun j x y h => absurd h (Nat.not_lt_zero _)⟩
  case round =>
   obtain ⟨k, hk, rfl, hb, heq⟩ := hrel
   have HE := hid heq
   have HB := hid hb
   clear heq
   by_cases hlt : k < n
   ·obtain ⟨x, hx⟩ : ∃ x, xs[k]? = some x := ⟨_, List.getElem?_eq_getElem (by rw [HL.out]; exact hlt)⟩
    obtain ⟨y, hy⟩ : ∃ y, ys[k]? = some y := ⟨_, List.getElem?_eq_getElem (by rw [HL'.out]; exact hlt)⟩
    obtain ⟨r1, r2⟩ := HR.out wr hb
    obtain ⟨ad, rfl, -, h0⟩ := r1 k x hx
    obtain ⟨ad', rfl, -, h0'⟩ := r2 k y hy
    have HX := hid hx
    have HY := hid hy
    clear hb r1 r2 hx hy
    by_cases hxy : x = y
    ·subst hxy
     go_wp2_with fail
     go_region
     go_wp2_with fail
     go_roundw
     case rel =>
      refine ⟨k + 1, by omega, by go_num, HB.out.drew, fun j a b hj ha hb => ?_⟩
      rcases Nat.lt_or_ge j k with h | h
      ·exact HE.out j a b h ha hb
      ·obtain rfl : j = k := by omega
       rw [HX.out] at ha
       rw [HY.out] at hb
       cases ha
       cases hb
       rfl
     case measure => simp [intOf]; omega
    ·have hf := hid (show decide (xs = ys) = false by
      rw [decide_eq_false_iff_not]
      intro e
      have := HX.out
      rw [e, HY.out] at this
      cases this
      exact hxy rfl)
     have hne : (x == y) = false := by simpa using hxy
     have hne2 : (x != y) = true := by simpa using hxy
     clear hxy
     go_wp2_with fail
     go_region
     go_wp2_with fail
     go_ret
     exact ⟨by rw [hf.out] <;> rfl, HB.out.drew⟩
   ·obtain rfl : k = n := by omega
    have hf := hid (show decide (xs = ys) = true by
     rw [decide_eq_true_iff]
     exact differ (by rw [HL.out, HL'.out]) (fun j x y hx hy => HE.out j x y (by have := (List.getElem?_eq_some_iff.1 hx).1; rw [HL.out] at this; exact this) hx hy))
    clear hb
    go_wp2_with fail
    go_ret
    exact ⟨by rw [hf.out] <;> rfl, HB.out⟩
 ·have hf := hid (show decide (xs = ys) = false by
   rw [decide_eq_false_iff_not]
   intro e
   subst e
   omega)
  have hd : ((n : Int) != (n' : Int)) = true := by simp; omega
  have hd2 : ((n : Int) == (n' : Int)) = false := by simp; omega
  clear hr hr' hl hl' hnn
  go_enter Try.func66, Try.ntmps66
  go_wp2_with fail
  go_ret
  exact ⟨by rw [hf.out] <;> rfl, Below.refl _ _⟩
set_option maxRecDepth 100000 in
set_option maxHeartbeats 4000000 in
theorem equal_any (n n' c c' : Nat) (A A' : Option Addr) (xs ys : List Int) (hn : n ≤ 1000000) (hn' : n' ≤ 1000000) (hl : xs.length = n) (hl' : ys.length = n') (B : Nat) (w : World) (hB : B ≤ w.heap.size) (hr : RdI w B A xs) (hr' : RdI w B A' ys) :
  Calls Try.prog 70 #[.slice A n c, .slice A' n' c'] w fun e w' => e = .returned (.bool (decide (xs = ys))) ∧ Below w.heap.size w w' := by
 by_cases hnn : n = n'
 ·subst hnn
  have HR := hid (fun (V : World) (b : Below w.heap.size w V) => (show RdI V B A xs ∧ RdI V B A' ys from ⟨hr.below (b.mono hB), hr'.below (b.mono hB)⟩))
  have HL := hid hl
  have HL' := hid hl'
  clear hl hl' hr hr'
  go_enter Try.func70, Try.ntmps70
  go_wp2_with fail
  go_loopw [13] (fun i wr => ∃ k : Nat, k ≤ n ∧ i = .int .i64 k ∧ Below w.heap.size w wr ∧ ∀ (j : Nat) (x y : Int), j < k → xs[j]? = some x → ys[j]? = some y → x = y) (fun i _ => n - (intOf i).toNat)
  case atStart => exact ⟨0, Nat.zero_le _, rfl, Below.refl _ _, fun j x y h => absurd h (Nat.not_lt_zero _)⟩
  case round =>
   obtain ⟨k, hk, rfl, hb, heq⟩ := hrel
   have HE := hid heq
   have HB := hid hb
   clear heq
   by_cases hlt : k < n
   ·obtain ⟨x, hx⟩ : ∃ x, xs[k]? = some x := ⟨_, List.getElem?_eq_getElem (by rw [HL.out]; exact hlt)⟩
    obtain ⟨y, hy⟩ : ∃ y, ys[k]? = some y := ⟨_, List.getElem?_eq_getElem (by rw [HL'.out]; exact hlt)⟩
    obtain ⟨r1, r2⟩ := HR.out wr hb
    obtain ⟨ad, rfl, -, h0⟩ := r1 k x hx
    obtain ⟨ad', rfl, -, h0'⟩ := r2 k y hy
    have HX := hid hx
    have HY := hid hy
    clear hb r1 r2 hx hy
    by_cases hxy : x = y
    ·subst hxy
     go_wp2_with fail
     go_region
     go_wp2_with fail
     go_roundw
     case rel =>
      refine ⟨k + 1, by omega, by go_num, HB.out.drew, fun j a b hj ha hb => ?_⟩
      rcases Nat.lt_or_ge j k with h | h
      ·exact HE.out j a b h ha hb
      ·obtain rfl : j = k := by omega
       rw [HX.out] at ha
       rw [HY.out] at hb
       cases ha
       cases hb
       rfl
     case measure => simp [intOf]; omega
    ·have hf := hid (show decide (xs = ys) = false by
      rw [decide_eq_false_iff_not]
      intro e
      have := HX.out
      rw [e, HY.out] at this
      cases this
      exact hxy rfl)
     have hne : (x == y) = false := by simpa using hxy
     have hne2 : (x != y) = true := by simpa using hxy
     clear hxy
     go_wp2_with fail
     go_region
     go_wp2_with fail
     go_ret
     exact ⟨by rw [hf.out] <;> rfl, HB.out.drew⟩
   ·obtain rfl : k = n := by omega
    have hf := hid (show decide (xs = ys) = true by
     rw [decide_eq_true_iff]
     exact differ (by rw [HL.out, HL'.out]) (fun j x y hx hy => HE.out j x y (by have := (List.getElem?_eq_some_iff.1 hx).1; rw [HL.out] at this; exact this) hx hy))
    clear hb
    go_wp2_with fail
    go_ret
    exact ⟨by rw [hf.out] <;> rfl, HB.out⟩
 ·have hf := hid (show decide (xs = ys) = false by
   rw [decide_eq_false_iff_not]
   intro e
   subst e
   omega)
  have hd : ((n : Int) != (n' : Int)) = true := by simp; omega
  have hd2 : ((n : Int) == (n' : Int)) = false := by simp; omega
  clear hr hr' hl hl' hnn
  go_enter Try.func70, Try.ntmps70
  go_wp2_with fail
  go_ret
  exact ⟨by rw [hf.out] <;> rfl, Below.refl _ _⟩
end Go.Proofs.Ytdmcgkcpclepfab.Sme
-- squeezed
