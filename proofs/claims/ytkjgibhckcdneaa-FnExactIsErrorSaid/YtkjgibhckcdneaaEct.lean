/- slices.Contains over integers in memory; the state of an ErrorJoin's value while valueOf makes it. -/
import Derived.Test.YtkjgibhckcdneaaErqi
import Derived.Test.YtkjgibhckcdneaaEvo
namespace Go.Proofs.Ytkjgibhckcdneaa.ErI
set_option linter.unusedVariables false
set_option linter.unusedSimpArgs false
open Go.ChangeShapes Go.WideShapes Go.ChangeAt Go.RowKit
open Mem IntsP ErP ErM ErT ErA ErU ErD ErW ErL ErF ErQ

theorem indexN_any (B : Nat) (A : Option Addr) (m c : Nat) (xs : List Int) (z : Int) (hm : m ≤ 2000000) (hl : xs.length = m) (hr2 : ∀ (j : Nat) (y : Int), xs[j]? = some y → y ≠ z) (w : World) (hr : RdI w B A xs) :
    Calls Try.prog 67 #[.slice A m c, .int .i64 z] w fun e w' => e = .returned (.int .i64 (-1)) ∧ w = w' := by
  have hR := Lib.hid hr
  have hL := Lib.hid hl
  have H2 := Lib.hid hr2
  clear hr hl hr2
  go_enter Try.func67, Try.ntmps67
  go_wp2_with fail
  go_loop [8] (fun i => ∃ j : Nat, j ≤ m ∧ i = .int .i64 j) (fun i => m - (intOf i).toNat)
  case atStart => exact ⟨0, Nat.zero_le _, rfl⟩
  case round =>
    obtain ⟨j, hj, rfl⟩ := hrel
    by_cases hjm : j < m
    · obtain ⟨y, hy⟩ : ∃ y, xs[j]? = some y := ⟨_, List.getElem?_eq_getElem (by rw [hL.out]; exact hjm)⟩
      obtain ⟨ad, rfl, hab, d0⟩ := hR.out j y hy
      have hne : (z == y) = false := by rw [beq_eq_false_iff_ne]; exact fun e => H2.out j y hy e.symm
      clear hy
      go_wp2_with fail
      go_round
      case rel => exact ⟨j + 1, by omega, by go_num⟩
      case measure => simp [intOf]; omega
    · obtain rfl : m = j := by omega
      go_wp2_with fail
      go_ret
      exact ⟨rfl, rfl⟩
theorem first_at {z : Int} : ∀ {xs : List Int}, z ∈ xs → ∃ r : Nat, xs[r]? = some z ∧ ∀ (j : Nat) (y : Int), j < r → xs[j]? = some y → y ≠ z
  | [], h => by cases h
  | x :: xs, h => by
    by_cases hx : x = z
    · exact ⟨0, by rw [hx]; rfl, fun j y hj _ => by omega⟩
    · have hm : z ∈ xs := by
        rcases List.mem_cons.1 h with h | h
        · exact absurd h.symm hx
        · exact h
      obtain ⟨r, h1, h2⟩ := first_at hm
      refine ⟨r + 1, by simpa using h1, fun j y hj hy => ?_⟩
      cases j with
      | zero => simp at hy; rw [← hy]; exact hx
      | succ j => exact h2 j y (by omega) (by simpa using hy)
theorem containsI_any (B : Nat) (A : Option Addr) (m c : Nat) (xs : List Int) (z : Int) (hm : m ≤ 2000000) (hl : xs.length = m) (w : World) (hr : RdI w B A xs) :
    Calls Try.prog 83 #[.slice A m c, .int .i64 z] w fun e w' => e = .returned (.bool (xs.contains z)) ∧ w = w' := by
  by_cases hc : z ∈ xs
  · obtain ⟨r, h1, h2⟩ := first_at hc
    have H := Lib.hid (indexI_any B A m c xs z r hm hl h1 h2 w hr)
    have hcc := Lib.hid (show xs.contains z = true by simpa using hc)
    clear hc h1 h2 hr
    go_enter Try.func83, Try.ntmps83
    go_wp2_with fail
    refine H.out.mono ?_
    rintro e w' ⟨rfl, rfl⟩
    have hge : (0 : Int) ≤ (r : Int) := by omega
    go_wp2_with fail
    go_ret
    exact ⟨by rw [hcc.out]; rfl, rfl⟩
  · have H := Lib.hid (indexN_any B A m c xs z hm hl (fun j y hy e => hc (e ▸ List.mem_of_getElem? hy)) w hr)
    have hcc := Lib.hid (show xs.contains z = false by simpa using hc)
    clear hc hr
    go_enter Try.func83, Try.ntmps83
    go_wp2_with fail
    refine H.out.mono ?_
    rintro e w' ⟨rfl, rfl⟩
    go_wp2_with fail
    go_ret
    exact ⟨by rw [hcc.out]; rfl, rfl⟩
end Go.Proofs.Ytkjgibhckcdneaa.ErI
