/- The functions of entries that only read, and l7Drop: l1In, l1Most, l1Has, l7Good, areEntries. -/
import Derived.Test.YtikdcnlbjpabjaaDoorEnt
import Derived.Test.YtikdcnlbjpabjaaDoorGrw
import Derived.BigRegion
import Derived.BigQuiet
namespace Go.Proofs.YtikdcnlbjpabjaaDoor.EntS
set_option linter.unusedVariables false
set_option linter.unusedSimpArgs false
open Go.ChangeShapes Go.WideShapes Go.ChangeAt Go.RowKit
open Mem IntsP LiP EntP GrwP

def btw (x a b : Int) : Bool := decide (a ≤ x) && decide (x ≤ b)
theorem btw_yes {x a b : Int} (h1 : a ≤ x) (h2 : x ≤ b) : btw x a b = true := by unfold btw; rw [decide_eq_true h1, decide_eq_true h2]; rfl
theorem btw_no {x a b : Int} (h : ¬ (a ≤ x ∧ x ≤ b)) : btw x a b = false := by unfold btw; rw [← Bool.not_eq_true, Bool.and_eq_true, decide_eq_true_eq, decide_eq_true_eq]; exact h
theorem l1In_any (x a b : Int) (w : World) : Calls Tryd.prog 44 #[.int .i64 x, .int .i64 a, .int .i64 b] w fun e w' => e = .returned (.bool (btw x a b)) ∧ w = w' := by
  by_cases h1 : a ≤ x
  · by_cases h2 : x ≤ b
    · have hs := Lib.hid (btw_yes h1 h2)
      go_enter Tryd.func44, Tryd.ntmps44
      go_wp2
      go_ret
      exact ⟨by rw [hs.out]; rfl, rfl⟩
    · have hs := Lib.hid (show btw x a b = false from btw_no (fun h => h2 h.2))
      go_enter Tryd.func44, Tryd.ntmps44
      go_wp2
      go_ret
      exact ⟨by rw [hs.out]; rfl, rfl⟩
  · have hs := Lib.hid (show btw x a b = false from btw_no (fun h => h1 h.1))
    go_enter Tryd.func44, Tryd.ntmps44
    go_wp2
    go_ret
    exact ⟨by rw [hs.out]; rfl, rfl⟩
theorem l1Most_any (a b : Int) (w : World) : Calls Tryd.prog 39 #[.int .i64 a, .int .i64 b] w fun e w' => e = .returned (.int .i64 (max a b)) ∧ w = w' := by
  by_cases h : b < a
  · have hs := Lib.hid (show max a b = a by omega)
    go_enter Tryd.func39, Tryd.ntmps39
    go_wp2
    go_ret
    exact ⟨by rw [hs.out]; rfl, rfl⟩
  · have hs := Lib.hid (show max a b = b by omega)
    go_enter Tryd.func39, Tryd.ntmps39
    go_wp2
    go_ret
    exact ⟨by rw [hs.out]; rfl, rfl⟩
theorem contains_at {xs : List Int} {k : Nat} {z : Int} (h : xs[k]? = some z) : xs.contains z = true := by simpa using List.mem_of_getElem? h
theorem contains_no {xs : List Int} {n : Nat} {y : Int} (hl : xs.length = n) (h : ∀ j z, j < n → xs[j]? = some z → z ≠ y) : xs.contains y = false := by
  rw [← Bool.not_eq_true]
  intro hc
  have hm : y ∈ xs := by simpa using hc
  obtain ⟨j, hj, e⟩ := List.getElem_of_mem hm
  exact h j y (by omega) (by rw [List.getElem?_eq_getElem hj, e]) rfl
theorem has_any (B : Nat) (A : Option Addr) (n c : Nat) (xs : List Int) (y : Int) (hn : n ≤ 2000000) (hl : xs.length = n) (w : World) (hr : RdI w B A xs) :
    Calls Tryd.prog 43 #[.slice A n c, .int .i64 y] w fun e w' => e = .returned (.bool (xs.contains y)) ∧ w = w' := by
  have HL := Lib.hid hl
  have HR := Lib.hid hr
  generalize hq : xs.contains y = q
  have HQ := Lib.hid hq
  clear hl hr hq
  go_enter Tryd.func43, Tryd.ntmps43
  go_wp2_with fail
  go_loopw [5] (fun i wr => ∃ k : Nat, k ≤ n ∧ i = .int .i64 k ∧ w = wr ∧ ∀ j z, j < k → xs[j]? = some z → z ≠ y) (fun i _ => n - (intOf i).toNat)
  case atStart => exact ⟨0, Nat.zero_le _, rfl, rfl, fun j z h => absurd h (Nat.not_lt_zero _)⟩
  case round =>
    obtain ⟨k, hk, rfl, rfl, hlt⟩ := hrel
    have HLT := Lib.hid hlt
    clear hlt
    by_cases hkn : k < n
    · obtain ⟨z, hz⟩ : ∃ z, xs[k]? = some z := ⟨_, List.getElem?_eq_getElem (by rw [HL.out]; exact hkn)⟩
      obtain ⟨ad, rfl, hab, h0⟩ := HR.out k z hz
      have HZ := Lib.hid hz
      clear hz
      by_cases hzy : z = y
      · subst hzy
        have HT := Lib.hid (show q = true from HQ.out.symm.trans (contains_at HZ.out))
        go_wp2
        go_ret
        exact ⟨by rw [HT.out]; rfl, rfl⟩
      · go_wp2
        go_roundw
        case rel =>
          refine ⟨k + 1, by omega, by go_num, by trivial, fun j x hj hx => ?_⟩
          by_cases e : j = k
          · subst e
            have := HZ.out
            rw [hx] at this
            injection this with this
            subst this; exact hzy
          · exact HLT.out j x (by omega) hx
        case measure => simp [intOf]; omega
    · obtain rfl : k = n := by omega
      have HT := Lib.hid (show q = false from HQ.out.symm.trans (contains_no HL.out HLT.out))
      go_wp2
      go_ret
      exact ⟨by rw [HT.out]; rfl, rfl⟩
set_option maxHeartbeats 1000000 in
theorem goodS_any (B : Nat) (A : Option Addr) (n c : Nat) (xs : List Int) (hn : n ≤ 2000000) (hl : xs.length = n) (w : World) (hr : RdI w B A xs) :
    Calls Tryd.prog 28 #[.slice A n c] w fun e w' => e = .returned (.bool (goodL xs)) ∧ w = w' := by
  have HL := Lib.hid hl
  have HR := Lib.hid hr
  generalize hq : goodL xs = q
  have HQ := Lib.hid hq
  clear hl hr hq
  go_enter Tryd.func28, Tryd.ntmps28
  go_wp2_with fail
  go_loopw [3] (fun i wr => ∃ k : Nat, k ≤ n ∧ i = .int .i64 k ∧ w = wr ∧ goodK xs k) (fun i _ => n - (intOf i).toNat)
  case atStart => exact ⟨0, Nat.zero_le _, rfl, rfl, fun j z h => absurd h (Nat.not_lt_zero _)⟩
  case round =>
    obtain ⟨k, hk, rfl, rfl, hg⟩ := hrel
    have HG := Lib.hid hg
    clear hg
    by_cases hkn : k < n
    · obtain ⟨z, hz⟩ : ∃ z, xs[k]? = some z := ⟨_, List.getElem?_eq_getElem (by rw [HL.out]; exact hkn)⟩
      obtain ⟨ad, rfl, hab, h0⟩ := HR.out k z hz
      have HZ := Lib.hid hz
      clear hz
      go_wp2_with fail
      refine (l1In_any _ _ _ _).mono ?_
      rintro e w1 ⟨rfl, rfl⟩
      by_cases hi : inN z
      · rw [btw_yes hi.1 hi.2]
        go_wp2_with fail
        go_roundw
        case rel => exact ⟨k + 1, by omega, by go_num, by trivial, goodK_succ HG.out HZ.out hi⟩
        case measure => simp [intOf]; omega
      · rw [btw_no hi]
        have HT := Lib.hid (show q = false from HQ.out.symm.trans (goodL_no HZ.out hi))
        go_wp2_with fail
        go_ret
        exact ⟨by rw [HT.out]; rfl, rfl⟩
    · obtain rfl : k = n := by omega
      by_cases h60 : k ≤ 60
      · have HT := Lib.hid (show q = true from HQ.out.symm.trans ((goodL_iff xs).2 ⟨by rw [HL.out]; exact h60, by rw [HL.out]; exact HG.out⟩))
        go_wp2_with fail
        go_ret
        exact ⟨by rw [HT.out]; show Ending.returned (.bool (decide ((k : Int) ≤ 60))) = _; rw [decide_eq_true (by omega)], rfl⟩
      · have HT := Lib.hid (show q = false from HQ.out.symm.trans (goodL_long (by rw [HL.out]; omega)))
        go_wp2_with fail
        go_ret
        exact ⟨by rw [HT.out]; show Ending.returned (.bool (decide ((k : Int) ≤ 60))) = _; rw [decide_eq_false (by omega)], rfl⟩
set_option maxHeartbeats 1000000 in
theorem goodI_any (B : Nat) (A : Option Addr) (n c : Nat) (xs : List Int) (hn : n ≤ 2000000) (hl : xs.length = n) (w : World) (hr : RdI w B A xs) :
    Calls Tryd.prog 30 #[.slice A n c] w fun e w' => e = .returned (.bool (goodL xs)) ∧ w = w' := by
  have HL := Lib.hid hl
  have HR := Lib.hid hr
  generalize hq : goodL xs = q
  have HQ := Lib.hid hq
  clear hl hr hq
  by_cases h60 : n ≤ 60
  case neg =>
    have HT := Lib.hid (show q = false from HQ.out.symm.trans (goodL_long (by rw [HL.out]; omega)))
    go_enter Tryd.func30, Tryd.ntmps30
    go_wp2
    go_ret
    exact ⟨by rw [HT.out]; rfl, rfl⟩
  case pos =>
  go_enter Tryd.func30, Tryd.ntmps30
  go_wp2
  go_loopw [10] (fun i wr => ∃ k : Nat, k ≤ n ∧ i = .int .i64 k ∧ w = wr ∧ goodK xs k) (fun i _ => n - (intOf i).toNat)
  case atStart => exact ⟨0, Nat.zero_le _, rfl, rfl, fun j z h => absurd h (Nat.not_lt_zero _)⟩
  case round =>
    obtain ⟨k, hk, rfl, rfl, hg⟩ := hrel
    have HG := Lib.hid hg
    clear hg
    by_cases hkn : k < n
    · obtain ⟨z, hz⟩ : ∃ z, xs[k]? = some z := ⟨_, List.getElem?_eq_getElem (by rw [HL.out]; exact hkn)⟩
      obtain ⟨ad, rfl, hab, h0⟩ := HR.out k z hz
      have HZ := Lib.hid hz
      clear hz
      by_cases h1 : z < -32767
      · have HT := Lib.hid (show q = false from HQ.out.symm.trans (goodL_no HZ.out (by unfold inN; omega)))
        go_wp2
        go_ret
        exact ⟨by rw [HT.out]; rfl, rfl⟩
      by_cases h2 : 32767 < z
      · have HT := Lib.hid (show q = false from HQ.out.symm.trans (goodL_no HZ.out (by unfold inN; omega)))
        go_wp2
        go_ret
        exact ⟨by rw [HT.out]; rfl, rfl⟩
      · have hi := Lib.hid (show inN z by unfold inN; omega)
        go_wp2
        go_roundw
        case rel => exact ⟨k + 1, by omega, by go_num, by trivial, goodK_succ HG.out HZ.out hi.out⟩
        case measure => simp [intOf]; omega
    · obtain rfl : k = n := by omega
      have HT := Lib.hid (show q = true from HQ.out.symm.trans ((goodL_iff xs).2 ⟨by rw [HL.out]; exact h60, by rw [HL.out]; exact HG.out⟩))
      go_wp2
      go_ret
      exact ⟨by rw [HT.out]; rfl, rfl⟩
end Go.Proofs.YtikdcnlbjpabjaaDoor.EntS
