/- isFault: whether an entry is a fault, as the ledger tells. -/
import Derived.Test.YtikdcnlbjpabjaaDoorEml
namespace Go.Proofs.YtikdcnlbjpabjaaDoor.EntL
set_option linter.unusedVariables false
set_option linter.unusedSimpArgs false
open Go.ChangeShapes Go.WideShapes Go.ChangeAt Go.RowKit Go.Maps
open Mem IntsP LiP EntP GrwP EntS

set_option maxRecDepth 100000 in
set_option maxHeartbeats 2000000 in
theorem fault_any (b : Nat) (o : List Int) (i : Nat) (x : Int) (hx : inN x) (w : World) (h : Led w b o i) :
    Calls Tryd.prog 50 #[.agg #[.map (some b)], .int .i64 x] w fun e w' => e = .returned (.bool (fltB o x)) ∧ Below w.heap.size w w' := by
  obtain ⟨D, n, hown, hn, hm⟩ := h
  have HMo := Lib.hid hm
  obtain ⟨x1, x2⟩ := hx
  obtain ⟨R, hR⟩ : ∃ R, fltB o x = R := ⟨_, rfl⟩
  rw [hR]
  clear hm
  rcases Int.lt_trichotomy x 0 with hs | hs | hs
  · have HS := Lib.hid ((fltB_neg hs (o := o)).symm.trans hR)
    have hkey : keyOf Tryd.prog 3 (.int .i64 (-x)) = some (keyI (-x)) := keyOfI (by omega)
    have hh := HMo.out.has_ (-x)
    clear hR
    by_cases hmem : -x ∈ o
    · rw [decide_eq_true hmem] at hh
      have HR := Lib.hid (show R = false from (by rw [← HS.out, decide_eq_true hmem]; rfl))
      clear hmem
      go_enter Tryd.func50, Tryd.ntmps50
      go_wp2_with (first
        | (at_lookup; refine wpList_lookup_own_ok_int _ rfl _ _ 61 rfl 3 3 .i64 lawI Tryd.underlying61 Tryd.underlying3 (zeroI _) b n D rfl (hown.alloc _) _ _ rfl hkey ?_; intro c hat hwc; rw [hh])
        | go_in)
      go_ret
      exact ⟨by rw [HR.out]; rfl, (Below.refl _ _).alloc (Nat.le_refl _) _⟩
    · rw [decide_eq_false hmem] at hh
      have HR := Lib.hid (show R = true from (by rw [← HS.out, decide_eq_false hmem]; rfl))
      clear hmem
      go_enter Tryd.func50, Tryd.ntmps50
      go_wp2_with (first
        | (at_lookup; refine wpList_lookup_own_ok_int _ rfl _ _ 61 rfl 3 3 .i64 lawI Tryd.underlying61 Tryd.underlying3 (zeroI _) b n D rfl (hown.alloc _) _ _ rfl hkey ?_; intro c hat hwc; rw [hh])
        | go_in)
      go_ret
      exact ⟨by rw [HR.out]; rfl, (Below.refl _ _).alloc (Nat.le_refl _) _⟩
  · obtain rfl : x = 0 := hs
    have HS := Lib.hid ((fltB_zero o).symm.trans hR)
    have hkey : keyOf Tryd.prog 3 (.int .i64 0) = some (keyI 0) := keyOfI (by omega)
    have hh := HMo.out.has_ 0
    clear hR
    by_cases hmem : (0 : Int) ∈ o
    · rw [decide_eq_true hmem] at hh
      have HR := Lib.hid (show R = false from HS.out.symm)
      clear hmem
      go_enter Tryd.func50, Tryd.ntmps50
      go_wp2_with (first
        | (at_lookup; refine wpList_lookup_own_ok_int _ rfl _ _ 61 rfl 3 3 .i64 lawI Tryd.underlying61 Tryd.underlying3 (zeroI _) b n D rfl (hown.alloc _) _ _ rfl hkey ?_; intro c hat hwc; rw [hh])
        | go_in)
      go_ret
      exact ⟨by rw [HR.out]; rfl, (Below.refl _ _).alloc (Nat.le_refl _) _⟩
    · rw [decide_eq_false hmem] at hh
      have HR := Lib.hid (show R = false from HS.out.symm)
      clear hmem
      go_enter Tryd.func50, Tryd.ntmps50
      go_wp2_with (first
        | (at_lookup; refine wpList_lookup_own_ok_int _ rfl _ _ 61 rfl 3 3 .i64 lawI Tryd.underlying61 Tryd.underlying3 (zeroI _) b n D rfl (hown.alloc _) _ _ rfl hkey ?_; intro c hat hwc; rw [hh])
        | go_in)
      go_ret
      exact ⟨by rw [HR.out]; rfl, (Below.refl _ _).alloc (Nat.le_refl _) _⟩
  · have HS := Lib.hid ((fltB_pos hs (o := o)).symm.trans hR)
    have hkey : keyOf Tryd.prog 3 (.int .i64 x) = some (keyI x) := keyOfI (by omega)
    have hh := HMo.out.has_ x
    clear hR
    by_cases hmem : x ∈ o
    · rw [decide_eq_true hmem] at hh
      have HR := Lib.hid (show R = true from (by rw [← HS.out]; exact decide_eq_true hmem))
      clear hmem
      go_enter Tryd.func50, Tryd.ntmps50
      go_wp2_with (first
        | (at_lookup; refine wpList_lookup_own_ok_int _ rfl _ _ 61 rfl 3 3 .i64 lawI Tryd.underlying61 Tryd.underlying3 (zeroI _) b n D rfl (hown.alloc _) _ _ rfl hkey ?_; intro c hat hwc; rw [hh])
        | go_in)
      go_ret
      exact ⟨by rw [HR.out]; rfl, (Below.refl _ _).alloc (Nat.le_refl _) _⟩
    · rw [decide_eq_false hmem] at hh
      have HR := Lib.hid (show R = false from (by rw [← HS.out]; exact decide_eq_false hmem))
      clear hmem
      go_enter Tryd.func50, Tryd.ntmps50
      go_wp2_with (first
        | (at_lookup; refine wpList_lookup_own_ok_int _ rfl _ _ 61 rfl 3 3 .i64 lawI Tryd.underlying61 Tryd.underlying3 (zeroI _) b n D rfl (hown.alloc _) _ _ rfl hkey ?_; intro c hat hwc; rw [hh])
        | go_in)
      go_ret
      exact ⟨by rw [HR.out]; rfl, (Below.refl _ _).alloc (Nat.le_refl _) _⟩
end Go.Proofs.YtikdcnlbjpabjaaDoor.EntL
