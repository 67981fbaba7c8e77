import Derived.Test.YtdmcgkcpclepfaaStepS
import Derived.Test.YtdmcgkcpclepfaaIsp
import Derived.Deep.RegionWith
set_option linter.all false
namespace Go.Proofs.Ytdmcgkcpclepfaa.PrgS
open Lib (hid)
open Go.ChangeShapes Go.WideShapes Go.ChangeAt Go.RowKit
open PL Mem To StpS Prg
set_option maxHeartbeats 1000000 in
theorem l2Program_any (B : Nat) (A : Option Addr) (n c : Nat) (p : Pg) (hn : n ≤ 9223372036854775807) (hl : p.length = n) (hsm : Small p 9223372036854775807) (w : World) (hr : RdP w B A p) (hB : B ≤ w.heap.size) :
  Calls Try.prog 73 #[.agg #[.slice A n c]] w fun e w' => e = .returned (.bool (okProg p)) ∧ Below w.heap.size w w' := by
 have hR := hid hr
 have hL := hid hl
 have hS := hid hsm
 clear hr hl hsm
 cases hin : btw n 1 6
 ·have hI := hid hin
  have hs := hid (show okProg p = false from okProg_len hL.out (by unfold btw at hin; simp at hin; omega))
  clear hin
  go_enter Try.func73, Try.ntmps73
  go_wp2_with fail
  refine (l1In_any n 1 6 _).mono ?_
  rintro e w1 ⟨rfl, rfl⟩
  rw [hI.out]
  go_wp2_with fail
  go_ret
  exact ⟨by rw [hs.out]; rfl, (Below.refl _ _).alloc (Nat.le_refl _) _⟩
 have h16 : 1 ≤ n ∧ n ≤ 6 := by unfold btw at hin; simp at hin; omega
 obtain ⟨hn1, hn6⟩ := h16
 have hI := hid hin
 clear hin
 go_enter Try.func73, Try.ntmps73
 go_wp2_with fail
 refine (l1In_any n 1 6 _).mono ?_
 rintro e w1 ⟨rfl, rfl⟩
 rw [hI.out]
 go_wp2_with fail
 go_loopw [3] (fun i wr => ∃ k : Nat, k ≤ n ∧ i = .int .i64 k ∧ allOk n p k ∧ Below (w.heap.size + 1) (w.alloc (.cells #[.slice A n c] 31)) wr) (fun i _ => n - (intOf i).toNat)
 case atStart => exact ⟨0, Nat.zero_le _, rfl, fun _ _ h => absurd h (by omega), Below.refl _ _⟩
 case round =>
  obtain ⟨k, hk, rfl, hok, hb⟩ := hrel
  have hO := hid hok
  clear hok
  have hsz : w.heap.size + 1 ≤ wr.heap.size := by have := hb.size; simpa using this
  have cb : wr.cell? ⟨w.heap.size, 0, none⟩ = some (.slice A n c) := (hb.cell (p := ⟨w.heap.size, 0, none⟩) (by simp)).trans (by simp [go_sem])
  have hRb : Hid (RdP wr B A p) := hid ((hR.out.below ((Below.refl B w).alloc hB _)).below (hb.mono (by omega)))
  have hbw : Below w.heap.size w wr := ((Below.refl _ _).alloc (Nat.le_refl _) _).trans (hb.mono (by omega))
  by_cases hlt : k < n
  ·obtain ⟨xs, hs⟩ : ∃ s, p[k]? = some s := ⟨_, List.getElem?_eq_getElem (by rw [hL.out]; exact hlt)⟩
   obtain ⟨ad, Ai, ci, rfl, hab, h0, h1⟩ := hRb.out k _ hs
   have hH := hid hs
   have hxn := hS.out k xs hs
   have H1 := hid h1
   clear hs h1
   by_cases h8 : 8 < xs.length
   ·have hs := hid (show okProg p = false from okProg_bad hL.out hH.out (okBody_long (by omega)))
    go_wp2_with fail
    go_ret
    exact ⟨by rw [hs.out]; rfl, hbw⟩
   ·go_wp2_with fail
    obtain ⟨wo, rfl⟩ : ∃ wo : World, wo = wr := ⟨_, rfl⟩
    go_loopw [4] (fun i wr => ∃ j : Nat, j ≤ xs.length ∧ i = .int .i64 j ∧ allSt n xs j ∧ Below wo.heap.size wo wr) (fun i _ => xs.length - (intOf i).toNat)
    case atStart => exact ⟨0, Nat.zero_le _, rfl, fun _ _ h => absurd h (by omega), Below.refl _ _⟩
    case round =>
     obtain ⟨j, hj, rfl, hst, hb2⟩ := hrel
     have hT := hid hst
     clear hst
     have hsz2 := hb2.size
     have cb2 : wr.cell? ⟨w.heap.size, 0, none⟩ = some (.slice (some ad) n c) := (hb2.cell (p := ⟨w.heap.size, 0, none⟩) (by show w.heap.size < wo.heap.size; omega)).trans cb
     have cr2 : wr.cell? (ad.add k) = some (.slice Ai xs.length ci) := (hb2.cell (by rw [block_of_add]; omega)).trans h0
     by_cases hjl : j < xs.length
     ·obtain ⟨⟨s0, s1, s2⟩, hs⟩ : ∃ s, xs[j]? = some s := ⟨_, List.getElem?_eq_getElem hjl⟩
      obtain ⟨ad', rfl, hab', c0, c1, c2⟩ := (H1.out.below (hb2.mono (by omega))) j _ hs
      dsimp only at c0 c1 c2
      have hX := hid hs
      clear hs
      cases hok : okStep n (s0, s1, s2)
      ·have hs := hid (show okProg p = false from okProg_bad hL.out hH.out (okBody_bad hX.out hok))
       have hC := hid (fun w => by have := l2Step_any s0 s1 s2 (some ad) n c hn w; rw [hok] at this; exact this)
       clear hok
       go_wp2_with fail
       go_region_with (go_at_call 114; refine (hC.out _).mono ?_; rintro e w1 ⟨rfl, hb3⟩)
       all_goals
        go_wp2_with fail
        go_ret
        exact ⟨by rw [hs.out]; rfl, (hbw.trans (hb2.mono hbw.size)).trans ((below_undrew hb3).mono (Nat.le_trans hbw.size hsz2))⟩
      ·have hN := hid (allSt_next hT.out hX.out hok)
       have hC := hid (fun w => by have := l2Step_any s0 s1 s2 (some ad) n c hn w; rw [hok] at this; exact this)
       clear hok
       go_wp2_with fail
       go_region_with (go_at_call 114; refine (hC.out _).mono ?_; rintro e w1 ⟨rfl, hb3⟩)
       all_goals
        go_wp2_with fail
        go_roundw
        case rel => exact ⟨j + 1, by omega, by go_num, hN.out, hb2.trans ((below_undrew hb3).mono hsz2)⟩
        case measure => simp [intOf]; omega
     ·obtain rfl : j = xs.length := by omega
      have hN := hid (allOk_next hO.out hH.out (okBody_yes (by omega) hT.out))
      go_wp2_with fail
      go_roundw
      case rel => exact ⟨k + 1, by omega, by go_num, hN.out, hb.trans (hb2.mono hsz)⟩
      case measure => simp [intOf]; omega
  ·obtain rfl : k = n := by omega
   have hs := hid (show okProg p = true from okProg_yes hL.out (by omega) (by omega) hO.out)
   go_wp2_with fail
   go_ret
   exact ⟨by rw [hs.out]; rfl, hbw⟩
end Go.Proofs.Ytdmcgkcpclepfaa.PrgS
-- squeezed
