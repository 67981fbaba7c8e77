import Derived.Test.YtdmcgkcpclepfaaTo
import Derived.Deep.RegionWith
set_option linter.all false
namespace Go.Proofs.Ytdmcgkcpclepfaa.EqP
open Lib (hid)
open Go.ChangeShapes Go.WideShapes Go.ChangeAt Go.RowKit
open PL Mem To
theorem eqStep_same (k a b : Int) (w : World) :
  Calls Try.prog 135 #[.agg #[.int .i64 k, .int .i64 a, .int .i64 b], .agg #[.int .i64 k, .int .i64 a, .int .i64 b]] w fun e w' => e = .returned (.bool true) ∧ Below w.heap.size w w' := by
 go_enter Try.func135, Try.ntmps135
 go_wp2
 go_ret
 exact ⟨rfl, ((Below.refl _ _).alloc (Nat.le_refl _) _).alloc (by simp) _⟩
theorem eqStepS_same (B : Nat) (A A' : Option Addr) (n c c' : Nat) (xs : List Tr) (hn : n ≤ 9223372036854775807) (hl : xs.length = n) (w : World) (hr : Rd3 w B A xs) (hr' : Rd3 w B A' xs) (hB : B ≤ w.heap.size) :
  Calls Try.prog 106 #[.slice A n c, .slice A' n c'] w fun e w' => e = .returned (.bool true) ∧ Below w.heap.size w w' := by
 have hR := hid hr
 have hR' := hid hr'
 have hL := hid hl
 clear hr hr' hl
 go_enter Try.func106, Try.ntmps106
 go_wp2
 go_loopw [5] (fun i wr => ∃ k : Nat, k ≤ n ∧ i = .int .i64 k ∧ Below w.heap.size w wr) (fun i _ => n - (intOf i).toNat)
 case atStart => exact ⟨0, Nat.zero_le _, rfl, Below.refl _ _⟩
 case round =>
  obtain ⟨k, hk, rfl, hb⟩ := hrel
  by_cases hlt : k < n
  ·obtain ⟨⟨s0, s1, s2⟩, hs⟩ : ∃ s, xs[k]? = some s := ⟨_, List.getElem?_eq_getElem (by rw [hL.out]; exact hlt)⟩
   obtain ⟨ad, rfl, hab, h0, h1, h2⟩ := (hR.out.below (hb.mono hB)) k _ hs
   obtain ⟨ad', rfl, hab', h0', h1', h2'⟩ := (hR'.out.below (hb.mono hB)) k _ hs
   have hsz := hb.size
   clear hs
   dsimp only at h0 h1 h2 h0' h1' h2'
   go_wp2_with fail
   go_region_with (go_at_call 135; refine (eqStep_same _ _ _ _).mono ?_; rintro e w1 ⟨rfl, hb1⟩)
   all_goals
    go_wp2
    go_roundw
    case rel => exact ⟨k + 1, by omega, by go_num, hb.trans ((below_undrew hb1).mono hsz)⟩
    case measure => simp [intOf]; omega
  ·go_wp2
   go_ret
   exact ⟨rfl, hb⟩
theorem eqStepSS_same (B : Nat) (A A' : Option Addr) (n c c' : Nat) (p : Pg) (hn : n ≤ 9223372036854775807) (hl : p.length = n) (hsm : Small p 9223372036854775807) (w : World) (hr : RdP w B A p) (hr' : RdP w B A' p) (hB : B ≤ w.heap.size) :
  Calls Try.prog 57 #[.slice A n c, .slice A' n c'] w fun e w' => e = .returned (.bool true) ∧ Below w.heap.size w w' := by
 have hR := hid hr
 have hR' := hid hr'
 have hL := hid hl
 have hS := hid hsm
 clear hr hr' hl hsm
 go_enter Try.func57, Try.ntmps57
 go_wp2
 go_loopw [5] (fun i wr => ∃ k : Nat, k ≤ n ∧ i = .int .i64 k ∧ Below w.heap.size w wr) (fun i _ => n - (intOf i).toNat)
 case atStart => exact ⟨0, Nat.zero_le _, rfl, Below.refl _ _⟩
 case round =>
  obtain ⟨k, hk, rfl, hb⟩ := hrel
  by_cases hlt : k < n
  ·obtain ⟨xs, hs⟩ : ∃ s, p[k]? = some s := ⟨_, List.getElem?_eq_getElem (by rw [hL.out]; exact hlt)⟩
   obtain ⟨ad, Ai, ci, rfl, hab, h0, h1⟩ := (hR.out.below (hb.mono hB)) k _ hs
   obtain ⟨ad', Ai', ci', rfl, hab', h0', h1'⟩ := (hR'.out.below (hb.mono hB)) k _ hs
   have hsz := hb.size
   have hxn := hS.out k xs hs
   have H1 := hid h1
   have H1' := hid h1'
   clear hs h1 h1'
   go_wp2_with fail
   go_region_with (go_at_call 106; refine (eqStepS_same B Ai Ai' xs.length ci ci' xs hxn rfl _ (by exact H1.out) (by exact H1'.out) (by exact Nat.le_trans hB hsz)).mono ?_; rintro e w1 ⟨rfl, hb1⟩)
   all_goals
    go_wp2
    go_roundw
    case rel => exact ⟨k + 1, by omega, by go_num, hb.trans ((below_undrew hb1).mono hsz)⟩
    case measure => simp [intOf]; omega
  ·go_wp2
   go_ret
   exact ⟨rfl, hb⟩
theorem eqProgram_same (B : Nat) (A A' : Option Addr) (n c c' : Nat) (p : Pg) (hn : n ≤ 9223372036854775807) (hl : p.length = n) (hsm : Small p 9223372036854775807) (w : World) (hr : RdP w B A p) (hr' : RdP w B A' p) (hB : B ≤ w.heap.size) :
  Calls Try.prog 20 #[.agg #[.slice A n c], .agg #[.slice A' n c']] w fun e w' => e = .returned (.bool true) ∧ Below w.heap.size w w' := by
 have hR := hid hr
 have hR' := hid hr'
 have hL := hid hl
 have hS := hid hsm
 clear hr hr' hl hsm
 have hb0 : ∀ o o' : Obj, Below w.heap.size w ((w.alloc o).alloc o') := fun o o' => ((Below.refl _ _).alloc (Nat.le_refl _) _).alloc (by simp) _
 go_enter Try.func20, Try.ntmps20
 go_wp2_with fail
 refine (eqStepSS_same B A A' n c c' p hn hL.out hS.out _ (by exact hR.out.below ((hb0 _ _).mono hB)) (by exact hR'.out.below ((hb0 _ _).mono hB)) (by exact Nat.le_trans hB (hb0 _ _).size)).mono ?_
 rintro e w1 ⟨rfl, hb1⟩
 go_wp2_with fail
 go_ret
 exact ⟨rfl, (hb0 _ _).trans (hb1.mono (hb0 _ _).size)⟩
end Go.Proofs.Ytdmcgkcpclepfaa.EqP
-- squeezed
