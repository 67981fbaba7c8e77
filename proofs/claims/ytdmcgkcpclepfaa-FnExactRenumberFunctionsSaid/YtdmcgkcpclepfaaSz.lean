import Derived.Test.YtdmcgkcpclepfaaTo
set_option linter.all false
namespace Go.Proofs.Ytdmcgkcpclepfaa.Sz
open Lib (hid)
open Go.ChangeShapes Go.WideShapes Go.ChangeAt Go.RowKit
open PL Mem To
def tot (p : Pg) : Nat := p.length + (p.map List.length).sum
def szR (l : Int) (k : Nat) : Int := if l - k < 0 then -1 else l - k
theorem szStepS_any (A : Option Addr) (n c : Nat) (l : Int) (h0 : 0 ≤ l) (h1 : l ≤ 2000000) (hn : n ≤ 9223372036854775807) (w : World) :
  Calls Try.prog 102 #[.slice A n c, .int .i64 l] w fun e w' => e = .returned (.int .i64 (szR l n)) ∧ w = w' := by
 by_cases h : l - (n : Int) < 0
 ·have hs := hid (show szR l n = -1 by rw [szR, if_pos h])
  go_enter Try.func102, Try.ntmps102
  go_wp2
  go_ret
  exact ⟨by rw [hs.out]; rfl, rfl⟩
 ·have hs := hid (show szR l n = l - n by rw [szR, if_neg h])
  go_enter Try.func102, Try.ntmps102
  go_wp2
  go_ret
  exact ⟨by rw [hs.out]; rfl, rfl⟩
theorem szR_hi (l : Int) (k : Nat) (h : l ≤ 2000000) : szR l k ≤ 2000000 := by unfold szR; split <;> omega
theorem szR_pos (l : Int) (k : Nat) (h : 0 ≤ szR l k) : szR l k = l - k := by
 unfold szR at *
 split at h
 ·omega
 ·rename_i g; rw [if_neg g]
theorem szR_neg (l : Int) (k : Nat) (h : szR l k < 0) : szR l k = -1 ∧ l < k := by
 unfold szR at *
 split at h
 ·rename_i g; rw [if_pos g]; exact ⟨rfl, by omega⟩
 ·omega
def used (p : Pg) (k : Nat) : Nat := p.length + ((p.take k).map List.length).sum
theorem used_next (p : Pg) (k : Nat) (xs : List Tr) (h : p[k]? = some xs) : used p (k + 1) = used p k + xs.length := by
 unfold used
 rw [List.take_add_one, h]
 simp
 omega
theorem used_le (p : Pg) (k : Nat) : used p k ≤ tot p := by
 unfold used tot
 have : (p.map List.length).sum = ((p.take k).map List.length).sum + ((p.drop k).map List.length).sum := by
  conv => lhs; rw [← List.take_append_drop k p]
  rw [List.map_append, List.sum_append]
 omega
theorem used_all (p : Pg) (k : Nat) (h : k = p.length) : used p k = tot p := by
 subst h; unfold used tot; rw [List.take_length]
def szP (l : Int) (p : Pg) : Int := szR l (tot p)
theorem szStepSS_any (B : Nat) (A : Option Addr) (n c : Nat) (p : Pg) (l : Int) (h0 : 0 ≤ l) (h1 : l ≤ 2000000) (hn : n ≤ 9223372036854775807) (hl : p.length = n) (hsm : Small p 9223372036854775807) (w : World) (hr : RdP w B A p) :
  Calls Try.prog 51 #[.slice A n c, .int .i64 l] w fun e w' => e = .returned (.int .i64 (szP l p)) ∧ w = w' := by
 have hR := hid hr
 have hL := hid hl
 have hS := hid hsm
 clear hr hl hsm
 by_cases h : l - (n : Int) < 0
 ·have hs := hid (show szP l p = -1 by
   have : n ≤ tot p := by unfold tot; rw [hL.out]; omega
   unfold szP szR; rw [if_pos (by omega)])
  go_enter Try.func51, Try.ntmps51
  go_wp2
  go_ret
  exact ⟨by rw [hs.out]; rfl, rfl⟩
 ·have hz : used p 0 = n := by unfold used; rw [hL.out]; simp
  go_enter Try.func51, Try.ntmps51
  go_wp2
  go_loop [1, 5] (fun v i => ∃ (k : Nat) (m : Int), k ≤ n ∧ i = .int .i64 k ∧ v = .int .i64 m ∧ 0 ≤ m ∧ m ≤ 2000000 ∧ m = l - used p k) (fun _ i => n - (intOf i).toNat)
  case atStart => exact ⟨0, l - n, Nat.zero_le _, rfl, rfl, by omega, by omega, by omega⟩
  case round =>
   obtain ⟨k, m, hk, rfl, rfl, m0, m1, hm⟩ := hrel
   have hM := hid hm
   have hZ := hid hz
   clear hm hz
   by_cases hlt : k < n
   ·obtain ⟨xs, hs⟩ : ∃ s, p[k]? = some s := ⟨_, List.getElem?_eq_getElem (by rw [hL.out]; exact hlt)⟩
    obtain ⟨ad, Ai, ci, rfl, hab, c0, _⟩ := hR.out k _ hs
    have hH := hid hs
    have hxn := hS.out k xs hs
    clear hs
    have hu := hid (used_next p k xs hH.out)
    have hle := used_le p (k + 1)
    go_wp2_with fail
    refine (szStepS_any Ai xs.length ci m m0 m1 hxn _).mono ?_
    rintro e w1 ⟨rfl, rfl⟩
    have hhi := szR_hi m xs.length m1
    by_cases hneg : szR m xs.length < 0
    ·obtain ⟨hq, hlt2⟩ := szR_neg _ _ hneg
     have hQ := hid hq
     clear hq
     have hfin : Hid (szP l p = -1) := hid (by
      have := hM.out; have := hu.out
      unfold szP szR; rw [if_pos (by omega)])
     go_wp2_with fail
     go_ret
     exact ⟨by rw [hfin.out]; rfl, rfl⟩
    ·have hq := hid (szR_pos m xs.length (by omega))
     have h00 : 0 ≤ szR m xs.length := by omega
     have hn2 : Hid (szR m xs.length = l - used p (k + 1)) := hid (by
      have := hM.out; have := hu.out; have := hq.out; omega)
     generalize szR m xs.length = m' at *
     go_wp2_with fail
     go_round
     case rel => exact ⟨k + 1, m', by omega, by go_num, rfl, h00, hhi, hn2.out⟩
     case measure => simp [intOf]; omega
   ·obtain rfl : k = n := by omega
    have hfin : Hid (szP l p = m) := hid (by
     have := hM.out
     have := used_all p k hL.out.symm
     unfold szP szR; rw [if_neg (by omega)]; omega)
    go_wp2_with fail
    go_ret
    exact ⟨by rw [hfin.out]; rfl, rfl⟩
theorem szProgram_any (B : Nat) (A : Option Addr) (n c : Nat) (p : Pg) (l : Int) (h0 : 0 ≤ l) (h1 : l ≤ 2000000) (hn : n ≤ 9223372036854775807) (hl : p.length = n) (hsm : Small p 9223372036854775807) (w : World) (hr : RdP w B A p) (hB : B ≤ w.heap.size) :
  Calls Try.prog 15 #[.agg #[.slice A n c], .int .i64 l] w fun e w' => e = .returned (.int .i64 (szP l p)) ∧ Below w.heap.size w w' := by
 have hR := hid hr
 have hL := hid hl
 have hS := hid hsm
 clear hr hl hsm
 go_enter Try.func15, Try.ntmps15
 go_wp2_with fail
 refine (szStepSS_any B A n c p l h0 h1 hn hL.out hS.out _ (hR.out.below ((Below.refl _ _).alloc hB _))).mono ?_
 rintro e w1 ⟨rfl, rfl⟩
 by_cases hneg : szP l p < 0
 ·have hq := hid (szR_neg _ _ hneg).1
  go_wp2_with fail
  go_ret
  exact ⟨by rw [szP, hq.out]; rfl, (Below.refl _ _).alloc (Nat.le_refl _) _⟩
 ·go_wp2_with fail
  go_ret
  exact ⟨rfl, (Below.refl _ _).alloc (Nat.le_refl _) _⟩
theorem szP_small {p : Pg} (h : ¬ szP 1048576 p < 0) : p.length ≤ 1048576 ∧ Small p 1048576 := by
 have ht : tot p ≤ 1048576 := by
  unfold szP szR at h
  split at h <;> omega
 refine ⟨by unfold tot at ht; omega, fun i xs hx => ?_⟩
 have h1 := used_next p i xs hx
 have h2 := used_le p (i + 1)
 omega
end Go.Proofs.Ytdmcgkcpclepfaa.Sz
-- squeezed
