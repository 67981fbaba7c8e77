import Derived.Test.YthejnpignlhgiaaM1
import Derived.RegionTactic
import Derived.BigRegion
import Derived.Deep.RegionWith
import Derived.OpenShut
import Derived.Deep.Slices
import Derived.Deep.Fields
import Derived.ChangeSame
import Derived.Carry
set_option linter.all false
namespace Go.Proofs.Ythejnpignlhgiaa.IntsP
open Lib (hid)
open Go.ChangeShapes Go.WideShapes Go.ChangeAt Go.RowKit
open PL Mem
def cellsI (l : List Int) : List Value := l.map (Value.int .i64)
theorem cellsI_length (l : List Int) : (cellsI l).length = l.length := by simp [cellsI]
theorem cellsI_append (a b : List Int) : cellsI (a ++ b) = cellsI a ++ cellsI b := by simp [cellsI]
theorem cellsI_at (l : List Int) (j : Nat) (z : Int) (h : l[j]? = some z) : (cellsI l)[j]? = some (.int .i64 z) := by simp [cellsI, h]
theorem cellsI_set (l : List Int) (j : Nat) (z : Int) : (cellsI l).set j (.int .i64 z) = cellsI (l.set j z) := by simp [cellsI, List.map_set]
def RdI (w : World) (B : Nat) (A : Option Addr) (xs : List Int) : Prop :=
 ∀ (j : Nat) (z : Int), xs[j]? = some z → ∃ ad, A = some ad ∧ ad.block < B ∧ w.cell? (ad.add j) = some (.int .i64 z)
theorem RdI.keep {w w' : World} {B : Nat} {A : Option Addr} {xs : List Int} (h : RdI w B A xs) (hk : ∀ p : Addr, p.block < B → w'.cell? p = w.cell? p) : RdI w' B A xs :=
 fun j z hz => by
  obtain ⟨ad, e, hb, h0⟩ := h j z hz
  exact ⟨ad, e, hb, (hk _ (by rw [block_of_add]; exact hb)).trans h0⟩
theorem RdI.below {w w' : World} {B : Nat} {A : Option Addr} {xs : List Int} (h : RdI w B A xs) (hb : Below B w w') : RdI w' B A xs := h.keep fun _ hp => hb.cell hp
theorem RdI.more {w : World} {B B' : Nat} {A : Option Addr} {xs : List Int} (h : RdI w B A xs) (hB : B ≤ B') : RdI w B' A xs :=
 fun j z hz => by
  obtain ⟨ad, e, hb, r⟩ := h j z hz
  exact ⟨ad, e, by omega, r⟩
def OwnI (w : World) (lo : Nat) (v : Value) (xs : List Int) : Prop := w.ownsRow lo 3 1 v xs.length (cellsI xs)
theorem rdI_own {w : World} {B n c e : Nat} {A : Option Addr} {xs : List Int} (h : w.ownsRow B e 1 (.slice A n c) n (cellsI xs)) : RdI w w.heap.size A xs := by
 intro j z hz
 have hn : xs.length = n := by have := h.1; rw [cellsI_length] at this; omega
 have hj : j < xs.length := (List.getElem?_eq_some_iff.1 hz).1
 rcases own_form h with ⟨h0, _⟩ | ⟨_, g, cap, hv, _, hg⟩
 ·omega
 ·simp only [Value.slice.injEq, true_and] at hv
  obtain ⟨rfl, rfl⟩ := hv
  refine ⟨_, rfl, hg, ?_⟩
  rw [add_own, h.cellAt _ (by omega)]
  exact cellsI_at xs j z hz
theorem OwnI.rd {w : World} {lo n c : Nat} {A : Option Addr} {xs : List Int} (h : OwnI w lo (.slice A n c) xs) (hn : xs.length = n) : RdI w w.heap.size A xs := by
 unfold OwnI at h
 rw [hn] at h
 exact rdI_own h
theorem own_cellI {w : World} {B e n g c : Nat} {xs : List Int} (h : w.ownsRow B e 1 (.slice (some ⟨g, 0, none⟩) n c) n (cellsI xs)) {j : Nat} (hj : j < n) : ∃ u, w.cell? ⟨g, j, none⟩ = some u := by
 have hn : xs.length = n := by have := h.1; rw [cellsI_length] at this; omega
 obtain ⟨z, hz⟩ : ∃ z, xs[j]? = some z := ⟨_, List.getElem?_eq_getElem (by omega)⟩
 exact ⟨_, (h.cellAt _ (by omega)).trans (cellsI_at xs j z hz)⟩
theorem own_setI {w : World} {B e n g c : Nat} {xs : List Int} (h : w.ownsRow B e 1 (.slice (some ⟨g, 0, none⟩) n c) n (cellsI xs)) (j : Nat) (z : Int) :
  (w.setCell ⟨g, j, none⟩ (.int .i64 z)).ownsRow B e 1 (.slice (some ⟨g, 0, none⟩) n c) n (cellsI (xs.set j z)) := by
 have := (h.stored j (.int .i64 z)).1
 rwa [cellsI_set xs j z] at this
def marksI (k : Int) (n : Nat) : List Int := (List.range n).map (fun (i : Nat) => k + i)
theorem marksI_length (k : Int) (n : Nat) : (marksI k n).length = n := by simp [marksI]
theorem marksI_at (k : Int) (n i : Nat) (h : i < n) : (marksI k n)[i]? = some (k + i) := by simp [marksI, h]
theorem marksI_succ (k : Int) (n : Nat) : marksI k (n + 1) = marksI k n ++ [k + n] := by simp [marksI, List.range_succ]
theorem marksI_set (k : Int) (xs : List Int) (i : Nat) (hi : i < xs.length) : (marksI k i ++ xs.drop i).set i (k + i) = marksI k (i + 1) ++ xs.drop (i + 1) := by
 rw [List.set_append_right _ _ (by rw [marksI_length]; exact Nat.le_refl _), marksI_length, Nat.sub_self, List.drop_eq_getElem_cons hi, List.set_cons_zero, marksI_succ, List.append_assoc]
 rfl
theorem eqIntS_same (B : Nat) (A A' : Option Addr) (n c c' : Nat) (xs : List Int) (hn : n ≤ 9223372036854775807) (hl : xs.length = n) (w : World) (hr : RdI w B A xs) (hr' : RdI w B A' xs) (hB : B ≤ w.heap.size) :
  Calls Try.prog 27 #[.slice A n c, .slice A' n c'] w fun e w' => e = .returned (.bool true) ∧ Below w.heap.size w w' := by
 have hR := hid hr
 have hR' := hid hr'
 have hL := hid hl
 clear hr hr' hl
 go_enter Try.func27, Try.ntmps27
 go_wp2
 go_loopw [5] (fun i wr => ∃ k : Nat, k ≤ n ∧ i = .int .i64 k ∧ Below w.heap.size w wr) (fun i _ => n - (intOf i).toNat)
 case atStart => exact ⟨0, Nat.zero_le _, rfl, Below.refl _ _⟩
 case round =>
  obtain ⟨k, hk, rfl, hb⟩ := hrel
  by_cases hlt : k < n
  ·obtain ⟨z, hs⟩ : ∃ s, xs[k]? = some s := ⟨_, List.getElem?_eq_getElem (by rw [hL.out]; exact hlt)⟩
   obtain ⟨ad, rfl, hab, h0⟩ := (hR.out.below (hb.mono hB)) k _ hs
   obtain ⟨ad', rfl, hab', h0'⟩ := (hR'.out.below (hb.mono hB)) k _ hs
   have hbd : Below w.heap.size w wr.drew := hb.drew
   clear hs
   go_wp2_with fail
   go_region
   all_goals
    go_wp2
    go_roundw
    case rel => exact ⟨k + 1, by omega, by go_num, hbd⟩
    case measure => simp [intOf]; omega
  ·go_wp2
   go_ret
   exact ⟨rfl, hb⟩
def MarkedI (B n c : Nat) (A : Option Addr) (k : Int) (w : World) (e : Ending) (w' : World) : Prop :=
 e = .returned (.int .i64 (k + n)) ∧ w'.ownsRow B 3 1 (.slice A n c) n (cellsI (marksI k n)) ∧ Chg (fun b => (Value.slice A n c).ownBlock = some b) w w'
theorem markIntS_any (B n c : Nat) (A : Option Addr) (xs : List Int) (k : Int) (hn : n ≤ 2000000) (hl : xs.length = n) (hk0 : 0 ≤ k) (hk : k ≤ 20000000000) (w : World)
  (ho : w.ownsRow B 3 1 (.slice A n c) n (cellsI xs)) :
  Calls Try.prog 29 #[.slice A n c, .int .i64 k] w (MarkedI B n c A k w) := by
 have hO0 := hid ho
 have hL := hid hl
 clear ho hl
 go_enter Try.func29, Try.ntmps29
 go_wp2
 go_loopw [1, 5] (fun v i wr => ∃ (j : Nat) (m : Int), j ≤ n ∧ i = .int .i64 j ∧ v = .int .i64 m ∧ 0 ≤ m ∧ m ≤ 20000000000 + j ∧ Hid (m = k + j) ∧ wr.ownsRow B 3 1 (.slice A n c) n (cellsI (marksI k j ++ xs.drop j)) ∧
   Chg (fun b => (Value.slice A n c).ownBlock = some b) w wr) (fun _ i _ => n - (intOf i).toNat)
 case atStart => exact ⟨0, k, Nat.zero_le _, rfl, rfl, hk0, by omega, hid (by omega), by simpa [marksI] using hO0.out, Chg.refl _ _⟩
 case round =>
  obtain ⟨j, m, hj, rfl, rfl, m0, m1, hM, hown, hch⟩ := hrel
  have m2 : m ≤ 27000000000 := by omega
  by_cases hlt : j < n
  ·have hO := hid hown
   have hC := hid hch
   rcases own_form hown with ⟨h0, _⟩ | ⟨_, g, cap, hv, _, hg⟩
   ·omega
   ·simp only [Value.slice.injEq, true_and] at hv
    obtain ⟨rfl, rfl⟩ := hv
    obtain ⟨u0, g0⟩ := own_cellI hown hlt
    have f := hown.frozenAt
    clear hown hch
    go_wp2
    go_roundw
    case rel =>
     refine ⟨j + 1, m + 1, by omega, by go_num, rfl, by omega, by omega, hid (by rw [hM.out]; omega), ?_, ?_⟩
     ·rw [← marksI_set k xs j (by rw [hL.out]; exact hlt), ← hM.out]
      exact own_setI hO.out j m
     ·refine Chg.put hC.out _ _ ?_
      exact .inr rfl
    case measure => simp [intOf]; omega
  ·obtain rfl : j = n := by omega
   have hO := hid hown
   have hC := hid hch
   clear hown hch
   go_wp2
   go_ret
   refine ⟨by rw [hM.out]; rfl, ?_, hC.out⟩
   have := hO.out
   rwa [List.drop_eq_nil_of_le (by rw [hL.out]; omega), List.append_nil] at this
theorem heldIntS_any (B n c : Nat) (A : Option Addr) (k : Int) (hn : n ≤ 2000000) (hk0 : 0 ≤ k) (hk : k ≤ 20000000000) (w : World) (hr : RdI w B A (marksI k n)) :
  Calls Try.prog 30 #[.slice A n c, .int .i64 k] w fun e w' => e = .returned (.int .i64 (k + n)) ∧ w = w' := by
 have hR := hid hr
 clear hr
 go_enter Try.func30, Try.ntmps30
 go_wp2
 go_loop [1, 5] (fun v i => ∃ (j : Nat) (m : Int), j ≤ n ∧ i = .int .i64 j ∧ v = .int .i64 m ∧ 0 ≤ m ∧ m ≤ 20000000000 + j ∧ Hid (m = k + j)) (fun _ i => n - (intOf i).toNat)
 case atStart => exact ⟨0, k, Nat.zero_le _, rfl, rfl, hk0, by omega, hid (by omega)⟩
 case round =>
  obtain ⟨j, m, hj, rfl, rfl, m0, m1, hM⟩ := hrel
  have m2 : m ≤ 27000000000 := by omega
  by_cases hlt : j < n
  ·have hs := marksI_at k n j hlt
   rw [← hM.out] at hs
   obtain ⟨ad, rfl, hab, h0⟩ := hR.out j _ hs
   clear hs
   go_wp2
   go_round
   case rel => exact ⟨j + 1, m + 1, by omega, by go_num, rfl, by omega, by omega, hid (by rw [hM.out]; omega)⟩
   case measure => simp [intOf]; omega
  ·obtain rfl : j = n := by omega
   go_wp2
   go_ret
   exact ⟨by rw [hM.out]; rfl, rfl⟩
end Go.Proofs.Ythejnpignlhgiaa.IntsP

namespace Go.Proofs.Ythejnpignlhgiaa.EqP
open Lib (hid)
open Go.ChangeShapes Go.WideShapes Go.ChangeAt Go.RowKit
open PL Mem To
theorem eqStep_same (k a b : Int) (w : World) :
  Calls Try.prog 123 #[.agg #[.int .i64 k, .int .i64 a, .int .i64 b], .agg #[.int .i64 k, .int .i64 a, .int .i64 b]] w fun e w' => e = .returned (.bool true) ∧ Below w.heap.size w w' := by
 go_enter Try.func123, Try.ntmps123
 go_wp2
 go_ret
 exact ⟨rfl, ((Below.refl _ _).alloc (Nat.le_refl _) _).alloc (by simp) _⟩
theorem eqStepS_same (B : Nat) (A A' : Option Addr) (n c c' : Nat) (xs : List Tr) (hn : n ≤ 9223372036854775807) (hl : xs.length = n) (w : World) (hr : Rd3 w B A xs) (hr' : Rd3 w B A' xs) (hB : B ≤ w.heap.size) :
  Calls Try.prog 104 #[.slice A n c, .slice A' n c'] w fun e w' => e = .returned (.bool true) ∧ Below w.heap.size w w' := by
 have hR := hid hr
 have hR' := hid hr'
 have hL := hid hl
 clear hr hr' hl
 go_enter Try.func104, Try.ntmps104
 go_wp2
 go_loopw [5] (fun i wr => ∃ k : Nat, k ≤ n ∧ i = .int .i64 k ∧ Below w.heap.size w wr) (fun i _ => n - (intOf i).toNat)
 case atStart => exact ⟨0, Nat.zero_le _, rfl, Below.refl _ _⟩
 case round =>
  obtain ⟨k, hk, rfl, hb⟩ := hrel
  by_cases hlt : k < n
  ·obtain ⟨⟨s0, s1, s2⟩, hs⟩ : ∃ s, xs[k]? = some s := ⟨_, List.getElem?_eq_getElem (by rw [hL.out]; exact hlt)⟩
   obtain ⟨ad, rfl, hab, h0, h1, h2⟩ := (hR.out.below (hb.mono hB)) k _ hs
   obtain ⟨ad', rfl, hab', h0', h1', h2'⟩ := (hR'.out.below (hb.mono hB)) k _ hs
   have hsz := hb.size
   clear hs
   dsimp only at h0 h1 h2 h0' h1' h2'
   go_wp2_with fail
   go_region_with (go_at_call 123; refine (eqStep_same _ _ _ _).mono ?_; rintro e w1 ⟨rfl, hb1⟩)
   all_goals
    go_wp2
    go_roundw
    case rel => exact ⟨k + 1, by omega, by go_num, hb.trans ((below_undrew hb1).mono hsz)⟩
    case measure => simp [intOf]; omega
  ·go_wp2
   go_ret
   exact ⟨rfl, hb⟩
theorem eqStepSS_same (B : Nat) (A A' : Option Addr) (n c c' : Nat) (p : Pg) (hn : n ≤ 9223372036854775807) (hl : p.length = n) (hsm : Small p 9223372036854775807) (w : World) (hr : RdP w B A p) (hr' : RdP w B A' p) (hB : B ≤ w.heap.size) :
  Calls Try.prog 67 #[.slice A n c, .slice A' n c'] w fun e w' => e = .returned (.bool true) ∧ Below w.heap.size w w' := by
 have hR := hid hr
 have hR' := hid hr'
 have hL := hid hl
 have hS := hid hsm
 clear hr hr' hl hsm
 go_enter Try.func67, Try.ntmps67
 go_wp2
 go_loopw [5] (fun i wr => ∃ k : Nat, k ≤ n ∧ i = .int .i64 k ∧ Below w.heap.size w wr) (fun i _ => n - (intOf i).toNat)
 case atStart => exact ⟨0, Nat.zero_le _, rfl, Below.refl _ _⟩
 case round =>
  obtain ⟨k, hk, rfl, hb⟩ := hrel
  by_cases hlt : k < n
  ·obtain ⟨xs, hs⟩ : ∃ s, p[k]? = some s := ⟨_, List.getElem?_eq_getElem (by rw [hL.out]; exact hlt)⟩
   obtain ⟨ad, Ai, ci, rfl, hab, h0, h1⟩ := (hR.out.below (hb.mono hB)) k _ hs
   obtain ⟨ad', Ai', ci', rfl, hab', h0', h1'⟩ := (hR'.out.below (hb.mono hB)) k _ hs
   have hsz := hb.size
   have hxn := hS.out k xs hs
   have H1 := hid h1
   have H1' := hid h1'
   clear hs h1 h1'
   go_wp2_with fail
   go_region_with (go_at_call 104; refine (eqStepS_same B Ai Ai' xs.length ci ci' xs hxn rfl _ (by exact H1.out) (by exact H1'.out) (by exact Nat.le_trans hB hsz)).mono ?_; rintro e w1 ⟨rfl, hb1⟩)
   all_goals
    go_wp2
    go_roundw
    case rel => exact ⟨k + 1, by omega, by go_num, hb.trans ((below_undrew hb1).mono hsz)⟩
    case measure => simp [intOf]; omega
  ·go_wp2
   go_ret
   exact ⟨rfl, hb⟩
theorem eqProgram_same (B : Nat) (A A' : Option Addr) (n c c' : Nat) (p : Pg) (hn : n ≤ 9223372036854775807) (hl : p.length = n) (hsm : Small p 9223372036854775807) (w : World) (hr : RdP w B A p) (hr' : RdP w B A' p) (hB : B ≤ w.heap.size) :
  Calls Try.prog 21 #[.agg #[.slice A n c], .agg #[.slice A' n c']] w fun e w' => e = .returned (.bool true) ∧ Below w.heap.size w w' := by
 have hR := hid hr
 have hR' := hid hr'
 have hL := hid hl
 have hS := hid hsm
 clear hr hr' hl hsm
 have hb0 : ∀ o o' : Obj, Below w.heap.size w ((w.alloc o).alloc o') := fun o o' => ((Below.refl _ _).alloc (Nat.le_refl _) _).alloc (by simp) _
 go_enter Try.func21, Try.ntmps21
 go_wp2_with fail
 refine (eqStepSS_same B A A' n c c' p hn hL.out hS.out _ (by exact hR.out.below ((hb0 _ _).mono hB)) (by exact hR'.out.below ((hb0 _ _).mono hB)) (by exact Nat.le_trans hB (hb0 _ _).size)).mono ?_
 rintro e w1 ⟨rfl, hb1⟩
 go_wp2_with fail
 go_ret
 exact ⟨rfl, (hb0 _ _).trans (hb1.mono (hb0 _ _).size)⟩
end Go.Proofs.Ythejnpignlhgiaa.EqP

namespace Go.Proofs.Ythejnpignlhgiaa.Sz
open Lib (hid)
open Go.ChangeShapes Go.WideShapes Go.ChangeAt Go.RowKit
open PL Mem To
def tot (p : Pg) : Nat := p.length + (p.map List.length).sum
def szR (l : Int) (k : Nat) : Int := if l - k < 0 then -1 else l - k
theorem szStepS_any (A : Option Addr) (n c : Nat) (l : Int) (h0 : 0 ≤ l) (h1 : l ≤ 2000000) (hn : n ≤ 9223372036854775807) (w : World) :
  Calls Try.prog 95 #[.slice A n c, .int .i64 l] w fun e w' => e = .returned (.int .i64 (szR l n)) ∧ w = w' := by
 by_cases h : l - (n : Int) < 0
 ·have hs := hid (show szR l n = -1 by rw [szR, if_pos h])
  go_enter Try.func95, Try.ntmps95
  go_wp2
  go_ret
  exact ⟨by rw [hs.out]; rfl, rfl⟩
 ·have hs := hid (show szR l n = l - n by rw [szR, if_neg h])
  go_enter Try.func95, Try.ntmps95
  go_wp2
  go_ret
  exact ⟨by rw [hs.out]; rfl, rfl⟩
theorem szR_hi (l : Int) (k : Nat) (h : l ≤ 2000000) : szR l k ≤ 2000000 := by unfold szR; split <;> omega
theorem szR_pos (l : Int) (k : Nat) (h : 0 ≤ szR l k) : szR l k = l - k := by
 unfold szR at *
 split at h
 ·omega
 ·rename_i g; rw [if_neg g]
theorem szR_neg (l : Int) (k : Nat) (h : szR l k < 0) : szR l k = -1 ∧ l < k := by
 unfold szR at *
 split at h
 ·rename_i g; rw [if_pos g]; exact ⟨rfl, by omega⟩
 ·omega
def used (p : Pg) (k : Nat) : Nat := p.length + ((p.take k).map List.length).sum
theorem used_next (p : Pg) (k : Nat) (xs : List Tr) (h : p[k]? = some xs) : used p (k + 1) = used p k + xs.length := by
 unfold used
 rw [List.take_add_one, h]
 simp
 omega
theorem used_le (p : Pg) (k : Nat) : used p k ≤ tot p := by
 unfold used tot
 have : (p.map List.length).sum = ((p.take k).map List.length).sum + ((p.drop k).map List.length).sum := by
  conv => lhs; rw [← List.take_append_drop k p]
  rw [List.map_append, List.sum_append]
 omega
theorem used_all (p : Pg) (k : Nat) (h : k = p.length) : used p k = tot p := by
 subst h; unfold used tot; rw [List.take_length]
def szP (l : Int) (p : Pg) : Int := szR l (tot p)
theorem szStepSS_any (B : Nat) (A : Option Addr) (n c : Nat) (p : Pg) (l : Int) (h0 : 0 ≤ l) (h1 : l ≤ 2000000) (hn : n ≤ 9223372036854775807) (hl : p.length = n) (hsm : Small p 9223372036854775807) (w : World) (hr : RdP w B A p) :
  Calls Try.prog 57 #[.slice A n c, .int .i64 l] w fun e w' => e = .returned (.int .i64 (szP l p)) ∧ w = w' := by
 have hR := hid hr
 have hL := hid hl
 have hS := hid hsm
 clear hr hl hsm
 by_cases h : l - (n : Int) < 0
 ·have hs := hid (show szP l p = -1 by
   have : n ≤ tot p := by unfold tot; rw [hL.out]; omega
   unfold szP szR; rw [if_pos (by omega)])
  go_enter Try.func57, Try.ntmps57
  go_wp2
  go_ret
  exact ⟨by rw [hs.out]; rfl, rfl⟩
 ·have hz : used p 0 = n := by unfold used; rw [hL.out]; simp
  go_enter Try.func57, Try.ntmps57
  go_wp2
  go_loop [1, 5] (fun v i => ∃ (k : Nat) (m : Int), k ≤ n ∧ i = .int .i64 k ∧ v = .int .i64 m ∧ 0 ≤ m ∧ m ≤ 2000000 ∧ m = l - used p k) (fun _ i => n - (intOf i).toNat)
  case atStart => exact ⟨0, l - n, Nat.zero_le _, rfl, rfl, by omega, by omega, by omega⟩
  case round =>
   obtain ⟨k, m, hk, rfl, rfl, m0, m1, hm⟩ := hrel
   have hM := hid hm
   have hZ := hid hz
   clear hm hz
   by_cases hlt : k < n
   ·obtain ⟨xs, hs⟩ : ∃ s, p[k]? = some s := ⟨_, List.getElem?_eq_getElem (by rw [hL.out]; exact hlt)⟩
    obtain ⟨ad, Ai, ci, rfl, hab, c0, _⟩ := hR.out k _ hs
    have hH := hid hs
    have hxn := hS.out k xs hs
    clear hs
    have hu := hid (used_next p k xs hH.out)
    have hle := used_le p (k + 1)
    go_wp2_with fail
    refine (szStepS_any Ai xs.length ci m m0 m1 hxn _).mono ?_
    rintro e w1 ⟨rfl, rfl⟩
    have hhi := szR_hi m xs.length m1
    by_cases hneg : szR m xs.length < 0
    ·obtain ⟨hq, hlt2⟩ := szR_neg _ _ hneg
     have hQ := hid hq
     clear hq
     have hfin : Hid (szP l p = -1) := hid (by
      have := hM.out; have := hu.out
      unfold szP szR; rw [if_pos (by omega)])
     go_wp2_with fail
     go_ret
     exact ⟨by rw [hfin.out]; rfl, rfl⟩
    ·have hq := hid (szR_pos m xs.length (by omega))
     have h00 : 0 ≤ szR m xs.length := by omega
     have hn2 : Hid (szR m xs.length = l - used p (k + 1)) := hid (by
      have := hM.out; have := hu.out; have := hq.out; omega)
     generalize szR m xs.length = m' at *
     go_wp2_with fail
     go_round
     case rel => exact ⟨k + 1, m', by omega, by go_num, rfl, h00, hhi, hn2.out⟩
     case measure => simp [intOf]; omega
   ·obtain rfl : k = n := by omega
    have hfin : Hid (szP l p = m) := hid (by
     have := hM.out
     have := used_all p k hL.out.symm
     unfold szP szR; rw [if_neg (by omega)]; omega)
    go_wp2_with fail
    go_ret
    exact ⟨by rw [hfin.out]; rfl, rfl⟩
theorem szProgram_any (B : Nat) (A : Option Addr) (n c : Nat) (p : Pg) (l : Int) (h0 : 0 ≤ l) (h1 : l ≤ 2000000) (hn : n ≤ 9223372036854775807) (hl : p.length = n) (hsm : Small p 9223372036854775807) (w : World) (hr : RdP w B A p) (hB : B ≤ w.heap.size) :
  Calls Try.prog 15 #[.agg #[.slice A n c], .int .i64 l] w fun e w' => e = .returned (.int .i64 (szP l p)) ∧ Below w.heap.size w w' := by
 have hR := hid hr
 have hL := hid hl
 have hS := hid hsm
 clear hr hl hsm
 go_enter Try.func15, Try.ntmps15
 go_wp2_with fail
 refine (szStepSS_any B A n c p l h0 h1 hn hL.out hS.out _ (hR.out.below ((Below.refl _ _).alloc hB _))).mono ?_
 rintro e w1 ⟨rfl, rfl⟩
 by_cases hneg : szP l p < 0
 ·have hq := hid (szR_neg _ _ hneg).1
  go_wp2_with fail
  go_ret
  exact ⟨by rw [szP, hq.out]; rfl, (Below.refl _ _).alloc (Nat.le_refl _) _⟩
 ·go_wp2_with fail
  go_ret
  exact ⟨rfl, (Below.refl _ _).alloc (Nat.le_refl _) _⟩
theorem szP_small {p : Pg} (h : ¬ szP 1048576 p < 0) : p.length ≤ 1048576 ∧ Small p 1048576 := by
 have ht : tot p ≤ 1048576 := by
  unfold szP szR at h
  split at h <;> omega
 refine ⟨by unfold tot at ht; omega, fun i xs hx => ?_⟩
 have h1 := used_next p i xs hx
 have h2 := used_le p (i + 1)
 omega
end Go.Proofs.Ythejnpignlhgiaa.Sz

namespace Go.Proofs.Ythejnpignlhgiaa.OpenP
open Go.ChangeShapes Go.WideShapes Go.ChangeAt Go.RowKit Go.Deep
open PL Mem
def fit (z : Int) : Prop := -9223372036854775808 ≤ z ∧ z ≤ 9223372036854775807
def fits (s : Tr) : Prop := fit s.1 ∧ fit s.2.1 ∧ fit s.2.2
def FitP (p : Pg) : Prop := ∀ (i j : Nat) (xs : List Tr) (s : Tr), p[i]? = some xs → xs[j]? = some s → fits s
section
variable {H : Type} {enc : TypeId × Value → H} {w : World} {base : Nat} {spare : Nat → Bool} {held : Bool}
set_option maxRecDepth 100000 in
theorem int_of {fuel : Nat} {cs : List Value} {x : DataW H × List MemPlace} (h : DataW.trod enc Try.prog w base spare held fuel 3 cs = some x) : ∃ z, cs = [.int .i64 z] ∧ fit z := by
 obtain ⟨z, h1, _, h3⟩ := DataW.trod_int Try.underlying3 h
 refine ⟨z, h1, ?_⟩
 simp only [Lit.wf, Bool.and_eq_true, decide_eq_true_eq] at h3
 exact ⟨h3.1, h3.2⟩
set_option maxRecDepth 100000 in
theorem triple_of {fuel : Nat} {cs : List Value} {x : DataW H × List MemPlace} (h : DataW.trod enc Try.prog w base spare held fuel 174 cs = some x) : ∃ s : Tr, cs = c3 s ∧ fits s := by
 obtain ⟨xs, n, _, _, hlen, hxl, hf⟩ := DataW.trod_struct Try.underlying174 h
 have h3 : cs.length = 3 := hlen.trans (by kernel_rfl)
 have h3x : xs.length = 3 := hxl
 match cs, h3 with
 | [c0, c1, c2], _ =>
  match xs, h3x with
  | [y0, y1, y2], _ =>
   have k : Try.prog.cellsOf 3 = 1 := by kernel_rfl
   have g0 : DataW.trod enc Try.prog w base spare held n 3 (([c0, c1, c2].drop 0).take (Try.prog.cellsOf 3)) = some y0 := hf 0 _ rfl
   have g1 : DataW.trod enc Try.prog w base spare held n 3 (([c0, c1, c2].drop 1).take (Try.prog.cellsOf 3)) = some y1 := hf 1 _ rfl
   have g2 : DataW.trod enc Try.prog w base spare held n 3 (([c0, c1, c2].drop 2).take (Try.prog.cellsOf 3)) = some y2 := hf 2 _ rfl
   rw [k] at g0 g1 g2
   obtain ⟨z0, e0, f0⟩ := int_of (x := y0) (by simpa using g0)
   obtain ⟨z1, e1, f1⟩ := int_of (x := y1) (by simpa using g1)
   obtain ⟨z2, e2, f2⟩ := int_of (x := y2) (by simpa using g2)
   refine ⟨(z0, z1, z2), ?_, f0, f1, f2⟩
   simp at e0 e1 e2
   rw [e0, e1, e2]; rfl
set_option maxRecDepth 100000 in
theorem steps_of {fuel : Nat} {cs : List Value} {x : DataW H × List MemPlace} (h : DataW.trod enc Try.prog w base spare held fuel 134 cs = some x) :
  ∃ A c xs, cs = [.slice A xs.length c] ∧ xs.length ≤ maxLen ∧ Rd3 w w.heap.size A xs ∧ ∀ (j : Nat) (s : Tr), xs[j]? = some s → fits s := by
 rcases open_slice Try.underlying134 h with ⟨h0, _⟩ | ⟨a, len, cap, m, n, D, Pl, rfl, hb, hl, hm, hmm, _, hi⟩
 ·exact ⟨none, 0, [], h0, by simp, fun j s hs => by simp at hs, fun j s hs => by simp at hs⟩
 ·have hc : Try.prog.cellsOf 174 = 3 := by kernel_rfl
  rw [hc] at hi
  have hlm : len ≤ m := by rw [hmm]; split <;> omega
  obtain ⟨F, hF⟩ := choose_lt (α := Tr) (n := len) (p := fun i s => fits s ∧ w.cell? (a.add (i * 3)) = some (.int .i64 s.1) ∧ w.cell? ((a.add (i * 3)).add 1) = some (.int .i64 s.2.1) ∧ w.cell? ((a.add (i * 3)).add 2) = some (.int .i64 s.2.2)) (fun i hil => by
   obtain ⟨cs', h1, h2⟩ := hi i (by omega)
   obtain ⟨s, rfl, hs⟩ := triple_of h2
   obtain ⟨_, _, hat⟩ := World.cells?_some h1
   have a0 := hat 0 (by omega)
   have a1 := hat 1 (by omega)
   have a2 := hat 2 (by omega)
   refine ⟨s, hs, ?_, a1, a2⟩
   have z0 : ∀ b : Addr, b.add 0 = b := fun b => by simp [Addr.add]
   rw [z0] at a0
   exact a0)
  refine ⟨some a, cap, (List.range len).map F, by simp, by simp; omega, fun j s hs => ?_, fun j s hs => ?_⟩
  ·have hj : j < len := by have := (List.getElem?_eq_some_iff.1 hs).1; simpa using this
   obtain rfl : F j = s := by simpa [hj] using hs
   obtain ⟨_, g0, g1, g2⟩ := hF j hj
   have hlt := World.block_lt_of_cell? w _ g0
   rw [block_of_add] at hlt
   exact ⟨a, rfl, hlt, g0, g1, g2⟩
  ·have hj : j < len := by have := (List.getElem?_eq_some_iff.1 hs).1; simpa using this
   obtain rfl : F j = s := by simpa [hj] using hs
   exact (hF j hj).1
set_option maxRecDepth 100000 in
theorem prog_of {fuel : Nat} {cs : List Value} {x : DataW H × List MemPlace} (h : DataW.trod enc Try.prog w base spare held fuel 22 cs = some x) :
  ∃ A c p, cs = [.slice A p.length c] ∧ p.length ≤ maxLen ∧ RdP w w.heap.size A p ∧ FitP p ∧ Small p maxLen := by
 rcases open_slice1 Try.underlying22 (by kernel_rfl) h with ⟨h0, _⟩ | ⟨a, len, cap, m, n, V, D, Pl, rfl, hb, hl, hm, hmm, _, hi⟩
 ·exact ⟨none, 0, [], h0, by simp, fun j s hs => by simp at hs, fun i j xs s hs => by simp at hs, fun i xs hs => by simp at hs⟩
 ·have hlm : len ≤ m := by rw [hmm]; split <;> omega
  obtain ⟨F, hF⟩ := choose_lt (α := List Tr) (n := len) (p := fun i xs => (∃ Ai ci, w.cell? (a.add i) = some (.slice Ai xs.length ci) ∧ Rd3 w w.heap.size Ai xs) ∧ xs.length ≤ maxLen ∧ ∀ (j : Nat) (s : Tr), xs[j]? = some s → fits s) (fun i hil => by
   obtain ⟨h1, h2⟩ := hi i (by omega)
   obtain ⟨Ai, ci, xs, e, hlen, hr, hf⟩ := steps_of h2
   have e' : V i = .slice Ai xs.length ci := by simpa using e
   exact ⟨xs, ⟨Ai, ci, by rw [h1, e'], hr⟩, hlen, hf⟩)
  refine ⟨some a, cap, (List.range len).map F, by simp, by simp; omega, fun j s hs => ?_, fun i j xs s hx hs => ?_, fun i xs hs => ?_⟩
  ·have hj : j < len := by have := (List.getElem?_eq_some_iff.1 hs).1; simpa using this
   obtain rfl : F j = s := by simpa [hj] using hs
   obtain ⟨⟨Ai, ci, g0, g1⟩, _⟩ := hF j hj
   have hlt := World.block_lt_of_cell? w _ g0
   rw [block_of_add] at hlt
   exact ⟨a, Ai, ci, rfl, hlt, g0, g1⟩
  ·have hj : i < len := by have := (List.getElem?_eq_some_iff.1 hx).1; simpa using this
   obtain rfl : F i = xs := by simpa [hj] using hx
   exact (hF i hj).2.2 j s hs
  ·have hj : i < len := by have := (List.getElem?_eq_some_iff.1 hs).1; simpa using this
   obtain rfl : F i = xs := by simpa [hj] using hs
   exact (hF i hj).2.1
set_option maxRecDepth 100000 in
theorem open_prog {r : Reach} {b0 : Nat} {v : Value} {d : DataW H} {ps : List MemPlace} (hv : Value.okWide Try.prog w r b0 24 v) (h : DataW.Trod enc Try.prog w base spare held 24 v d ps) :
  ∃ A c p, v = .agg #[.slice A p.length c] ∧ p.length ≤ maxLen ∧ RdP w w.heap.size A p ∧ FitP p ∧ Small p maxLen := by
 obtain ⟨cs, rfl, hsz⟩ := okWide_struct Try.underlying24 hv
 have h1 : cs.size = 1 := hsz.trans (by kernel_rfl)
 obtain ⟨l⟩ := cs
 match l, h1 with
 | [c0], _ =>
  obtain ⟨fuel, hf⟩ := h
  obtain ⟨xs, n, _, _, _, hlen, hg⟩ := DataW.trod_struct Try.underlying24 hf
  have hx1 : xs.length = 1 := hlen
  match xs, hx1 with
  | [y0], _ =>
   have g0 : DataW.trod enc Try.prog w base spare held n 22 (([c0].drop 0).take (Try.prog.cellsOf 22)) = some y0 := hg 0 _ rfl
   have k : Try.prog.cellsOf 22 = 1 := by kernel_rfl
   rw [k] at g0
   obtain ⟨A, c, p, e, r⟩ := prog_of (x := y0) (by simpa [Value.cells] using g0)
   refine ⟨A, c, p, ?_, r⟩
   simp at e
   rw [e]
set_option maxRecDepth 100000 in
theorem open_step {r : Reach} {b0 : Nat} {v : Value} {d : DataW H} {ps : List MemPlace} (hv : Value.okWide Try.prog w r b0 174 v) (h : DataW.Trod enc Try.prog w base spare held 174 v d ps) :
  ∃ k a b, v = .agg #[.int .i64 k, .int .i64 a, .int .i64 b] ∧ fits (k, a, b) := by
 obtain ⟨cs, rfl, hsz⟩ := okWide_struct Try.underlying174 hv
 obtain ⟨l⟩ := cs
 obtain ⟨fuel, hf⟩ := h
 obtain ⟨⟨k, a, b⟩, e, hs⟩ := triple_of hf
 refine ⟨k, a, b, ?_, hs⟩
 simp [Value.cells, c3] at e
 rw [e]
set_option maxRecDepth 100000 in
theorem open_int_fit {r : Reach} {b0 : Nat} {v : Value} {d : DataW H} {ps : List MemPlace} (hv : Value.okWide Try.prog w r b0 3 v) (h : DataW.Trod enc Try.prog w base spare held 3 v d ps) :
  ∃ z, v = .int .i64 z ∧ fit z := by
 obtain ⟨z, rfl, _, _, hw⟩ := open_int Try.underlying3 hv h
 simp only [Lit.wf, Bool.and_eq_true, decide_eq_true_eq] at hw
 exact ⟨z, rfl, hw.1, hw.2⟩
end
theorem laidOut : laidOutB Try.prog = true := by kernel_rfl
end Go.Proofs.Ythejnpignlhgiaa.OpenP

namespace Go.Proofs.Ythejnpignlhgiaa.LawI
open Go.ChangeShapes Go.WideShapes Go.ChangeAt Go.RowKit
open PL Mem To MarkP IntsP
def IntsR (r : List Int × Bool) (w : World) (e : Ending) (w' : World) : Prop :=
 ∃ A c, e = .returned (.tuple #[.slice A r.1.length c, .bool r.2]) ∧ OwnI w' w.heap.size (.slice A r.1.length c) r.1 ∧ Below w.heap.size w w'
def OwnIH (w : World) (lo hi : Nat) (v : Value) (xs : List Int) : Prop := OwnI w lo v xs ∧ ∀ k, v.ownBlock = some k → k < hi
theorem OwnIH.of {w : World} {lo : Nat} {v : Value} {xs : List Int} (h : OwnI w lo v xs) : OwnIH w lo w.heap.size v xs := ⟨h, fun k hk => (World.ownsRow.lt h k hk).2⟩
theorem OwnIH.keep {w w' : World} {lo hi : Nat} {v : Value} {xs : List Int} (h : OwnIH w lo hi v xs) (hk : ∀ b, lo ≤ b → b < hi → w'.heap[b]? = w.heap[b]?) : OwnIH w' lo hi v xs := by
 obtain ⟨⟨h1, h2⟩, hh⟩ := h
 refine ⟨⟨h1, ?_⟩, hh⟩
 rcases h2 with h0 | ⟨g, cap, cur, rfl, hB, hg, r⟩
 ·exact .inl h0
 ·exact .inr ⟨g, cap, cur, rfl, hB, by rw [hk g hB (hh g rfl)]; exact hg, r⟩
theorem OwnIH.below {w w' : World} {lo hi : Nat} {v : Value} {xs : List Int} (h : OwnIH w lo hi v xs) (hb : Below hi w w') : OwnIH w' lo hi v xs := h.keep fun b _ hb' => hb.block b hb'
theorem OwnIH.chg {C : Nat → Prop} {w w' : World} {lo hi : Nat} {v : Value} {xs : List Int} (h : OwnIH w lo hi v xs) (hb : Chg C w w') (hh : hi ≤ w.heap.size) (hC : ∀ k, lo ≤ k → k < hi → ¬ C k) : OwnIH w' lo hi v xs :=
 h.keep fun b h1 h2 => hb.block b (by omega) (hC b h1 h2)
structure StI (w : World) (n c : Nat) (A : Option Addr) (bx : Nat) (vw vx vg : Value) (Lw Hw Lx Hx Lg Hg : Nat) (qw : List Int) (px : Pg) (qg : List Int) (W : World) : Prop where
 below : Below w.heap.size w W
 a : Blk W w.heap.size 24 #[.slice A n c]
 x0 : Blk W bx 35 #[vx]
 ow : OwnIH W Lw Hw vw qw
 ox : OwnH W Lx Hx vx px
 og : OwnIH W Lg Hg vg qg
 ord : w.heap.size < Lw ∧ Lw ≤ Hw ∧ Hw ≤ Lx ∧ Lx ≤ Hx ∧ Hx ≤ bx ∧ bx < Lg ∧ Lg ≤ Hg ∧ Hg ≤ W.heap.size
section
variable {w : World} {n c : Nat} {A : Option Addr} {bx : Nat} {vw vx vg : Value} {Lw Hw Lx Hx Lg Hg : Nat} {qw : List Int} {px : Pg} {qg : List Int} {W W' : World}
theorem StI.next (h : StI w n c A bx vw vx vg Lw Hw Lx Hx Lg Hg qw px qg W) (b : Below W.heap.size W W') : StI w n c A bx vw vx vg Lw Hw Lx Hx Lg Hg qw px qg W' := by
 have o := h.ord
 have s := b.size
 exact ⟨h.below.trans (b.mono h.below.size), h.a.below b h.a.lt, h.x0.below b h.x0.lt, h.ow.below (b.mono (by omega)), h.ox.below (b.mono (by omega)), h.og.below (b.mono (by omega)), by omega⟩
theorem StI.cells (h : StI w n c A bx vw vx vg Lw Hw Lx Hx Lg Hg qw px qg W) : W.cell? ⟨w.heap.size, 0, none⟩ = some (.slice A n c) ∧ W.cell? ⟨bx, 0, none⟩ = some vx :=
 ⟨h.a.cells 0, h.x0.cells 0⟩
theorem StI.markX {px' : Pg} (h : StI w n c A bx vw vx vg Lw Hw Lx Hx Lg Hg qw px qg W) (b : Chg (fun k => Lx ≤ k ∧ k < Hx) W W') (o' : OwnH W' Lx Hx vx px') : StI w n c A bx vw vx vg Lw Hw Lx Hx Lg Hg qw px' qg W' := by
 have o := h.ord
 have s := b.size
 have s0 := h.below.size
 exact ⟨h.below.trans (b.below (by omega) (fun x hx hc => by omega)), h.a.chg b (fun hc => by omega), h.x0.chg b (fun hc => by omega),
  h.ow.chg b (by omega) (fun k h1 h2 hc => by omega), o', h.og.chg b (by omega) (fun k h1 h2 hc => by omega), by omega⟩
theorem StI.markG {qg' : List Int} (h : StI w n c A bx vw vx vg Lw Hw Lx Hx Lg Hg qw px qg W) (b : Chg (fun k => vg.ownBlock = some k) W W') (o' : OwnI W' Lg vg qg') : StI w n c A bx vw vx vg Lw Hw Lx Hx Lg Hg qw px qg' W' := by
 have o := h.ord
 have s := b.size
 have s0 := h.below.size
 have hg : ∀ k, vg.ownBlock = some k → Lg ≤ k ∧ k < Hg := fun k hk => ⟨(World.ownsRow.lt h.og.1 k hk).1, h.og.2 k hk⟩
 exact ⟨h.below.trans (b.below (by omega) (fun x hx hc => by have := hg x hc; omega)), h.a.chg b (fun hc => by have := hg _ hc; omega), h.x0.chg b (fun hc => by have := hg _ hc; omega),
  h.ow.chg b (by omega) (fun k h1 h2 hc => by have := hg k hc; omega), h.ox.chg b (by omega) (fun k h1 h2 hc => by have := hg k hc; omega), ⟨o', h.og.2⟩, by omega⟩
end
theorem tot_cnt (p : Pg) : cnt p ≤ Sz.tot p := by unfold cnt Sz.tot; omega
end Go.Proofs.Ythejnpignlhgiaa.LawI

namespace Go.Proofs.Ythejnpignlhgiaa.LawN
open Go.ChangeShapes Go.WideShapes Go.ChangeAt Go.RowKit
open PL Mem To MarkP
def NumR (r : Int × Bool) (w : World) (e : Ending) (w' : World) : Prop :=
 e = .returned (.tuple #[.int .i64 r.1, .bool r.2]) ∧ Below w.heap.size w w'
structure StN (w : World) (n c : Nat) (A : Option Addr) (bx : Nat) (vx : Value) (Lx Hx : Nat) (px : Pg) (W : World) : Prop where
 below : Below w.heap.size w W
 a : Blk W w.heap.size 24 #[.slice A n c]
 x0 : Blk W bx 35 #[vx]
 ox : OwnH W Lx Hx vx px
 ord : w.heap.size < Lx ∧ Lx ≤ Hx ∧ Hx ≤ bx ∧ bx < W.heap.size
section
variable {w : World} {n c : Nat} {A : Option Addr} {bx : Nat} {vx : Value} {Lx Hx : Nat} {px : Pg} {W W' : World}
theorem StN.next (h : StN w n c A bx vx Lx Hx px W) (b : Below W.heap.size W W') : StN w n c A bx vx Lx Hx px W' := by
 have o := h.ord
 have s := b.size
 exact ⟨h.below.trans (b.mono h.below.size), h.a.below b h.a.lt, h.x0.below b h.x0.lt, h.ox.below (b.mono (by omega)), by omega⟩
theorem StN.cells (h : StN w n c A bx vx Lx Hx px W) : W.cell? ⟨w.heap.size, 0, none⟩ = some (.slice A n c) ∧ W.cell? ⟨bx, 0, none⟩ = some vx :=
 ⟨h.a.cells 0, h.x0.cells 0⟩
end
end Go.Proofs.Ythejnpignlhgiaa.LawN
