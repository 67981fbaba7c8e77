import Derived.Test.YtdmcgkcpclepfaaMem
import Derived.RegionTactic
import Derived.BigRegion
set_option linter.all false
namespace Go.Proofs.Ytdmcgkcpclepfaa.IntsP
open Lib (hid)
open Go.ChangeShapes Go.WideShapes Go.ChangeAt Go.RowKit
open PL Mem
def cellsI (l : List Int) : List Value := l.map (Value.int .i64)
theorem cellsI_length (l : List Int) : (cellsI l).length = l.length := by simp [cellsI]
theorem cellsI_append (a b : List Int) : cellsI (a ++ b) = cellsI a ++ cellsI b := by simp [cellsI]
theorem cellsI_at (l : List Int) (j : Nat) (z : Int) (h : l[j]? = some z) : (cellsI l)[j]? = some (.int .i64 z) := by simp [cellsI, h]
theorem cellsI_set (l : List Int) (j : Nat) (z : Int) : (cellsI l).set j (.int .i64 z) = cellsI (l.set j z) := by simp [cellsI, List.map_set]
def RdI (w : World) (B : Nat) (A : Option Addr) (xs : List Int) : Prop :=
 ∀ (j : Nat) (z : Int), xs[j]? = some z → ∃ ad, A = some ad ∧ ad.block < B ∧ w.cell? (ad.add j) = some (.int .i64 z)
theorem RdI.keep {w w' : World} {B : Nat} {A : Option Addr} {xs : List Int} (h : RdI w B A xs) (hk : ∀ p : Addr, p.block < B → w'.cell? p = w.cell? p) : RdI w' B A xs :=
 fun j z hz => by
  obtain ⟨ad, e, hb, h0⟩ := h j z hz
  exact ⟨ad, e, hb, (hk _ (by rw [block_of_add]; exact hb)).trans h0⟩
theorem RdI.below {w w' : World} {B : Nat} {A : Option Addr} {xs : List Int} (h : RdI w B A xs) (hb : Below B w w') : RdI w' B A xs := h.keep fun _ hp => hb.cell hp
theorem RdI.more {w : World} {B B' : Nat} {A : Option Addr} {xs : List Int} (h : RdI w B A xs) (hB : B ≤ B') : RdI w B' A xs :=
 fun j z hz => by
  obtain ⟨ad, e, hb, r⟩ := h j z hz
  exact ⟨ad, e, by omega, r⟩
def OwnI (w : World) (lo : Nat) (v : Value) (xs : List Int) : Prop := w.ownsRow lo 3 1 v xs.length (cellsI xs)
theorem rdI_own {w : World} {B n c e : Nat} {A : Option Addr} {xs : List Int} (h : w.ownsRow B e 1 (.slice A n c) n (cellsI xs)) : RdI w w.heap.size A xs := by
 intro j z hz
 have hn : xs.length = n := by have := h.1; rw [cellsI_length] at this; omega
 have hj : j < xs.length := (List.getElem?_eq_some_iff.1 hz).1
 rcases own_form h with ⟨h0, _⟩ | ⟨_, g, cap, hv, _, hg⟩
 ·omega
 ·simp only [Value.slice.injEq, true_and] at hv
  obtain ⟨rfl, rfl⟩ := hv
  refine ⟨_, rfl, hg, ?_⟩
  rw [add_own, h.cellAt _ (by omega)]
  exact cellsI_at xs j z hz
theorem OwnI.rd {w : World} {lo n c : Nat} {A : Option Addr} {xs : List Int} (h : OwnI w lo (.slice A n c) xs) (hn : xs.length = n) : RdI w w.heap.size A xs := by
 unfold OwnI at h
 rw [hn] at h
 exact rdI_own h
theorem own_cellI {w : World} {B e n g c : Nat} {xs : List Int} (h : w.ownsRow B e 1 (.slice (some ⟨g, 0, none⟩) n c) n (cellsI xs)) {j : Nat} (hj : j < n) : ∃ u, w.cell? ⟨g, j, none⟩ = some u := by
 have hn : xs.length = n := by have := h.1; rw [cellsI_length] at this; omega
 obtain ⟨z, hz⟩ : ∃ z, xs[j]? = some z := ⟨_, List.getElem?_eq_getElem (by omega)⟩
 exact ⟨_, (h.cellAt _ (by omega)).trans (cellsI_at xs j z hz)⟩
theorem own_setI {w : World} {B e n g c : Nat} {xs : List Int} (h : w.ownsRow B e 1 (.slice (some ⟨g, 0, none⟩) n c) n (cellsI xs)) (j : Nat) (z : Int) :
  (w.setCell ⟨g, j, none⟩ (.int .i64 z)).ownsRow B e 1 (.slice (some ⟨g, 0, none⟩) n c) n (cellsI (xs.set j z)) := by
 have := (h.stored j (.int .i64 z)).1
 rwa [cellsI_set xs j z] at this
def marksI (k : Int) (n : Nat) : List Int := (List.range n).map (fun (i : Nat) => k + i)
theorem marksI_length (k : Int) (n : Nat) : (marksI k n).length = n := by simp [marksI]
theorem marksI_at (k : Int) (n i : Nat) (h : i < n) : (marksI k n)[i]? = some (k + i) := by simp [marksI, h]
theorem marksI_succ (k : Int) (n : Nat) : marksI k (n + 1) = marksI k n ++ [k + n] := by simp [marksI, List.range_succ]
theorem marksI_set (k : Int) (xs : List Int) (i : Nat) (hi : i < xs.length) : (marksI k i ++ xs.drop i).set i (k + i) = marksI k (i + 1) ++ xs.drop (i + 1) := by
 rw [List.set_append_right _ _ (by rw [marksI_length]; exact Nat.le_refl _), marksI_length, Nat.sub_self, List.drop_eq_getElem_cons hi, List.set_cons_zero, marksI_succ, List.append_assoc]
 rfl
theorem eqIntS_same (B : Nat) (A A' : Option Addr) (n c c' : Nat) (xs : List Int) (hn : n ≤ 9223372036854775807) (hl : xs.length = n) (w : World) (hr : RdI w B A xs) (hr' : RdI w B A' xs) (hB : B ≤ w.heap.size) :
  Calls Try.prog 19 #[.slice A n c, .slice A' n c'] w fun e w' => e = .returned (.bool true) ∧ Below w.heap.size w w' := by
 have hR := hid hr
 have hR' := hid hr'
 have hL := hid hl
 clear hr hr' hl
 go_enter Try.func19, Try.ntmps19
 go_wp2
 go_loopw [5] (fun i wr => ∃ k : Nat, k ≤ n ∧ i = .int .i64 k ∧ Below w.heap.size w wr) (fun i _ => n - (intOf i).toNat)
 case atStart => exact ⟨0, Nat.zero_le _, rfl, Below.refl _ _⟩
 case round =>
  obtain ⟨k, hk, rfl, hb⟩ := hrel
  by_cases hlt : k < n
  ·obtain ⟨z, hs⟩ : ∃ s, xs[k]? = some s := ⟨_, List.getElem?_eq_getElem (by rw [hL.out]; exact hlt)⟩
   obtain ⟨ad, rfl, hab, h0⟩ := (hR.out.below (hb.mono hB)) k _ hs
   obtain ⟨ad', rfl, hab', h0'⟩ := (hR'.out.below (hb.mono hB)) k _ hs
   have hbd : Below w.heap.size w wr.drew := hb.drew
   clear hs
   go_wp2_with fail
   go_region
   all_goals
    go_wp2
    go_roundw
    case rel => exact ⟨k + 1, by omega, by go_num, hbd⟩
    case measure => simp [intOf]; omega
  ·go_wp2
   go_ret
   exact ⟨rfl, hb⟩
def MarkedI (B n c : Nat) (A : Option Addr) (k : Int) (w : World) (e : Ending) (w' : World) : Prop :=
 e = .returned (.int .i64 (k + n)) ∧ w'.ownsRow B 3 1 (.slice A n c) n (cellsI (marksI k n)) ∧ Chg (fun b => (Value.slice A n c).ownBlock = some b) w w'
theorem markIntS_any (B n c : Nat) (A : Option Addr) (xs : List Int) (k : Int) (hn : n ≤ 2000000) (hl : xs.length = n) (hk0 : 0 ≤ k) (hk : k ≤ 20000000000) (w : World)
  (ho : w.ownsRow B 3 1 (.slice A n c) n (cellsI xs)) :
  Calls Try.prog 22 #[.slice A n c, .int .i64 k] w (MarkedI B n c A k w) := by
 have hO0 := hid ho
 have hL := hid hl
 clear ho hl
 go_enter Try.func22, Try.ntmps22
 go_wp2
 go_loopw [1, 5] (fun v i wr => ∃ (j : Nat) (m : Int), j ≤ n ∧ i = .int .i64 j ∧ v = .int .i64 m ∧ 0 ≤ m ∧ m ≤ 20000000000 + j ∧ Hid (m = k + j) ∧ wr.ownsRow B 3 1 (.slice A n c) n (cellsI (marksI k j ++ xs.drop j)) ∧
   Chg (fun b => (Value.slice A n c).ownBlock = some b) w wr) (fun _ i _ => n - (intOf i).toNat)
 case atStart => exact ⟨0, k, Nat.zero_le _, rfl, rfl, hk0, by omega, hid (by omega), by simpa [marksI] using hO0.out, Chg.refl _ _⟩
 case round =>
  obtain ⟨j, m, hj, rfl, rfl, m0, m1, hM, hown, hch⟩ := hrel
  have m2 : m ≤ 27000000000 := by omega
  by_cases hlt : j < n
  ·have hO := hid hown
   have hC := hid hch
   rcases own_form hown with ⟨h0, _⟩ | ⟨_, g, cap, hv, _, hg⟩
   ·omega
   ·simp only [Value.slice.injEq, true_and] at hv
    obtain ⟨rfl, rfl⟩ := hv
    obtain ⟨u0, g0⟩ := own_cellI hown hlt
    have f := hown.frozenAt
    clear hown hch
    go_wp2
    go_roundw
    case rel =>
     refine ⟨j + 1, m + 1, by omega, by go_num, rfl, by omega, by omega, hid (by rw [hM.out]; omega), ?_, ?_⟩
     ·rw [← marksI_set k xs j (by rw [hL.out]; exact hlt), ← hM.out]
      exact own_setI hO.out j m
     ·refine Chg.put hC.out _ _ ?_
      exact .inr rfl
    case measure => simp [intOf]; omega
  ·obtain rfl : j = n := by omega
   have hO := hid hown
   have hC := hid hch
   clear hown hch
   go_wp2
   go_ret
   refine ⟨by rw [hM.out]; rfl, ?_, hC.out⟩
   have := hO.out
   rwa [List.drop_eq_nil_of_le (by rw [hL.out]; omega), List.append_nil] at this
theorem heldIntS_any (B n c : Nat) (A : Option Addr) (k : Int) (hn : n ≤ 2000000) (hk0 : 0 ≤ k) (hk : k ≤ 20000000000) (w : World) (hr : RdI w B A (marksI k n)) :
  Calls Try.prog 23 #[.slice A n c, .int .i64 k] w fun e w' => e = .returned (.int .i64 (k + n)) ∧ w = w' := by
 have hR := hid hr
 clear hr
 go_enter Try.func23, Try.ntmps23
 go_wp2
 go_loop [1, 5] (fun v i => ∃ (j : Nat) (m : Int), j ≤ n ∧ i = .int .i64 j ∧ v = .int .i64 m ∧ 0 ≤ m ∧ m ≤ 20000000000 + j ∧ Hid (m = k + j)) (fun _ i => n - (intOf i).toNat)
 case atStart => exact ⟨0, k, Nat.zero_le _, rfl, rfl, hk0, by omega, hid (by omega)⟩
 case round =>
  obtain ⟨j, m, hj, rfl, rfl, m0, m1, hM⟩ := hrel
  have m2 : m ≤ 27000000000 := by omega
  by_cases hlt : j < n
  ·have hs := marksI_at k n j hlt
   rw [← hM.out] at hs
   obtain ⟨ad, rfl, hab, h0⟩ := hR.out j _ hs
   clear hs
   go_wp2
   go_round
   case rel => exact ⟨j + 1, m + 1, by omega, by go_num, rfl, by omega, by omega, hid (by rw [hM.out]; omega)⟩
   case measure => simp [intOf]; omega
  ·obtain rfl : j = n := by omega
   go_wp2
   go_ret
   exact ⟨by rw [hM.out]; rfl, rfl⟩
end Go.Proofs.Ytdmcgkcpclepfaa.IntsP
-- squeezed
