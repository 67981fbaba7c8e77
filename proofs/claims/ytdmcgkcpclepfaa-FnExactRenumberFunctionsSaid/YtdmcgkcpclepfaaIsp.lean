import Derived.Test.YtdmcgkcpclepfaaStep
set_option linter.all false
namespace Go.Proofs.Ytdmcgkcpclepfaa.Prg
open Lib (hid)
open Go.ChangeShapes Go.WideShapes Go.ChangeAt Go.RowKit
open PL Mem To Stp
def allOk (n : Nat) (p : Pg) (k : Nat) : Prop := ∀ (i : Nat) (xs : List Tr), i < k → p[i]? = some xs → okBody n xs = true
def allSt (n : Nat) (b : List Tr) (k : Nat) : Prop := ∀ (i : Nat) (s : Tr), i < k → b[i]? = some s → okStep n s = true
theorem allOk_next {n : Nat} {p : Pg} {k : Nat} {xs : List Tr} (h : allOk n p k) (hx : p[k]? = some xs) (ho : okBody n xs = true) : allOk n p (k + 1) := by
 intro i ys hi hy
 rcases Nat.lt_or_ge i k with hik | hik
 ·exact h i ys hik hy
 ·obtain rfl : i = k := by omega
  rw [hx] at hy
  obtain rfl : xs = ys := by simpa using hy
  exact ho
theorem allSt_next {n : Nat} {p : List Tr} {k : Nat} {xs : Tr} (h : allSt n p k) (hx : p[k]? = some xs) (ho : okStep n xs = true) : allSt n p (k + 1) := by
 intro i ys hi hy
 rcases Nat.lt_or_ge i k with hik | hik
 ·exact h i ys hik hy
 ·obtain rfl : i = k := by omega
  rw [hx] at hy
  obtain rfl : xs = ys := by simpa using hy
  exact ho
theorem okBody_yes {n : Nat} {b : List Tr} (hl : b.length ≤ 8) (h : allSt n b b.length) : okBody n b = true := by
 unfold okBody
 rw [Bool.and_eq_true, decide_eq_true_eq, List.all_eq_true]
 refine ⟨hl, fun s hs => ?_⟩
 obtain ⟨i, hi, rfl⟩ := List.mem_iff_getElem.1 hs
 exact h i _ hi (List.getElem?_eq_getElem hi)
theorem okBody_long {n : Nat} {b : List Tr} (hl : ¬ b.length ≤ 8) : okBody n b = false := by
 unfold okBody; rw [decide_eq_false hl]; rfl
theorem okBody_bad {n : Nat} {b : List Tr} {j : Nat} {s : Tr} (hs : b[j]? = some s) (h : okStep n s = false) : okBody n b = false := by
 unfold okBody
 rw [Bool.and_eq_false_iff]; right
 rw [← Bool.not_eq_true, List.all_eq_true]
 intro hall
 have := hall s (List.mem_of_getElem? hs)
 rw [h] at this; cases this
theorem okProg_yes {n : Nat} {p : Pg} (hl : p.length = n) (h1 : 1 ≤ n) (h2 : n ≤ 6) (h : allOk n p n) : okProg p = true := by
 unfold okProg
 rw [hl, Bool.and_eq_true, Bool.and_eq_true, decide_eq_true_eq, decide_eq_true_eq, List.all_eq_true]
 refine ⟨⟨h1, h2⟩, fun s hs => ?_⟩
 obtain ⟨i, hi, rfl⟩ := List.mem_iff_getElem.1 hs
 exact h i _ (by omega) (List.getElem?_eq_getElem hi)
theorem okProg_len {n : Nat} {p : Pg} (hl : p.length = n) (h : ¬ (1 ≤ n ∧ n ≤ 6)) : okProg p = false := by
 unfold okProg
 rw [hl, ← Bool.not_eq_true, Bool.and_eq_true, Bool.and_eq_true, decide_eq_true_eq, decide_eq_true_eq]
 exact fun g => h g.1
theorem okProg_bad {n : Nat} {p : Pg} {k : Nat} {xs : List Tr} (hl : p.length = n) (hx : p[k]? = some xs) (h : okBody n xs = false) : okProg p = false := by
 unfold okProg
 rw [hl, Bool.and_eq_false_iff]; right
 rw [← Bool.not_eq_true, List.all_eq_true]
 intro hall
 have := hall xs (List.mem_of_getElem? hx)
 rw [h] at this; cases this
theorem isProgram_any (B : Nat) (A : Option Addr) (n c : Nat) (p : Pg) (hn : n ≤ 9223372036854775807) (hl : p.length = n) (hsm : Small p 9223372036854775807) (w : World) (hr : RdP w B A p) (hB : B ≤ w.heap.size) :
  Calls Try.prog 78 #[.agg #[.slice A n c]] w fun e w' => e = .returned (.bool (okProg p)) ∧ Below w.heap.size w w' := by
 have hR := hid hr
 have hL := hid hl
 have hS := hid hsm
 clear hr hl hsm
 by_cases hn1 : n < 1
 ·have hs := hid (show okProg p = false from okProg_len hL.out (by omega))
  go_enter Try.func78, Try.ntmps78
  go_wp2_with fail
  go_ret
  exact ⟨by rw [hs.out]; rfl, (Below.refl _ _).alloc (Nat.le_refl _) _⟩
 by_cases hn6 : 6 < n
 ·have hs := hid (show okProg p = false from okProg_len hL.out (by omega))
  go_enter Try.func78, Try.ntmps78
  go_wp2_with fail
  go_ret
  exact ⟨by rw [hs.out]; rfl, (Below.refl _ _).alloc (Nat.le_refl _) _⟩
 go_enter Try.func78, Try.ntmps78
 go_wp2_with fail
 go_loopw [20] (fun i wr => ∃ k : Nat, k ≤ n ∧ i = .int .i64 k ∧ allOk n p k ∧ Below (w.heap.size + 1) (w.alloc (.cells #[.slice A n c] 31)) wr) (fun i _ => n - (intOf i).toNat)
 case atStart => exact ⟨0, Nat.zero_le _, rfl, fun _ _ h => absurd h (by omega), Below.refl _ _⟩
 case round =>
  obtain ⟨k, hk, rfl, hok, hb⟩ := hrel
  have hO := hid hok
  clear hok
  have hsz : w.heap.size + 1 ≤ wr.heap.size := by have := hb.size; simpa using this
  have cb : wr.cell? ⟨w.heap.size, 0, none⟩ = some (.slice A n c) := (hb.cell (p := ⟨w.heap.size, 0, none⟩) (by simp)).trans (by simp [go_sem])
  have hRb : Hid (RdP wr B A p) := hid ((hR.out.below ((Below.refl B w).alloc hB _)).below (hb.mono (by omega)))
  have hbw : Below w.heap.size w wr := ((Below.refl _ _).alloc (Nat.le_refl _) _).trans (hb.mono (by omega))
  by_cases hlt : k < n
  ·obtain ⟨xs, hs⟩ : ∃ s, p[k]? = some s := ⟨_, List.getElem?_eq_getElem (by rw [hL.out]; exact hlt)⟩
   obtain ⟨ad, Ai, ci, rfl, hab, h0, h1⟩ := hRb.out k _ hs
   have hH := hid hs
   have hxn := hS.out k xs hs
   have H1 := hid h1
   clear hs h1
   by_cases h8 : 8 < xs.length
   ·have hs := hid (show okProg p = false from okProg_bad hL.out hH.out (okBody_long (by omega)))
    go_wp2_with fail
    go_ret
    exact ⟨by rw [hs.out]; rfl, hbw⟩
   ·go_wp2_with fail
    obtain ⟨wo, rfl⟩ : ∃ wo : World, wo = wr := ⟨_, rfl⟩
    go_loopw [29] (fun i wr => ∃ j : Nat, j ≤ xs.length ∧ i = .int .i64 j ∧ allSt n xs j ∧ Below wo.heap.size wo wr) (fun i _ => xs.length - (intOf i).toNat)
    case atStart => exact ⟨0, Nat.zero_le _, rfl, fun _ _ h => absurd h (by omega), Below.refl _ _⟩
    case round =>
     obtain ⟨j, hj, rfl, hst, hb2⟩ := hrel
     have hT := hid hst
     clear hst
     have hsz2 := hb2.size
     by_cases hjl : j < xs.length
     ·obtain ⟨⟨s0, s1, s2⟩, hs⟩ : ∃ s, xs[j]? = some s := ⟨_, List.getElem?_eq_getElem hjl⟩
      obtain ⟨ad', rfl, hab', c0, c1, c2⟩ := (H1.out.below (hb2.mono (by omega))) j _ hs
      dsimp only at c0 c1 c2
      have hX := hid hs
      have cb2 : wr.cell? ⟨w.heap.size, 0, none⟩ = some (.slice (some ad) n c) := (hb2.cell (p := ⟨w.heap.size, 0, none⟩) (by show w.heap.size < wo.heap.size; omega)).trans cb
      have cb3 : ∀ o, (wr.alloc o).cell? ⟨w.heap.size, 0, none⟩ = some (.slice (some ad) n c) := fun o => (World.cell?_alloc_lt wr o ⟨w.heap.size, 0, none⟩ (by show w.heap.size < wr.heap.size; omega)).trans cb2
      clear hs
      go_wp2_with fail
      refine (isStep_any s0 s1 s2 n hn _).mono ?_
      rintro e w1 ⟨rfl, hb3⟩
      cases hok : okStep n (s0, s1, s2)
      ·have hs := hid (show okProg p = false from okProg_bad hL.out hH.out (okBody_bad hX.out hok))
       clear hok
       go_wp2_with fail
       go_ret
       exact ⟨by rw [hs.out]; rfl, (hbw.trans (hb2.mono hbw.size)).trans ((((Below.refl _ _).alloc (Nat.le_refl _) _).trans (hb3.mono (by simp))).mono (Nat.le_trans hbw.size hsz2))⟩
      ·have hN := hid (allSt_next hT.out hX.out hok)
       clear hok
       go_wp2_with fail
       go_roundw
       case rel => exact ⟨j + 1, by omega, by go_num, hN.out, hb2.trans ((((Below.refl _ _).alloc (Nat.le_refl _) _).trans (hb3.mono (by simp))).mono hsz2)⟩
       case measure => simp [intOf]; omega
     ·obtain rfl : j = xs.length := by omega
      have hN := hid (allOk_next hO.out hH.out (okBody_yes (by omega) hT.out))
      go_wp2_with fail
      go_roundw
      case rel => exact ⟨k + 1, by omega, by go_num, hN.out, hb.trans (hb2.mono hsz)⟩
      case measure => simp [intOf]; omega
  ·obtain rfl : k = n := by omega
   have hs := hid (show okProg p = true from okProg_yes hL.out (by omega) (by omega) hO.out)
   go_wp2_with fail
   go_ret
   exact ⟨by rw [hs.out]; rfl, hbw⟩
end Go.Proofs.Ytdmcgkcpclepfaa.Prg
-- squeezed
