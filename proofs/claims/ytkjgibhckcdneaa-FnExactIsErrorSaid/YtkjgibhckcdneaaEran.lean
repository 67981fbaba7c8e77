/- impl.AreErrors and spec.AreErrors return whether errors are valid, and whether a number is one of theirs; they write nothing that was there. -/
import Derived.Test.YtkjgibhckcdneaaErto
namespace Go.Proofs.Ytkjgibhckcdneaa.ErA
set_option linter.unusedVariables false
set_option linter.unusedSimpArgs false
open Go.ChangeShapes Go.WideShapes Go.ChangeAt Go.RowKit
open Mem IntsP ErP ErM ErT

def btw (x a b : Int) : Bool := decide (a ≤ x) && decide (x ≤ b)
theorem btw_yes {x a b : Int} (h1 : a ≤ x) (h2 : x ≤ b) : btw x a b = true := by unfold btw; rw [decide_eq_true h1, decide_eq_true h2]; rfl
theorem btw_no {x a b : Int} (h : ¬ (a ≤ x ∧ x ≤ b)) : btw x a b = false := by
  unfold btw; rw [← Bool.not_eq_true, Bool.and_eq_true, decide_eq_true_eq, decide_eq_true_eq]; exact h
theorem beqI (j m : Nat) : ((j : Int) == (m : Int)) = decide (j = m) := by rw [Bool.eq_iff_iff]; simp; omega
theorem l1In_any (x a b : Int) (w : World) : Calls Try.prog 62 #[.int .i64 x, .int .i64 a, .int .i64 b] w fun e w' => e = .returned (.bool (btw x a b)) ∧ w = w' := by
  by_cases h1 : a ≤ x
  · by_cases h2 : x ≤ b
    · have hs := Lib.hid (btw_yes h1 h2)
      go_enter Try.func62, Try.ntmps62
      go_wp2
      go_ret
      exact ⟨by rw [hs.out]; rfl, rfl⟩
    · have hs := Lib.hid (show btw x a b = false from btw_no (fun h => h2 h.2))
      go_enter Try.func62, Try.ntmps62
      go_wp2
      go_ret
      exact ⟨by rw [hs.out]; rfl, rfl⟩
  · have hs := Lib.hid (show btw x a b = false from btw_no (fun h => h1 h.1))
    go_enter Try.func62, Try.ntmps62
    go_wp2
    go_ret
    exact ⟨by rw [hs.out]; rfl, rfl⟩

set_option maxHeartbeats 4000000 in
theorem isErrorNode_any (B : Nat) (k d : Int) (A : Option Addr) (m c : Nat) (xs : List Int) (i n : Nat) (hm : m ≤ 9223372036854775807) (hi : i ≤ 9223372036854775807) (hn : n ≤ 9223372036854775807) (hl : xs.length = m) (w : World) (hr : RdI w B A xs) (hB : B ≤ w.heap.size) :
    Calls Try.prog 48 #[.agg #[.int .i64 k, .int .i64 d, .slice A m c], .int .i64 i, .int .i64 n] w fun e w' => e = .returned (.bool (okNode n i (k, d, xs))) ∧ Below w.heap.size w w' := by
  have hR := Lib.hid hr
  have hL := Lib.hid hl
  have b1 : ∀ o : Obj, Below w.heap.size w (w.alloc o) := fun o => (Below.refl _ _).alloc (Nat.le_refl _) _
  have B1 := Lib.hid b1
  clear hr hl b1
  by_cases hd : 0 ≤ d ∧ d ≤ 99
  case neg =>
    have hs := Lib.hid (show okNode n i (k, d, xs) = false from okNode_code hd)
    have hd' : d < 0 ∨ 99 < d := by omega
    rcases hd' with h | h
    all_goals
      clear hd
      go_enter Try.func48, Try.ntmps48
      go_wp2_with fail
      go_ret
      exact ⟨by rw [hs.out]; rfl, B1.out _⟩
  case pos =>
  obtain ⟨d0, d1⟩ := hd
  by_cases h12 : 12 < m
  · have hs := Lib.hid (show okNode n i (k, d, xs) = false from okNode_many (by show ¬ xs.length ≤ 12; rw [hL.out]; omega))
    go_enter Try.func48, Try.ntmps48
    go_wp2_with fail
    go_ret
    exact ⟨by rw [hs.out]; rfl, B1.out _⟩
  go_enter Try.func48, Try.ntmps48
  go_wp2_with fail
  go_loop [26] (fun i' => ∃ j : Nat, j ≤ m ∧ i' = .int .i64 j ∧ Hid (allP n i xs j)) (fun i' => m - (intOf i').toNat)
  case atStart => exact ⟨0, Nat.zero_le _, rfl, Lib.hid (allP_zero _ _ _)⟩
  case round =>
    obtain ⟨j, hj, rfl, hP⟩ := hrel
    by_cases hlt : j < m
    · obtain ⟨z, hz⟩ : ∃ s, xs[j]? = some s := ⟨_, List.getElem?_eq_getElem (by rw [hL.out]; exact hlt)⟩
      obtain ⟨ad, rfl, hab, h0⟩ := (hR.out.below ((B1.out (.cells #[.int .i64 k, .int .i64 d, .slice A m c] 55)).mono hB)) j _ hz
      have hZ := Lib.hid hz
      clear hz
      by_cases hzi : z ≤ i
      · have hs := Lib.hid (show okNode n i (k, d, xs) = false from okNode_part (s := (k, d, xs)) hZ.out (okPart_no (by omega)))
        go_wp2_with fail
        go_ret
        exact ⟨by rw [hs.out]; rfl, B1.out _⟩
      by_cases hzn : (n : Int) ≤ z
      · have hs := Lib.hid (show okNode n i (k, d, xs) = false from okNode_part (s := (k, d, xs)) hZ.out (okPart_no (by omega)))
        go_wp2_with fail
        go_ret
        exact ⟨by rw [hs.out]; rfl, B1.out _⟩
      have hN := Lib.hid (allP_next hP.out hZ.out (okPart_yes (by omega) (by omega)))
      go_wp2_with fail
      go_round
      case rel => exact ⟨j + 1, by omega, by go_num, hN⟩
      case measure => simp [intOf]; omega
    · obtain rfl : j = m := by omega
      have hK := Lib.hid (okNode_kind (n := n) (i := i) (s := (k, d, xs)) d0 d1 (by show xs.length ≤ 12; rw [hL.out]; omega) (by show allP n i xs xs.length; rw [hL.out]; exact hP.out))
      clear hP hlt
      by_cases k1 : k = 1
      · subst k1
        have hs := Lib.hid (show okNode n i (1, d, xs) = decide (j = 0) by rw [hK.out]; simp [okKind, hL.out])
        go_wp2_with fail
        go_ret
        exact ⟨by rw [hs.out]; simp; exact beqI j 0, B1.out _⟩
      by_cases k4 : k = 4
      · subst k4
        have hs := Lib.hid (show okNode n i (4, d, xs) = decide (j = 0) by rw [hK.out]; simp [okKind, hL.out])
        go_wp2_with fail
        go_ret
        exact ⟨by rw [hs.out]; simp; exact beqI j 0, B1.out _⟩
      by_cases k2 : k = 2
      · subst k2
        have hs := Lib.hid (show okNode n i (2, d, xs) = decide (j = 1) by rw [hK.out]; simp [okKind, hL.out])
        go_wp2_with fail
        go_ret
        exact ⟨by rw [hs.out]; simp; exact beqI j 1, B1.out _⟩
      by_cases k3 : k = 3
      · subst k3
        by_cases hj0 : 0 < j
        · have hs := Lib.hid (show okNode n i (3, d, xs) = decide (d = 0) by rw [hK.out]; simp [okKind, hL.out, hj0])
          go_wp2_with fail
          go_ret
          exact ⟨by rw [hs.out]; rfl, B1.out _⟩
        · have hs := Lib.hid (show okNode n i (3, d, xs) = false by rw [hK.out]; simp [okKind, hL.out, hj0])
          go_wp2_with fail
          go_ret
          exact ⟨by rw [hs.out]; rfl, B1.out _⟩
      · have hs := Lib.hid (show okNode n i (k, d, xs) = false by rw [hK.out]; simp [okKind, k1, k2, k3, k4])
        go_wp2_with fail
        go_ret
        exact ⟨by rw [hs.out]; rfl, B1.out _⟩

set_option maxHeartbeats 2000000 in
theorem areErrors_any (B : Nat) (A : Option Addr) (n c : Nat) (p : Er) (hn : n ≤ 9223372036854775807) (hl : p.length = n) (hsm : SmallE p 9223372036854775807) (w : World) (hr : RdE w B A p) (hB : B ≤ w.heap.size) :
    Calls Try.prog 17 #[.agg #[.slice A n c]] w fun e w' => e = .returned (.bool (okErr p)) ∧ Below w.heap.size w w' := by
  have hR := Lib.hid hr
  have hL := Lib.hid hl
  have hS := Lib.hid hsm
  clear hr hl hsm
  by_cases hn1 : n < 1
  · have hs := Lib.hid (show okErr p = false from okErr_len hL.out (by omega))
    go_enter Try.func17, Try.ntmps17
    go_wp2_with fail
    go_ret
    exact ⟨by rw [hs.out]; rfl, (Below.refl _ _).alloc (Nat.le_refl _) _⟩
  by_cases hn12 : 12 < n
  · have hs := Lib.hid (show okErr p = false from okErr_len hL.out (by omega))
    go_enter Try.func17, Try.ntmps17
    go_wp2_with fail
    go_ret
    exact ⟨by rw [hs.out]; rfl, (Below.refl _ _).alloc (Nat.le_refl _) _⟩
  go_enter Try.func17, Try.ntmps17
  go_wp2_with fail
  go_loopw [18] (fun i wr => ∃ k : Nat, k ≤ n ∧ i = .int .i64 k ∧ Hid (allN n p k) ∧ Below (w.heap.size + 1) (w.alloc (.cells #[.slice A n c] 29)) wr) (fun i _ => n - (intOf i).toNat)
  case atStart => exact ⟨0, Nat.zero_le _, rfl, Lib.hid (allN_zero _ _), Below.refl _ _⟩
  case round =>
    obtain ⟨k, hk, rfl, hO, hb⟩ := hrel
    have hsz : w.heap.size + 1 ≤ wr.heap.size := by have := hb.size; simpa using this
    have cb : wr.cell? ⟨w.heap.size, 0, none⟩ = some (.slice A n c) := (hb.cell (p := ⟨w.heap.size, 0, none⟩) (by simp)).trans (by simp [go_sem])
    have hRb : Hid (RdE wr B A p) := Lib.hid ((hR.out.below ((Below.refl B w).alloc hB _)).below (hb.mono (by omega)))
    have hbw : Below w.heap.size w wr := ((Below.refl _ _).alloc (Nat.le_refl _) _).trans (hb.mono (by omega))
    by_cases hlt : k < n
    · obtain ⟨⟨s0, s1, s2⟩, hs⟩ : ∃ s, p[k]? = some s := ⟨_, List.getElem?_eq_getElem (by rw [hL.out]; exact hlt)⟩
      obtain ⟨ad, Ai, ci, rfl, hab, h0, h1, h2, h3⟩ := hRb.out k _ hs
      have hH := Lib.hid hs
      have hxn : s2.length ≤ 9223372036854775807 := hS.out k _ hs
      have H3 := Lib.hid h3
      have cb3 : ∀ o, (wr.alloc o).cell? ⟨w.heap.size, 0, none⟩ = some (.slice (some ad) n c) := fun o => (World.cell?_alloc_lt wr o ⟨w.heap.size, 0, none⟩ (by show w.heap.size < wr.heap.size; omega)).trans cb
      clear hs h3
      dsimp only at h0 h1 h2
      go_wp2_with fail
      refine (isErrorNode_any B s0 s1 Ai s2.length ci s2 k n hxn (by omega) hn rfl _ (H3.out.below ((Below.refl _ _).alloc (by omega) _)) (by simp; omega)).mono ?_
      rintro e w1 ⟨rfl, hb3⟩
      have hb4 := hb.trans ((((Below.refl wr.heap.size wr).alloc (Nat.le_refl _) _).trans (hb3.mono (by simp))).mono hsz)
      have HB4 := Lib.hid hb4
      have HBW := Lib.hid (((Below.refl _ _).alloc (Nat.le_refl _) _).trans (hb4.mono (by omega)))
      clear hb3 hb4
      cases hok : okNode n k (s0, s1, s2)
      · have hs := Lib.hid (show okErr p = false from okErr_bad hL.out hH.out hok)
        clear hok
        go_wp2_with fail
        go_ret
        exact ⟨by rw [hs.out]; rfl, HBW.out⟩
      · have hN := Lib.hid (allN_next hO.out hH.out hok)
        clear hok
        go_wp2_with fail
        go_roundw
        case rel => exact ⟨k + 1, by omega, by go_num, hN, HB4.out⟩
        case measure => simp [intOf]; omega
    · obtain rfl : k = n := by omega
      have hs := Lib.hid (show okErr p = true from okErr_yes hL.out (by omega) (by omega) hO.out)
      go_wp2_with fail
      go_ret
      exact ⟨by rw [hs.out]; rfl, hbw⟩
theorem isErrorOf_any (B : Nat) (A : Option Addr) (n c : Nat) (p : Er) (x : Int) (hn : n ≤ 9223372036854775807) (hl : p.length = n) (hsm : SmallE p 9223372036854775807) (w : World) (hr : RdE w B A p) (hB : B ≤ w.heap.size) :
    Calls Try.prog 52 #[.agg #[.slice A n c], .int .i64 x] w fun e w' => e = .returned (.bool (oneE p x)) ∧ Below w.heap.size w w' := by
  have hC := Lib.hid (fun w hr hB => areErrors_any B A n c p hn hl hsm w hr hB)
  have hR := Lib.hid hr
  have b1 : ∀ o : Obj, Below w.heap.size w (w.alloc o) := fun o => (Below.refl _ _).alloc (Nat.le_refl _) _
  have B1 := Lib.hid b1
  have hU := Lib.hid (show oneE p x = (okErr p && (decide (0 ≤ x) && decide (x < n))) by unfold oneE; rw [hl])
  clear hr hl hsm b1
  go_enter Try.func52, Try.ntmps52
  go_wp2_with fail
  refine (hC.out _ (hR.out.below ((B1.out _).mono hB)) (by simp; omega)).mono ?_
  rintro e w1 ⟨rfl, b⟩
  have bb := Lib.hid ((B1.out (.cells #[.slice A n c] 29)).trans (b.mono (by simp)))
  have z0 : w1.cell? ⟨w.heap.size, 0, none⟩ = some (.slice A n c) := (b.cell (p := ⟨w.heap.size, 0, none⟩) (by simp)).trans (by simp [go_sem])
  clear b
  cases hok : okErr p
  · rw [hok] at hU
    clear hok
    go_wp2_with fail
    go_ret
    exact ⟨by rw [hU.out]; rfl, bb.out⟩
  · rw [hok] at hU
    clear hok
    by_cases h0 : 0 ≤ x
    · by_cases h1 : x < n
      · rw [decide_eq_true h0, decide_eq_true h1] at hU
        go_wp2_with fail
        go_ret
        exact ⟨by rw [hU.out]; rfl, bb.out⟩
      · rw [decide_eq_true h0, decide_eq_false h1] at hU
        go_wp2_with fail
        go_ret
        exact ⟨by rw [hU.out]; show Ending.returned (.bool (decide (x < (n : Int)))) = _; rw [decide_eq_false (by omega)]; rfl, bb.out⟩
    · rw [decide_eq_false h0] at hU
      go_wp2_with fail
      go_ret
      exact ⟨by rw [hU.out]; rfl, bb.out⟩

set_option maxHeartbeats 4000000 in
theorem l6Node_any (B : Nat) (k d : Int) (A : Option Addr) (m c : Nat) (xs : List Int) (i n : Nat) (hm : m ≤ 9223372036854775807) (hi : i ≤ 1000000) (hn : n ≤ 9223372036854775807) (hl : xs.length = m) (w : World) (hr : RdI w B A xs) (hB : B ≤ w.heap.size) :
    Calls Try.prog 72 #[.agg #[.int .i64 k, .int .i64 d, .slice A m c], .int .i64 i, .int .i64 n] w fun e w' => e = .returned (.bool (okNode n i (k, d, xs))) ∧ Below w.heap.size w w' := by
  have hR := Lib.hid hr
  have hL := Lib.hid hl
  have b1 : ∀ o : Obj, Below w.heap.size w (w.alloc o) := fun o => (Below.refl _ _).alloc (Nat.le_refl _) _
  have B1 := Lib.hid b1
  clear hr hl b1
  by_cases hd : 0 ≤ d ∧ d ≤ 99
  case neg =>
    have hs := Lib.hid (show okNode n i (k, d, xs) = false from okNode_code hd)
    have hbt := btw_no hd
    clear hd
    go_enter Try.func72, Try.ntmps72
    go_wp2_with fail
    refine (l1In_any d 0 99 _).mono ?_
    rintro e w1 ⟨rfl, rfl⟩
    rw [hbt]
    go_wp2_with fail
    go_ret
    exact ⟨by rw [hs.out]; rfl, B1.out _⟩
  case pos =>
  obtain ⟨d0, d1⟩ := hd
  have hbt := Lib.hid (btw_yes d0 d1)
  by_cases h12 : 12 < m
  · have hs := Lib.hid (show okNode n i (k, d, xs) = false from okNode_many (by show ¬ xs.length ≤ 12; rw [hL.out]; omega))
    go_enter Try.func72, Try.ntmps72
    go_wp2_with fail
    refine (l1In_any d 0 99 _).mono ?_
    rintro e w1 ⟨rfl, rfl⟩
    rw [hbt.out]
    go_wp2_with fail
    go_ret
    exact ⟨by rw [hs.out]; rfl, B1.out _⟩
  go_enter Try.func72, Try.ntmps72
  go_wp2_with fail
  refine (l1In_any d 0 99 _).mono ?_
  rintro e w1 ⟨rfl, rfl⟩
  rw [hbt.out]
  go_wp2_with fail
  go_loop [7] (fun i' => ∃ j : Nat, j ≤ m ∧ i' = .int .i64 j ∧ Hid (allP n i xs j)) (fun i' => m - (intOf i').toNat)
  case atStart => exact ⟨0, Nat.zero_le _, rfl, Lib.hid (allP_zero _ _ _)⟩
  case round =>
    obtain ⟨j, hj, rfl, hP⟩ := hrel
    by_cases hlt : j < m
    · obtain ⟨z, hz⟩ : ∃ s, xs[j]? = some s := ⟨_, List.getElem?_eq_getElem (by rw [hL.out]; exact hlt)⟩
      obtain ⟨ad, rfl, hab, h0⟩ := (hR.out.below ((B1.out (.cells #[.int .i64 k, .int .i64 d, .slice A m c] 55)).mono hB)) j _ hz
      have hZ := Lib.hid hz
      clear hz
      go_wp2_with fail
      refine (l1In_any z ((i : Int) + 1) ((n : Int) - 1) _).mono ?_
      rintro e w1 ⟨rfl, rfl⟩
      by_cases hzi : (i : Int) + 1 ≤ z ∧ z ≤ (n : Int) - 1
      · have hN := Lib.hid (allP_next hP.out hZ.out (okPart_yes (by omega) (by omega)))
        rw [btw_yes hzi.1 hzi.2]
        go_wp2_with fail
        go_round
        case rel => exact ⟨j + 1, by omega, by go_num, hN⟩
        case measure => simp [intOf]; omega
      · have hs := Lib.hid (show okNode n i (k, d, xs) = false from okNode_part (s := (k, d, xs)) hZ.out (okPart_no (by omega)))
        rw [btw_no hzi]
        go_wp2_with fail
        go_ret
        exact ⟨by rw [hs.out]; rfl, B1.out _⟩
    · obtain rfl : j = m := by omega
      have hK := Lib.hid (okNode_kind (n := n) (i := i) (s := (k, d, xs)) d0 d1 (by show xs.length ≤ 12; rw [hL.out]; omega) (by show allP n i xs xs.length; rw [hL.out]; exact hP.out))
      clear hP hlt
      by_cases k1 : k = 1
      · subst k1
        have hs := Lib.hid (show okNode n i (1, d, xs) = decide (j = 0) by rw [hK.out]; simp [okKind, hL.out])
        go_wp2_with fail
        go_ret
        exact ⟨by rw [hs.out]; simp; exact beqI j 0, B1.out _⟩
      by_cases k4 : k = 4
      · subst k4
        have hs := Lib.hid (show okNode n i (4, d, xs) = decide (j = 0) by rw [hK.out]; simp [okKind, hL.out])
        go_wp2_with fail
        go_ret
        exact ⟨by rw [hs.out]; simp; exact beqI j 0, B1.out _⟩
      by_cases k2 : k = 2
      · subst k2
        have hs := Lib.hid (show okNode n i (2, d, xs) = decide (j = 1) by rw [hK.out]; simp [okKind, hL.out])
        go_wp2_with fail
        go_ret
        exact ⟨by rw [hs.out]; simp; exact beqI j 1, B1.out _⟩
      by_cases k3 : k = 3
      · subst k3
        by_cases hj0 : 0 < j
        · have hs := Lib.hid (show okNode n i (3, d, xs) = decide (d = 0) by rw [hK.out]; simp [okKind, hL.out, hj0])
          go_wp2_with fail
          go_ret
          exact ⟨by rw [hs.out]; rfl, B1.out _⟩
        · have hs := Lib.hid (show okNode n i (3, d, xs) = false by rw [hK.out]; simp [okKind, hL.out, hj0])
          go_wp2_with fail
          go_ret
          exact ⟨by rw [hs.out]; rfl, B1.out _⟩
      · have hs := Lib.hid (show okNode n i (k, d, xs) = false by rw [hK.out]; simp [okKind, k1, k2, k3, k4])
        go_wp2_with fail
        go_ret
        exact ⟨by rw [hs.out]; rfl, B1.out _⟩

set_option maxHeartbeats 2000000 in
theorem l6Errors_any (B : Nat) (A : Option Addr) (n c : Nat) (p : Er) (hn : n ≤ 9223372036854775807) (hl : p.length = n) (hsm : SmallE p 9223372036854775807) (w : World) (hr : RdE w B A p) (hB : B ≤ w.heap.size) :
    Calls Try.prog 46 #[.agg #[.slice A n c]] w fun e w' => e = .returned (.bool (okErr p)) ∧ Below w.heap.size w w' := by
  have hR := Lib.hid hr
  have hL := Lib.hid hl
  have hS := Lib.hid hsm
  clear hr hl hsm
  go_enter Try.func46, Try.ntmps46
  go_wp2_with fail
  go_loopw [4] (fun i wr => ∃ k : Nat, k ≤ n ∧ k ≤ 13 ∧ i = .int .i64 k ∧ Hid (allN n p k) ∧ Below (w.heap.size + 1) (w.alloc (.cells #[.slice A n c] 29)) wr) (fun i _ => n - (intOf i).toNat)
  case atStart => exact ⟨0, Nat.zero_le _, Nat.zero_le _, rfl, Lib.hid (allN_zero _ _), Below.refl _ _⟩
  case round =>
    obtain ⟨k, hk, hk13, rfl, hO, hb⟩ := hrel
    have hsz : w.heap.size + 1 ≤ wr.heap.size := by have := hb.size; simpa using this
    have cb : wr.cell? ⟨w.heap.size, 0, none⟩ = some (.slice A n c) := (hb.cell (p := ⟨w.heap.size, 0, none⟩) (by simp)).trans (by simp [go_sem])
    have hRb : Hid (RdE wr B A p) := Lib.hid ((hR.out.below ((Below.refl B w).alloc hB _)).below (hb.mono (by omega)))
    have hbw : Below w.heap.size w wr := ((Below.refl _ _).alloc (Nat.le_refl _) _).trans (hb.mono (by omega))
    by_cases hlt : k < n
    · by_cases hk12 : k ≤ 12
      · obtain ⟨⟨s0, s1, s2⟩, hs⟩ : ∃ s, p[k]? = some s := ⟨_, List.getElem?_eq_getElem (by rw [hL.out]; exact hlt)⟩
        obtain ⟨ad, Ai, ci, rfl, hab, h0, h1, h2, h3⟩ := hRb.out k _ hs
        have hH := Lib.hid hs
        have hxn : s2.length ≤ 9223372036854775807 := hS.out k _ hs
        have H3 := Lib.hid h3
        clear hs h3
        dsimp only at h0 h1 h2
        go_wp2_with fail
        refine (l6Node_any B s0 s1 Ai s2.length ci s2 k n hxn (by omega) hn rfl _ H3.out (by omega)).mono ?_
        rintro e w1 ⟨rfl, hb3⟩
        have hb4 := hb.trans (hb3.mono hsz)
        have HB4 := Lib.hid hb4
        have HBW := Lib.hid (((Below.refl _ _).alloc (Nat.le_refl _) _).trans (hb4.mono (by omega)))
        clear hb3 hb4
        cases hok : okNode n k (s0, s1, s2)
        · have hs := Lib.hid (show okErr p = false from okErr_bad hL.out hH.out hok)
          clear hok
          go_wp2_with fail
          go_ret
          exact ⟨by rw [hs.out]; rfl, HBW.out⟩
        · have hN := Lib.hid (allN_next hO.out hH.out hok)
          clear hok
          go_wp2_with fail
          go_roundw
          case rel => exact ⟨k + 1, by omega, by omega, by go_num, hN, HB4.out⟩
          case measure => simp [intOf]; omega
      · have hs := Lib.hid (show btw n 1 12 = okErr p by rw [okErr_len hL.out (by omega)]; exact btw_no (by omega))
        go_wp2_with fail
        refine (l1In_any n 1 12 _).mono ?_
        rintro e w1 ⟨rfl, rfl⟩
        rw [hs.out]
        go_wp2_with fail
        go_ret
        exact ⟨rfl, hbw⟩
    · obtain rfl : k = n := by omega
      have hs := Lib.hid (show btw k 1 12 = okErr p by
        by_cases h : 1 ≤ k ∧ k ≤ 12
        · rw [okErr_yes hL.out h.1 h.2 hO.out]; exact btw_yes (by omega) (by omega)
        · rw [okErr_len hL.out h]; exact btw_no (by omega))
      go_wp2_with fail
      refine (l1In_any k 1 12 _).mono ?_
      rintro e w1 ⟨rfl, rfl⟩
      rw [hs.out]
      go_wp2_with fail
      go_ret
      exact ⟨rfl, hbw⟩
theorem areErrorsS_any (B : Nat) (A : Option Addr) (n c : Nat) (p : Er) (hn : n ≤ 9223372036854775807) (hl : p.length = n) (hsm : SmallE p 9223372036854775807) (w : World) (hr : RdE w B A p) (hB : B ≤ w.heap.size) :
    Calls Try.prog 15 #[.agg #[.slice A n c]] w fun e w' => e = .returned (.bool (okErr p)) ∧ Below w.heap.size w w' := by
  have hC := Lib.hid (fun w hr hB => l6Errors_any B A n c p hn hl hsm w hr hB)
  have hR := Lib.hid hr
  clear hr hl hsm
  go_enter Try.func15, Try.ntmps15
  go_wp2_with fail
  refine (hC.out _ (hR.out.below ((Below.refl _ _).alloc hB _)) (by simp; omega)).mono ?_
  rintro e w1 ⟨rfl, hb⟩
  go_wp2_with fail
  go_ret
  exact ⟨rfl, ((Below.refl _ _).alloc (Nat.le_refl _) _).trans (hb.mono (by simp))⟩
theorem l6One_any (B : Nat) (A : Option Addr) (n c : Nat) (p : Er) (x : Int) (hn : n ≤ 9223372036854775807) (hl : p.length = n) (hsm : SmallE p 9223372036854775807) (w : World) (hr : RdE w B A p) (hB : B ≤ w.heap.size) :
    Calls Try.prog 50 #[.agg #[.slice A n c], .int .i64 x] w fun e w' => e = .returned (.bool (oneE p x)) ∧ Below w.heap.size w w' := by
  have hC := Lib.hid (fun w hr hB => l6Errors_any B A n c p hn hl hsm w hr hB)
  have hR := Lib.hid hr
  have b1 : ∀ o : Obj, Below w.heap.size w (w.alloc o) := fun o => (Below.refl _ _).alloc (Nat.le_refl _) _
  have B1 := Lib.hid b1
  have hU := Lib.hid (show oneE p x = (okErr p && btw x 0 ((n : Int) - 1)) by
    have e : decide (x < (p.length : Int)) = decide (x ≤ (n : Int) - 1) := by rw [hl, decide_eq_decide]; omega
    unfold oneE btw; rw [e])
  clear hr hl hsm b1
  go_enter Try.func50, Try.ntmps50
  go_wp2_with fail
  refine (hC.out _ (hR.out.below ((B1.out _).mono hB)) (by simp; omega)).mono ?_
  rintro e w1 ⟨rfl, b⟩
  have bb := Lib.hid ((B1.out (.cells #[.slice A n c] 29)).trans (b.mono (by simp)))
  have z0 : w1.cell? ⟨w.heap.size, 0, none⟩ = some (.slice A n c) := (b.cell (p := ⟨w.heap.size, 0, none⟩) (by simp)).trans (by simp [go_sem])
  clear b
  cases hok : okErr p
  · rw [hok] at hU
    clear hok
    go_wp2_with fail
    go_ret
    exact ⟨by rw [hU.out]; rfl, bb.out⟩
  · rw [hok] at hU
    clear hok
    go_wp2_with fail
    refine (l1In_any x 0 ((n : Int) - 1) _).mono ?_
    rintro e w2 ⟨rfl, rfl⟩
    have hT : Hid (oneE p x = btw x 0 ((n : Int) - 1)) := Lib.hid (by rw [hU.out]; rfl)
    generalize btw x 0 ((n : Int) - 1) = bb' at *
    go_wp2_with fail
    all_goals
      go_ret
      exact ⟨by rw [hT.out]; simp, bb.out⟩
end Go.Proofs.Ytkjgibhckcdneaa.ErA
