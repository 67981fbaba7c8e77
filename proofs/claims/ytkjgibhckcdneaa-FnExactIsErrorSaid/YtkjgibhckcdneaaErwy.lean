/- impl.waysFrom lays how often each number is in the walk of an error; impl.CountWays and spec.CountWays return it. -/
import Derived.Test.YtkjgibhckcdneaaErde
import Derived.Test.YtkjgibhckcdneaaErwp
namespace Go.Proofs.Ytkjgibhckcdneaa.ErW
set_option linter.unusedVariables false
set_option linter.unusedSimpArgs false
open Go.ChangeShapes Go.WideShapes Go.ChangeAt Go.RowKit
open Mem IntsP ErP ErM ErT ErA ErU ErD

theorem made_at {n i : Nat} (h : i < n) : (madeCells #[Value.int .i64 0] n)[i]? = some (.int .i64 0) := by
  have h1 := madeI n
  rw [Nat.mul_one] at h1
  have h2 : (madeCells #[Value.int .i64 0] n).toList[i]? = some (.int .i64 0) := by rw [h1]; exact cellsI_at _ _ _ (by rw [List.getElem?_replicate, if_pos h])
  rwa [Array.getElem?_toList] at h2
theorem Arr.new1 {w : World} {n i : Nat} (hn : n ≤ 2000000) (z : Int) : Arr (w.alloc (.cells ((madeCells #[Value.int .i64 0] n).setIfInBounds i (.int .i64 z)) 3)) w.heap.size n ((List.replicate n 0).set i z) := by
  refine ⟨by simp, ?_⟩
  have := World.ownsRow_lit (base := w.heap.size) (e := 3) (size := 1) w ((madeCells #[Value.int .i64 0] n).setIfInBounds i (.int .i64 z)) n (Nat.le_refl _) (by unfold maxLen; omega) (by rw [Array.size_setIfInBounds]; have := size_madeCells #[Value.int .i64 0] (n * 1); rw [Nat.mul_one] at this; simpa using this)
  rw [Array.toList_setIfInBounds] at this
  have h1 := madeI n
  rw [Nat.mul_one] at h1
  rw [h1, cellsI_set] at this
  exact this
def ArrR (n : Nat) (a : List Int) (w : World) (e : Ending) (w' : World) : Prop := ∃ g, e = .returned (.slice (some ⟨g, 0, none⟩) n n) ∧ w.heap.size ≤ g ∧ g < w'.heap.size ∧ Arr w' g n a ∧ Below w.heap.size w w'
set_option maxRecDepth 100000 in
set_option maxHeartbeats 4000000 in
theorem ways_any (n c : Nat) (A : Option Addr) (p : Er) (x0 : Nat) (hl : p.length = n) (hok : okErr p = true) (hx : x0 < n) (w : World) (hr : RdE w w.heap.size A p) :
    Calls Try.prog 56 #[.agg #[.slice A n c], .int .i64 x0] w (ArrR n (waysE p x0) w) := by
  have hn12 : n ≤ 12 := by rw [← hl]; exact ((okErr_iff p).1 hok).2.1
  have hs := Lib.hid (show waysE p x0 = arrW p x0 (n - x0) by unfold waysE; rw [hl])
  have HOK := Lib.hid hok
  have hL := Lib.hid hl
  have hRd := Lib.hid hr
  have b1 : ∀ o : Obj, Below w.heap.size w (w.alloc o) := fun o => (Below.refl _ _).alloc (Nat.le_refl _) _
  have B1 := Lib.hid b1
  obtain ⟨i0, hi, hz0, hz1, hz2⟩ := info_parts info3
  have hmk := fun W => run_make_rowN (P := Try.prog) 33 3 i0 _ Try.underlying33 hi hz0 .i64 .i64 n n (Nat.le_refl _) (by rw [hz2]; omega) (by omega) W
  rw [hz1] at hmk
  clear hl hok hr b1 hi hz0 hz2
  go_enter Try.func56, Try.ntmps56
  have hnew := Lib.hid (fun W => Arr.new (w := W) (n := n) (by omega))
  have hmc : (madeCells #[Value.int .i64 0] n)[x0]? = some (.int .i64 0) := made_at hx
  go_wp2_with fail
  obtain ⟨g, hg⟩ : ∃ g, w.heap.size + 1 = g := ⟨_, rfl⟩
  obtain ⟨w2, hw2⟩ : ∃ w2, (w.alloc (.cells #[.slice A n c] 29)).alloc (.cells ((madeCells #[Value.int .i64 0] n).setIfInBounds x0 (.int .i64 1)) 3) = w2 := ⟨_, rfl⟩
  have hA : Arr w2 g n (arrW p x0 0) := by rw [← hw2, ← hg]; have := Arr.new1 (w := w.alloc (.cells #[.slice A n c] 29)) (n := n) (i := x0) (by omega) 1; unfold arrW; rw [hL.out]; simpa using this
  have bb2 : Below w.heap.size w w2 := by rw [← hw2]; exact (B1.out _).alloc (by simp) _
  have z2 : w2.cell? ⟨w.heap.size, 0, none⟩ = some (.slice A n c) := by rw [← hw2]; exact (World.cell?_alloc_lt _ _ ⟨w.heap.size, 0, none⟩ (by simp)).trans (by simp [go_sem])
  have l2 : g < w2.heap.size := by rw [← hw2, ← hg]; simp
  have R2 := Lib.hid (hRd.out.below bb2)
  rw [hw2]
  have HA := Lib.hid hA
  have BB2 := Lib.hid bb2
  have s1 : w.heap.size < g := by omega
  rw [hg]
  clear hw2 hg hA bb2 hmc
  go_loopw [6] (fun i wr => ∃ k : Nat, k ≤ n - x0 ∧ i = .int .i64 ((x0 + k : Nat) : Int) ∧ Arr wr g n (arrW p x0 k) ∧ Chg (fun b => b = g) w2 wr) (fun i _ => n - (intOf i).toNat)
  case atStart => exact ⟨0, Nat.zero_le _, by simp, HA.out, Chg.refl _ _⟩
  case round =>
    obtain ⟨k, hk, rfl, hA, hch⟩ := hrel
    have HA := Lib.hid hA
    have zr : wr.cell? ⟨w.heap.size, 0, none⟩ = some (.slice A n c) := (hch.cell (p := ⟨w.heap.size, 0, none⟩) (by show w.heap.size < w2.heap.size; omega) (by show ¬ w.heap.size = g; omega)).trans z2
    have Rr := Lib.hid (rdE_chg R2.out hch (by omega) (fun b hb => by omega))
    have HC := Lib.hid hch
    clear hA hch
    by_cases hlt : k < n - x0
    · obtain ⟨i, hi⟩ : ∃ i, x0 + k = i := ⟨_, rfl⟩
      obtain ⟨s, hsx⟩ : ∃ s, p[i]? = some s := ⟨_, List.getElem?_eq_getElem (by rw [hL.out]; omega)⟩
      obtain ⟨ad, Ai, ci, rfl, hab, c0, c1, c2, c3⟩ := Rr.out i _ hsx
      have HN := Lib.hid (arrW_next (k := k) (x := x0) (by rw [hi]; exact hsx))
      have HP := Lib.hid (parts_ne HOK.out hsx)
      have HB := Lib.hid (arrW_top HOK.out x0 k (by rw [hL.out]; omega))
      have hlen := arrW_len p x0 k
      rw [hL.out] at hlen
      have HS := Lib.hid hsx
      have C3 := Lib.hid c3
      have hin : i < n := by omega
      rw [hi] at HN
      rw [hi]
      clear hsx c3
      obtain ⟨m, hm⟩ : ∃ m, s.2.2.length = m := ⟨_, rfl⟩
      have hm12 : m ≤ 12 := by rw [← hm]; exact ok_many HOK.out HS.out
      have HM := Lib.hid hm
      rw [hm] at c2
      clear hm
      obtain ⟨a, ha⟩ : ∃ a, arrW p x0 k = a := ⟨_, rfl⟩
      rw [ha] at HA HN HB hlen
      clear ha
      go_wp2_with fail
      obtain ⟨wo, rfl⟩ : ∃ wo, wo = wr := ⟨_, rfl⟩
      have lo2 := HC.out.size
      have hgl : g < wo.heap.size := by omega
      go_loopw [31] (fun j' wr => ∃ j : Nat, j ≤ m ∧ j' = .int .i64 j ∧ Arr wr g n (addP a s.2.2 (getI a i) j) ∧ Chg (fun b => b = g) wo wr) (fun j' _ => m - (intOf j').toNat)
      case atStart => exact ⟨0, Nat.zero_le _, rfl, by rw [addP_zero]; exact HA.out, Chg.refl _ _⟩
      case round =>
        obtain ⟨j, hj, rfl, hA, hch⟩ := hrel
        have HA2 := Lib.hid hA
        have zr2 : wr.cell? ⟨w.heap.size, 0, none⟩ = some (.slice (some ad) n c) := (hch.cell (p := ⟨w.heap.size, 0, none⟩) (by show w.heap.size < wo.heap.size; omega) (by show ¬ w.heap.size = g; omega)).trans zr
        have R3 := Lib.hid (rdI_chg C3.out hch (by omega) (fun b hb => by omega))
        have HC2 := Lib.hid hch
        clear hA hch
        by_cases hjl : j < m
        · obtain ⟨z, hz⟩ : ∃ z, s.2.2[j]? = some z := ⟨_, List.getElem?_eq_getElem (by rw [HM.out]; exact hjl)⟩
          obtain ⟨q, rfl, hq1, hq2⟩ := ok_part HOK.out HS.out hz
          rw [hL.out] at hq2
          obtain ⟨ad', rfl, hab', d0⟩ := R3.out j _ hz
          obtain ⟨e1, e2⟩ := HA2.out.at hin
          rw [addP_self a s.2.2 _ i HP.out j] at e1
          obtain ⟨e3, e4⟩ := HA2.out.at hq2
          have hN := Lib.hid (addP_next (a := a) (z := getI a i) hz)
          rw [Int.toNat_natCast] at hN
          have hb1 := HB.out i
          have hb2 := addP_in (ps := s.2.2) HB.out hb1.1 hb1.2 j q
          have hb3 : (j : Int) * getI a i ≤ 12 * 23298085122481 := Int.mul_le_mul (by omega) hb1.2 hb1.1 (by omega)
          have HAd : Hid (Arr wr.drew g n (addP a s.2.2 (getI a i) j)) := Lib.hid (HA2.out.chg (chg_drew (Chg.refl (fun _ => False) _)) (fun h => h))
          have HC3 := Lib.hid (chg_drew HC2.out)
          clear hz HA2 HC2
          generalize (j : Int) * getI a i = bz at *
          generalize addP a s.2.2 (getI a i) j = b at *
          generalize getI a i = zi at *
          generalize hzq : getI b q = zq at *
          have HZQ := Lib.hid hzq
          clear hzq
          go_wp2_with fail
          refine wp_region_still_tail 10 (by kernel_rfl) (by kernel_rfl) ?_
          simp only [List.take_succ_cons, List.take_zero, List.drop_succ_cons, List.drop_zero]
          change wpStill _ _ wr.drew _ _ _
          have e1' : wr.drew.cell? ⟨g, i, none⟩ = some (.int .i64 zi) := e1
          have e2' : wr.drew.frozen? ⟨g, q, none⟩ = false := e4
          have e3' : wr.drew.cell? ⟨g, q, none⟩ = some (.int .i64 zq) := e3
          repeat still_step
          refine wpStill_nil ?_
          change wpList _ _ _ _ _ wr.drew
          clear e1 e2 e3 e4 zr2
          generalize wr.drew = w4 at *
          go_wp2_with fail
          go_roundw
          case rel =>
            refine ⟨j + 1, by omega, by go_num, ?_, HC3.out.put ⟨g, q, none⟩ _ (.inr rfl)⟩
            rw [hN.out]
            exact HAd.out.set q _
          case measure => simp [intOf]; omega
        · obtain rfl : j = m := by omega
          have E5 : Hid (arrW p x0 (k + 1) = addP a s.2.2 (getI a i) j) := Lib.hid (by rw [HN.out, HM.out])
          go_wp2_with fail
          go_roundw
          case rel => exact ⟨k + 1, by omega, by go_num, by rw [E5.out]; exact HA2.out, HC.out.trans HC2.out (fun _ _ h => h)⟩
          case measure => simp [intOf]; omega
    · obtain rfl : k = n - x0 := by omega
      rw [show x0 + (n - x0) = n by omega]
      go_wp2_with fail
      go_ret
      exact ⟨g, rfl, by omega, by have := HC.out.size; omega, by rw [hs.out]; exact HA.out, BB2.out.trans (HC.out.below (by have := BB2.out.size; omega) (fun b hb => by omega))⟩

set_option maxHeartbeats 2000000 in
theorem couI_any (lo n c : Nat) (A : Option Addr) (p : Er) (x y : Int) (hn : n ≤ 2000000) (hl : p.length = n) (hsm : SmallE p 2000000) (w : World) (ho : OwnE w lo (.slice A n c) p) :
    Calls Try.prog 28 #[.agg #[.slice A n c], .int .i64 x, .int .i64 y] w (NumR (countR p x y) w) := by
  have hF := Lib.hid (fun w hr hB => isErrorOf_any w.heap.size A n c p x (by omega) hl (hsm.mono (by omega)) w hr hB)
  have hG := Lib.hid (fun w hr hB => isErrorOf_any w.heap.size A n c p y (by omega) hl (hsm.mono (by omega)) w hr hB)
  have b1 : ∀ o : Obj, Below w.heap.size w (w.alloc o) := fun o => (Below.refl _ _).alloc (Nat.le_refl _) _
  have B1 := Lib.hid b1
  have hO := Lib.hid ho
  have hL := Lib.hid hl
  clear ho hl b1
  cases hfx : oneE p x with
  | false =>
    have hs := Lib.hid (show countR p x y = (0, false) by unfold countR; rw [hfx]; rfl)
    rw [hfx] at hF
    clear hfx
    go_enter Try.func28, Try.ntmps28
    go_wp2_with fail
    refine (hF.out _ (hO.out.below (B1.out _)).rd (Nat.le_refl _)).mono ?_
    rintro e w1 ⟨rfl, b⟩
    have bb := Lib.hid ((B1.out (.cells #[.slice A n c] 29)).trans (b.mono (by simp)))
    go_wp2_with fail
    go_ret2
    rw [hs.out]
    exact ⟨rfl, bb.out⟩
  | true =>
  cases hfy : oneE p y with
  | false =>
    have hs := Lib.hid (show countR p x y = (0, false) by unfold countR; rw [hfx, hfy]; rfl)
    rw [hfx] at hF
    rw [hfy] at hG
    clear hfx hfy
    go_enter Try.func28, Try.ntmps28
    go_wp2_with fail
    refine (hF.out _ (hO.out.below (B1.out _)).rd (Nat.le_refl _)).mono ?_
    rintro e w1 ⟨rfl, b⟩
    have z0 : w1.cell? ⟨w.heap.size, 0, none⟩ = some (.slice A n c) := (b.cell (p := ⟨w.heap.size, 0, none⟩) (by simp)).trans (by simp [go_sem])
    have bb := Lib.hid ((B1.out (.cells #[.slice A n c] 29)).trans (b.mono (by simp)))
    clear b
    go_wp2_with fail
    refine (hG.out _ (hO.out.below bb.out).rd (Nat.le_refl _)).mono ?_
    rintro e w2 ⟨rfl, b2⟩
    have bb2 := Lib.hid (bb.out.trans (b2.mono bb.out.size))
    go_wp2_with fail
    go_ret2
    rw [hs.out]
    exact ⟨rfl, bb2.out⟩
  | true =>
    obtain ⟨x0, sx, rfl, hxn, hxx, hok, hn12⟩ := oneE_at hfx
    obtain ⟨y0, sy, rfl, hyn, hyy, _, _⟩ := oneE_at hfy
    have hs := Lib.hid (show countR p x0 y0 = (getI (waysE p x0) y0, true) by unfold countR; rw [hfx, hfy, Int.toNat_natCast, Int.toNat_natCast]; rfl)
    have hW := Lib.hid (fun W (hr : RdE W W.heap.size A p) => ways_any n c A p x0 hL.out hok (by rw [← hL.out]; exact hxn) W hr)
    rw [hfx] at hF
    rw [hfy] at hG
    rw [hL.out] at hyn
    clear hfx hfy hxx hyy hok hxn
    go_enter Try.func28, Try.ntmps28
    go_wp2_with fail
    refine (hF.out _ (hO.out.below (B1.out _)).rd (Nat.le_refl _)).mono ?_
    rintro e w1 ⟨rfl, b⟩
    have z0 : w1.cell? ⟨w.heap.size, 0, none⟩ = some (.slice A n c) := (b.cell (p := ⟨w.heap.size, 0, none⟩) (by simp)).trans (by simp [go_sem])
    have bb := Lib.hid ((B1.out (.cells #[.slice A n c] 29)).trans (b.mono (by simp)))
    have l1 : w.heap.size < w1.heap.size := by have := b.size; simp at this; omega
    clear b
    go_wp2_with fail
    refine (hG.out _ (hO.out.below bb.out).rd (Nat.le_refl _)).mono ?_
    rintro e w2 ⟨rfl, b2⟩
    have z2 : w2.cell? ⟨w.heap.size, 0, none⟩ = some (.slice A n c) := (b2.cell (p := ⟨w.heap.size, 0, none⟩) l1).trans z0
    have bb2 := Lib.hid (bb.out.trans (b2.mono bb.out.size))
    clear b2 z0
    go_wp2_with fail
    refine (hW.out _ (hO.out.below bb2.out).rd).mono ?_
    rintro e w3 ⟨g, rfl, hg1, hg2, hA, b3⟩
    obtain ⟨e1, e2⟩ := hA.at hyn
    have bb3 := Lib.hid (bb2.out.trans (b3.mono bb2.out.size))
    clear hA b3
    go_wp2_with fail
    go_ret2
    rw [hs.out]
    exact ⟨rfl, bb3.out⟩
set_option maxRecDepth 100000 in
set_option maxHeartbeats 4000000 in
theorem couS_any (lo n c : Nat) (A : Option Addr) (p : Er) (x y : Int) (hn : n ≤ 2000000) (hl : p.length = n) (hsm : SmallE p 2000000) (w : World) (ho : OwnE w lo (.slice A n c) p) :
    Calls Try.prog 27 #[.agg #[.slice A n c], .int .i64 x, .int .i64 y] w (NumR (countR p x y) w) := by
  have hF := Lib.hid (fun w hr hB => l6One_any w.heap.size A n c p x (by omega) hl (hsm.mono (by omega)) w hr hB)
  have hG := Lib.hid (fun w hr hB => l6One_any w.heap.size A n c p y (by omega) hl (hsm.mono (by omega)) w hr hB)
  have b1 : ∀ o : Obj, Below w.heap.size w (w.alloc o) := fun o => (Below.refl _ _).alloc (Nat.le_refl _) _
  have B1 := Lib.hid b1
  have hO := Lib.hid ho
  have hL := Lib.hid hl
  clear ho hl b1
  cases hfx : oneE p x with
  | false =>
    have hs := Lib.hid (show countR p x y = (0, false) by unfold countR; rw [hfx]; rfl)
    rw [hfx] at hF
    clear hfx
    go_enter Try.func27, Try.ntmps27
    go_wp2_with fail
    refine (hF.out _ (hO.out.below (B1.out _)).rd (Nat.le_refl _)).mono ?_
    rintro e w1 ⟨rfl, b⟩
    have bb := Lib.hid ((B1.out (.cells #[.slice A n c] 29)).trans (b.mono (by simp)))
    go_wp2_with fail
    go_ret2
    rw [hs.out]
    exact ⟨rfl, bb.out⟩
  | true =>
  cases hfy : oneE p y with
  | false =>
    have hs := Lib.hid (show countR p x y = (0, false) by unfold countR; rw [hfx, hfy]; rfl)
    rw [hfx] at hF
    rw [hfy] at hG
    clear hfx hfy
    go_enter Try.func27, Try.ntmps27
    go_wp2_with fail
    refine (hF.out _ (hO.out.below (B1.out _)).rd (Nat.le_refl _)).mono ?_
    rintro e w1 ⟨rfl, b⟩
    have z0 : w1.cell? ⟨w.heap.size, 0, none⟩ = some (.slice A n c) := (b.cell (p := ⟨w.heap.size, 0, none⟩) (by simp)).trans (by simp [go_sem])
    have bb := Lib.hid ((B1.out (.cells #[.slice A n c] 29)).trans (b.mono (by simp)))
    clear b
    go_wp2_with fail
    refine (hG.out _ (hO.out.below bb.out).rd (Nat.le_refl _)).mono ?_
    rintro e w2 ⟨rfl, b2⟩
    have bb2 := Lib.hid (bb.out.trans (b2.mono bb.out.size))
    go_wp2_with fail
    go_ret2
    rw [hs.out]
    exact ⟨rfl, bb2.out⟩
  | true =>
    obtain ⟨x0, sx, rfl, hxn, hxx, hok, hn12⟩ := oneE_at hfx
    obtain ⟨y0, sy, rfl, hyn, hyy, _, _⟩ := oneE_at hfy
    have hs := Lib.hid (show countR p x0 y0 = (getI (waysE p x0) y0, true) by unfold countR; rw [hfx, hfy, Int.toNat_natCast, Int.toNat_natCast]; rfl)
    have hn12' : n ≤ 12 := by rw [← hL.out]; exact hn12
    have HOK := Lib.hid hok
    have hsw := Lib.hid (show waysE p x0 = arrW p x0 (n - x0) by unfold waysE; rw [hL.out])
    obtain ⟨i0, hi, hz0, hz1, hz2⟩ := info_parts info3
    have hmk := fun W => run_make_rowN (P := Try.prog) 33 3 i0 _ Try.underlying33 hi hz0 .i64 .i64 n n (Nat.le_refl _) (by rw [hz2]; omega) (by omega) W
    rw [hz1] at hmk
    rw [hL.out] at hxn
    have hmc : (madeCells #[Value.int .i64 0] n)[x0]? = some (.int .i64 0) := made_at hxn
    have hRd := Lib.hid hO.out.rd
    clear hi hz0 hz2 hn12 hsm
    rw [hfx] at hF
    rw [hfy] at hG
    rw [hL.out] at hyn
    clear hfx hfy hxx hyy hok
    go_enter Try.func27, Try.ntmps27
    go_wp2_with fail
    refine (hF.out _ (hO.out.below (B1.out _)).rd (Nat.le_refl _)).mono ?_
    rintro e w1 ⟨rfl, b⟩
    have z0 : w1.cell? ⟨w.heap.size, 0, none⟩ = some (.slice A n c) := (b.cell (p := ⟨w.heap.size, 0, none⟩) (by simp)).trans (by simp [go_sem])
    have bb := Lib.hid ((B1.out (.cells #[.slice A n c] 29)).trans (b.mono (by simp)))
    have l1 : w.heap.size < w1.heap.size := by have := b.size; simp at this; omega
    clear b
    go_wp2_with fail
    refine (hG.out _ (hO.out.below bb.out).rd (Nat.le_refl _)).mono ?_
    rintro e w2 ⟨rfl, b2⟩
    have z2 : w2.cell? ⟨w.heap.size, 0, none⟩ = some (.slice A n c) := (b2.cell (p := ⟨w.heap.size, 0, none⟩) l1).trans z0
    have bb2 := Lib.hid (bb.out.trans (b2.mono bb.out.size))
    have hs2 := b2.size
    clear b2 z0
    go_wp2_with fail
    obtain ⟨wb, hwb⟩ : ∃ wb, w2 = wb := ⟨_, rfl⟩
    rw [hwb]
    have bb3 := bb2.out
    have z3 := z2
    have l3 : w.heap.size < w2.heap.size := Nat.lt_of_lt_of_le l1 hs2
    rw [hwb] at bb3 z3 l3
    clear bb2 z2 bb hwb l1 hs2
    obtain ⟨g, hg⟩ : ∃ g, wb.heap.size = g := ⟨_, rfl⟩
    obtain ⟨w2, hw2⟩ : ∃ w2, wb.alloc (.cells ((madeCells #[Value.int .i64 0] n).setIfInBounds x0 (.int .i64 1)) 3) = w2 := ⟨_, rfl⟩
    have hA : Arr w2 g n (arrW p x0 0) := by rw [← hw2, ← hg]; have := Arr.new1 (w := wb) (n := n) (i := x0) (by omega) 1; unfold arrW; rw [hL.out]; simpa using this
    have bb2 : Below w.heap.size w w2 := by rw [← hw2]; exact bb3.alloc bb3.size _
    have z2 : w2.cell? ⟨w.heap.size, 0, none⟩ = some (.slice A n c) := by rw [← hw2]; exact (World.cell?_alloc_lt _ _ ⟨w.heap.size, 0, none⟩ l3).trans z3
    have l2 : g < w2.heap.size := by rw [← hw2, ← hg]; simp
    have R2 := Lib.hid (hRd.out.below bb2)
    rw [hw2]
    have HA := Lib.hid hA
    have BB2 := Lib.hid bb2
    have s1 : w.heap.size < g := by rw [← hg]; exact l3
    rw [hg]
    clear hw2 hg hA bb2 hmc bb3 z3 l3
    go_loopw [9] (fun i wr => ∃ k : Nat, k ≤ n - x0 ∧ i = .int .i64 ((x0 + k : Nat) : Int) ∧ Arr wr g n (arrW p x0 k) ∧ Chg (fun b => b = g) w2 wr) (fun i _ => n - (intOf i).toNat)
    case atStart => exact ⟨0, Nat.zero_le _, by simp, HA.out, Chg.refl _ _⟩
    case round =>
      obtain ⟨k, hk, rfl, hA, hch⟩ := hrel
      have HA := Lib.hid hA
      have zr : wr.cell? ⟨w.heap.size, 0, none⟩ = some (.slice A n c) := (hch.cell (p := ⟨w.heap.size, 0, none⟩) (by show w.heap.size < w2.heap.size; omega) (by show ¬ w.heap.size = g; omega)).trans z2
      have Rr := Lib.hid (rdE_chg R2.out hch (by omega) (fun b hb => by omega))
      have HC := Lib.hid hch
      clear hA hch
      by_cases hlt : k < n - x0
      · obtain ⟨i, hi⟩ : ∃ i, x0 + k = i := ⟨_, rfl⟩
        obtain ⟨s, hsx⟩ : ∃ s, p[i]? = some s := ⟨_, List.getElem?_eq_getElem (by rw [hL.out]; omega)⟩
        obtain ⟨ad, Ai, ci, rfl, hab, c0, c1, c2, c3⟩ := Rr.out i _ hsx
        have HN := Lib.hid (arrW_next (k := k) (x := x0) (by rw [hi]; exact hsx))
        have HP := Lib.hid (parts_ne HOK.out hsx)
        have HB := Lib.hid (arrW_top HOK.out x0 k (by rw [hL.out]; omega))
        have hlen := arrW_len p x0 k
        rw [hL.out] at hlen
        have HS := Lib.hid hsx
        have hin : i < n := by omega
        rw [hi] at HN
        rw [hi]
        clear hsx c0 c1 c2 c3
        obtain ⟨m, hm⟩ : ∃ m, s.2.2.length = m := ⟨_, rfl⟩
        have hm12 : m ≤ 12 := by rw [← hm]; exact ok_many HOK.out HS.out
        have HM := Lib.hid hm
        clear hm
        obtain ⟨a, ha⟩ : ∃ a, arrW p x0 k = a := ⟨_, rfl⟩
        rw [ha] at HA HN HB hlen
        clear ha
        go_wp2_with fail
        obtain ⟨wo, rfl⟩ : ∃ wo, wo = wr := ⟨_, rfl⟩
        have lo2 := HC.out.size
        have hgl : g < wo.heap.size := by omega
        go_loopw [10] (fun j' wr => ∃ j : Nat, j ≤ m ∧ j' = .int .i64 j ∧ Arr wr g n (addP a s.2.2 (getI a i) j) ∧ Chg (fun b => b = g) wo wr) (fun j' _ => m - (intOf j').toNat)
        case atStart => exact ⟨0, Nat.zero_le _, rfl, by rw [addP_zero]; exact HA.out, Chg.refl _ _⟩
        case round =>
          obtain ⟨j, hj, rfl, hA, hch⟩ := hrel
          have HA2 := Lib.hid hA
          have zr2 : wr.cell? ⟨w.heap.size, 0, none⟩ = some (.slice (some ad) n c) := (hch.cell (p := ⟨w.heap.size, 0, none⟩) (by show w.heap.size < wo.heap.size; omega) (by show ¬ w.heap.size = g; omega)).trans zr
          have R3 := Lib.hid (rdE_chg Rr.out hch (by omega) (fun b hb => by omega))
          obtain ⟨ad2, Ai2, ci2, e0, _, d0, d1, d2, d3⟩ := R3.out i _ HS.out
          obtain rfl : ad = ad2 := by simpa using e0
          have D3 := Lib.hid d3
          rw [HM.out] at d2
          clear e0 d3
          have HC2 := Lib.hid hch
          clear hA hch
          by_cases hjl : j < m
          · obtain ⟨z, hz⟩ : ∃ z, s.2.2[j]? = some z := ⟨_, List.getElem?_eq_getElem (by rw [HM.out]; exact hjl)⟩
            obtain ⟨q, rfl, hq1, hq2⟩ := ok_part HOK.out HS.out hz
            rw [hL.out] at hq2
            obtain ⟨ad', rfl, hab', d4⟩ := D3.out j _ hz
            obtain ⟨e1, e2⟩ := HA2.out.at hin
            rw [addP_self a s.2.2 _ i HP.out j] at e1
            obtain ⟨e3, e4⟩ := HA2.out.at hq2
            have hN := Lib.hid (addP_next (a := a) (z := getI a i) hz)
            rw [Int.toNat_natCast] at hN
            have hb1 := HB.out i
            have hb2 := addP_in (ps := s.2.2) HB.out hb1.1 hb1.2 j q
            have hb3 : (j : Int) * getI a i ≤ 12 * 23298085122481 := Int.mul_le_mul (by omega) hb1.2 hb1.1 (by omega)
            have HAd : Hid (Arr wr.drew g n (addP a s.2.2 (getI a i) j)) := Lib.hid (HA2.out.chg (chg_drew (Chg.refl (fun _ => False) _)) (fun h => h))
            have HC3 := Lib.hid (chg_drew HC2.out)
            clear hz HA2 HC2
            generalize (j : Int) * getI a i = bz at *
            generalize addP a s.2.2 (getI a i) j = b at *
            generalize getI a i = zi at *
            generalize hzq : getI b q = zq at *
            have HZQ := Lib.hid hzq
            clear hzq
            go_wp2_with fail
            refine wp_region_still_tail 28 (by kernel_rfl) (by kernel_rfl) ?_
            simp only [List.take_succ_cons, List.take_zero, List.drop_succ_cons, List.drop_zero]
            change wpStill _ _ wr.drew _ _ _
            have e1' : wr.drew.cell? ⟨g, i, none⟩ = some (.int .i64 zi) := e1
            have e2' : wr.drew.frozen? ⟨g, q, none⟩ = false := e4
            have e3' : wr.drew.cell? ⟨g, q, none⟩ = some (.int .i64 zq) := e3
            have zr2' : wr.drew.cell? ⟨w.heap.size, 0, none⟩ = some (.slice (some ad) n c) := zr2
            have d2' : wr.drew.cell? ⟨(ad.add (i * 3)).block, (ad.add (i * 3)).off + 2, none⟩ = some (.slice (some ad') m ci2) := d2
            have d4' : wr.drew.cell? (ad'.add j) = some (.int .i64 (q : Int)) := d4
            repeat still_step
            refine wpStill_nil ?_
            change wpList _ _ _ _ _ wr.drew
            clear e1 e2 e3 e4 zr2 zr2' d2 d2' d4 d4' d0 d1
            generalize wr.drew = w4 at *
            go_wp2_with fail
            go_roundw
            case rel =>
              refine ⟨j + 1, by omega, by go_num, ?_, HC3.out.put ⟨g, q, none⟩ _ (.inr rfl)⟩
              rw [hN.out]
              exact HAd.out.set q _
            case measure => simp [intOf]; omega
          · obtain rfl : j = m := by omega
            have E5 : Hid (arrW p x0 (k + 1) = addP a s.2.2 (getI a i) j) := Lib.hid (by rw [HN.out, HM.out])
            go_wp2_with fail
            go_roundw
            case rel => exact ⟨k + 1, by omega, by go_num, by rw [E5.out]; exact HA2.out, HC.out.trans HC2.out (fun _ _ h => h)⟩
            case measure => simp [intOf]; omega
      · obtain rfl : k = n - x0 := by omega
        rw [show x0 + (n - x0) = n by omega]
        obtain ⟨e1, e2⟩ := HA.out.at hyn
        go_wp2_with fail
        go_ret2
        rw [hs.out]
        exact ⟨by rw [hsw.out]; rfl, BB2.out.trans (HC.out.below (by have := BB2.out.size; omega) (fun b hb => by omega))⟩
end Go.Proofs.Ytkjgibhckcdneaa.ErW
