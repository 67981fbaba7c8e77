/- impl.DepthOf and spec.DepthOf return how deep an error is. -/
import Derived.Test.YtkjgibhckcdneaaErun
import Derived.Test.YtkjgibhckcdneaaErdp
import Derived.StillTailTactics
namespace Go.Proofs.Ytkjgibhckcdneaa.ErD
set_option linter.unusedVariables false
set_option linter.unusedSimpArgs false
open Go.ChangeShapes Go.WideShapes Go.ChangeAt Go.RowKit
open Mem IntsP ErP ErM ErT ErA ErU

theorem rdI_chg {C : Nat → Prop} {w w' : World} {B : Nat} {A : Option Addr} {xs : List Int} (h : RdI w B A xs) (hb : Chg C w w') (hB : B ≤ w.heap.size) (hC : ∀ k, k < B → ¬ C k) : RdI w' B A xs :=
  h.keep fun p hp => hb.cell (by omega) (hC _ hp)
theorem rdE_chg {C : Nat → Prop} {w w' : World} {B : Nat} {A : Option Addr} {e : Er} (h : RdE w B A e) (hb : Chg C w w') (hB : B ≤ w.heap.size) (hC : ∀ k, k < B → ¬ C k) : RdE w' B A e :=
  h.keep fun p hp => hb.cell (by omega) (hC _ hp)
/-- An array of integers of one's own in a block that is known. -/
def Arr (w : World) (g n : Nat) (a : List Int) : Prop := a.length = n ∧ w.ownsRow g 3 1 (.slice (some ⟨g, 0, none⟩) n n) n (cellsI a)
theorem Arr.at {w : World} {g n : Nat} {a : List Int} (h : Arr w g n a) {i : Nat} (hi : i < n) : w.cell? ⟨g, i, none⟩ = some (.int .i64 (getI a i)) ∧ w.frozen? ⟨g, i, none⟩ = false :=
  ⟨(h.2.cellAt _ (by omega)).trans (cellsI_at a i _ (getI_get (by rw [h.1]; exact hi))), h.2.frozenAt _⟩
theorem Arr.set {w : World} {g n : Nat} {a : List Int} (h : Arr w g n a) (i : Nat) (z : Int) : Arr (w.setCell ⟨g, i, none⟩ (.int .i64 z)) g n (a.set i z) := ⟨by rw [List.length_set]; exact h.1, own_setI h.2 i z⟩
theorem Arr.chg {C : Nat → Prop} {w w' : World} {g n : Nat} {a : List Int} (h : Arr w g n a) (hb : Chg C w w') (hC : ¬ C g) : Arr w' g n a := by
  refine ⟨h.1, own_chg h.2 hb (fun k hk hc => ?_)⟩
  have e : g = k := by simpa [Value.ownBlock] using hk
  subst e
  exact hC hc
theorem Arr.new {w : World} {n : Nat} (hn : n ≤ 2000000) : Arr (w.alloc (.cells (madeCells #[Value.int .i64 0] n) 3)) w.heap.size n (List.replicate n 0) := by
  refine ⟨by simp, ?_⟩
  have := World.ownsRow_lit (base := w.heap.size) (e := 3) (size := 1) w (madeCells #[Value.int .i64 0] (n * 1)) n (Nat.le_refl _) (by unfold maxLen; omega) (size_madeCells _ _)
  rw [madeI, Nat.mul_one] at this
  exact this
theorem chg_drew {C : Nat → Prop} {a b : World} (h : Chg C a b) : Chg C a b.drew := ⟨h.os, h.tape, h.output, h.size, h.block⟩
theorem l1Most_any (a b : Int) (w : World) : Calls Try.prog 55 #[.int .i64 a, .int .i64 b] w fun e w' => e = .returned (.int .i64 (max a b)) ∧ w = w' := by
  by_cases h : b < a
  · have hs := Lib.hid (show max a b = a by omega)
    go_enter Try.func55, Try.ntmps55
    go_wp2
    go_ret
    exact ⟨by rw [hs.out]; rfl, rfl⟩
  · have hs := Lib.hid (show max a b = b by omega)
    go_enter Try.func55, Try.ntmps55
    go_wp2
    go_ret
    exact ⟨by rw [hs.out]; rfl, rfl⟩

set_option maxRecDepth 100000 in
set_option maxHeartbeats 4000000 in
theorem depI_any (lo n c : Nat) (A : Option Addr) (p : Er) (x : Int) (hn : n ≤ 2000000) (hl : p.length = n) (hsm : SmallE p 2000000) (w : World) (ho : OwnE w lo (.slice A n c) p) :
    Calls Try.prog 26 #[.agg #[.slice A n c], .int .i64 x] w (NumR (depthR p x) w) := by
  have hF := Lib.hid (fun w hr hB => isErrorOf_any w.heap.size A n c p x (by omega) hl (hsm.mono (by omega)) w hr hB)
  have b1 : ∀ o : Obj, Below w.heap.size w (w.alloc o) := fun o => (Below.refl _ _).alloc (Nat.le_refl _) _
  have B1 := Lib.hid b1
  have hO := Lib.hid ho
  have hL := Lib.hid hl
  clear ho hl b1
  cases hfn : oneE p x with
  | false =>
    have hs := Lib.hid (show depthR p x = (0, false) by unfold depthR; rw [hfn]; rfl)
    rw [hfn] at hF
    clear hfn
    go_enter Try.func26, Try.ntmps26
    go_wp2_with fail
    refine (hF.out _ (hO.out.below (B1.out _)).rd (Nat.le_refl _)).mono ?_
    rintro e w1 ⟨rfl, b⟩
    have bb := Lib.hid ((B1.out (.cells #[.slice A n c] 29)).trans (b.mono (by simp)))
    go_wp2_with fail
    go_ret2
    rw [hs.out]
    exact ⟨rfl, bb.out⟩
  | true =>
    obtain ⟨x0, sx, rfl, hxn, hxx, hok, hn12⟩ := oneE_at hfn
    have hs := Lib.hid (show depthR p x0 = (getI (arrD p (n - x0)) x0, true) by unfold depthR; rw [hfn, Int.toNat_natCast, hL.out]; rfl)
    rw [hfn] at hF
    have HOK := Lib.hid hok
    rw [hL.out] at hxn hn12
    have hRd := Lib.hid hO.out.rd
    obtain ⟨i0, hi, hz0, hz1, hz2⟩ := info_parts info3
    have hmk := fun W => run_make_rowN (P := Try.prog) 33 3 i0 _ Try.underlying33 hi hz0 .i64 .i64 n n (Nat.le_refl _) (by rw [hz2]; omega) (by omega) W
    rw [hz1] at hmk
    clear hfn hxx hok hi hz0 hz2 hsm
    go_enter Try.func26, Try.ntmps26
    go_wp2_with fail
    refine (hF.out _ (hO.out.below (B1.out _)).rd (Nat.le_refl _)).mono ?_
    rintro e w1 ⟨rfl, b⟩
    have z0 : w1.cell? ⟨w.heap.size, 0, none⟩ = some (.slice A n c) := (b.cell (p := ⟨w.heap.size, 0, none⟩) (by simp)).trans (by simp [go_sem])
    have s1 : w.heap.size < w1.heap.size := by have := b.size; simp at this; omega
    have bb := Lib.hid ((B1.out (.cells #[.slice A n c] 29)).trans (b.mono (by simp)))
    clear b
    go_wp2_with fail
    obtain ⟨g, hg⟩ : ∃ g, w1.heap.size = g := ⟨_, rfl⟩
    obtain ⟨w2, hw2⟩ : ∃ w2, w1.alloc (.cells (madeCells #[Value.int .i64 0] n) 3) = w2 := ⟨_, rfl⟩
    have hA : Arr w2 g n (arrD p 0) := by rw [← hw2, ← hg]; have := Arr.new (w := w1) (n := n) hn; unfold arrD; rw [hL.out]; exact this
    have bb2 : Below w.heap.size w w2 := by rw [← hw2]; exact bb.out.alloc (by omega) _
    have z2 : w2.cell? ⟨w.heap.size, 0, none⟩ = some (.slice A n c) := by rw [← hw2]; exact (World.cell?_alloc_lt w1 _ ⟨w.heap.size, 0, none⟩ s1).trans z0
    have l2 : g < w2.heap.size := by rw [← hw2, ← hg]; simp
    have R2 := Lib.hid (hRd.out.below bb2)
    rw [hw2, hg]
    have HA := Lib.hid hA
    have BB2 := Lib.hid bb2
    rw [hg] at s1
    clear hw2 hg z0 hA bb2 bb
    go_loopw [7] (fun i wr => ∃ k : Nat, k ≤ n - x0 ∧ i = .int .i64 ((n : Int) - 1 - k) ∧ Arr wr g n (arrD p k) ∧ Chg (fun b => b = g) w2 wr) (fun i _ => (intOf i + 1 - x0).toNat)
    case atStart => exact ⟨0, Nat.zero_le _, by simp, HA.out, Chg.refl _ _⟩
    case round =>
      obtain ⟨k, hk, rfl, hA, hch⟩ := hrel
      have HA := Lib.hid hA
      have zr : wr.cell? ⟨w.heap.size, 0, none⟩ = some (.slice A n c) := (hch.cell (p := ⟨w.heap.size, 0, none⟩) (by show w.heap.size < w2.heap.size; omega) (by show ¬ w.heap.size = g; omega)).trans z2
      have Rr := Lib.hid (rdE_chg R2.out hch (by omega) (fun b hb => by omega))
      have HC := Lib.hid hch
      clear hA hch
      by_cases hlt : k < n - x0
      · obtain ⟨i, hi⟩ : ∃ i : Nat, i + (k + 1) = n := ⟨n - (k + 1), by omega⟩
        rw [show (n : Int) - 1 - k = i by omega]
        obtain ⟨s, hsx⟩ : ∃ s, p[i]? = some s := ⟨_, List.getElem?_eq_getElem (by rw [hL.out]; omega)⟩
        obtain ⟨ad, Ai, ci, rfl, hab, c0, c1, c2, c3⟩ := Rr.out i _ hsx
        have HS := Lib.hid hsx
        have C3 := Lib.hid c3
        clear hsx c3
        go_wp2_with fail
        obtain ⟨wo, rfl⟩ : ∃ wo, wo = wr := ⟨_, rfl⟩
        obtain ⟨m, hm⟩ : ∃ m, s.2.2.length = m := ⟨_, rfl⟩
        have hm12 : m ≤ 12 := by rw [← hm]; exact ok_many HOK.out HS.out
        have HM := Lib.hid hm
        rw [hm]
        have lo2 := HC.out.size
        have hgl : g < wo.heap.size := by omega
        have hin : i < n := by omega
        clear hm
        go_loopw [34] (fun j' wr => ∃ j : Nat, j ≤ m ∧ j' = .int .i64 j ∧ Arr wr g n ((arrD p k).set i (mx (arrD p k) s.2.2 j)) ∧ Chg (fun b => b = g) wo wr) (fun j' _ => m - (intOf j').toNat)
        case atStart =>
          refine ⟨0, Nat.zero_le _, rfl, ?_, Chg.refl _ _⟩
          have e0 := set_getI (arrD p k) i
          rw [arrD_low p k i (by rw [hL.out]; omega)] at e0
          rw [mx_zero, e0]
          exact HA.out
        case round =>
          obtain ⟨j, hj, rfl, hA, hch⟩ := hrel
          have HA2 := Lib.hid hA
          have zr2 : wr.cell? ⟨w.heap.size, 0, none⟩ = some (.slice (some ad) n c) := (hch.cell (p := ⟨w.heap.size, 0, none⟩) (by show w.heap.size < wo.heap.size; omega) (by show ¬ w.heap.size = g; omega)).trans zr
          have R3 := Lib.hid (rdI_chg C3.out hch (by omega) (fun b hb => by omega))
          have HC2 := Lib.hid hch
          clear hA hch
          have hil : i < (arrD p k).length := by rw [arrD_len, hL.out]; omega
          obtain ⟨e1, e2⟩ := HA2.out.at (i := i) (by omega)
          rw [getI_set hil] at e1
          by_cases hjl : j < m
          · obtain ⟨z, hz⟩ : ∃ z, s.2.2[j]? = some z := ⟨_, List.getElem?_eq_getElem (by rw [HM.out]; exact hjl)⟩
            obtain ⟨q, rfl, hq1, hq2⟩ := ok_part HOK.out HS.out hz
            rw [hL.out] at hq2
            obtain ⟨ad', rfl, hab', d0⟩ := R3.out j _ hz
            obtain ⟨e3, e4⟩ := HA2.out.at hq2
            rw [getI_set_ne (by omega)] at e3
            have hN := Lib.hid (mx_next (a := arrD p k) hz)
            rw [Int.toNat_natCast] at hN
            have HAd : Hid (Arr wr.drew g n ((arrD p k).set i (mx (arrD p k) s.2.2 j))) := Lib.hid (HA2.out.chg (chg_drew (Chg.refl (fun _ => False) _)) (fun h => h))
            have HC3 := Lib.hid (chg_drew HC2.out)
            clear hz HA2 HC2
            generalize mx (arrD p k) s.2.2 j = mj at *
            generalize getI (arrD p k) q = mq at *
            go_wp2_with fail
            refine wp_region_still_tail 12 (by kernel_rfl) (by kernel_rfl) ?_
            simp only [List.take_succ_cons, List.take_zero, List.drop_succ_cons, List.drop_zero]
            change wpStill _ _ wr.drew _ _ _
            have e1' : wr.drew.cell? ⟨g, i, none⟩ = some (.int .i64 mj) := e1
            have e2' : wr.drew.frozen? ⟨g, i, none⟩ = false := e2
            have e3' : wr.drew.cell? ⟨g, q, none⟩ = some (.int .i64 mq) := e3
            repeat still_step
            refine wpStill_nil ?_
            change wpList _ _ _ _ _ wr.drew
            clear e1 e2 e3 e4 zr2
            generalize wr.drew = w4 at *
            go_wp2_with fail
            all_goals
              go_roundw
              case rel =>
                refine ⟨j + 1, by omega, by go_num, ?_, HC3.out.put ⟨g, i, none⟩ _ (.inr rfl)⟩
                have hz : ∀ z, max mj mq = z → Arr (w4.setCell ⟨g, i, none⟩ (.int .i64 z)) g n ((arrD p k).set i (mx (arrD p k) s.2.2 (j + 1))) := fun z hz => by
                  have h := HAd.out.set i z
                  rw [List.set_set] at h
                  rw [hN.out, hz]
                  exact h
                exact hz _ (by omega)
              case measure => simp [intOf]; omega
          · obtain rfl : j = m := by omega
            have e5 : (arrD p (k + 1)) = ((arrD p k).set i (mx (arrD p k) s.2.2 j)).set i (mx (arrD p k) s.2.2 j + 1) := by
              rw [List.set_set, arrD_next (by rw [hL.out]; exact hi) HS.out, HM.out, Int.add_comm]
            have E5 := Lib.hid e5
            have hbd := mx_in (ps := s.2.2) (arrD_in p k) (by omega) j
            clear e5
            generalize hmj : mx (arrD p k) s.2.2 j = mj at *
            clear hmj
            go_wp2_with fail
            go_roundw
            case rel => exact ⟨k + 1, by omega, by go_num, by rw [E5.out]; exact HA2.out.set i (mj + 1), (HC.out.trans HC2.out (fun _ _ h => h)).put ⟨g, i, none⟩ _ (.inr rfl)⟩
            case measure => simp [intOf]; omega
      · obtain rfl : k = n - x0 := by omega
        obtain ⟨e1, e2⟩ := HA.out.at hxn
        go_wp2_with fail
        go_ret2
        rw [hs.out]
        exact ⟨rfl, BB2.out.trans (HC.out.below (by have := BB2.out.size; omega) (fun b hb => by omega))⟩
set_option maxRecDepth 100000 in
set_option maxHeartbeats 4000000 in
theorem depS_any (lo n c : Nat) (A : Option Addr) (p : Er) (x : Int) (hn : n ≤ 2000000) (hl : p.length = n) (hsm : SmallE p 2000000) (w : World) (ho : OwnE w lo (.slice A n c) p) :
    Calls Try.prog 25 #[.agg #[.slice A n c], .int .i64 x] w (NumR (depthR p x) w) := by
  have hF := Lib.hid (fun w hr hB => l6One_any w.heap.size A n c p x (by omega) hl (hsm.mono (by omega)) w hr hB)
  have b1 : ∀ o : Obj, Below w.heap.size w (w.alloc o) := fun o => (Below.refl _ _).alloc (Nat.le_refl _) _
  have B1 := Lib.hid b1
  have hO := Lib.hid ho
  have hL := Lib.hid hl
  clear ho hl b1
  cases hfn : oneE p x with
  | false =>
    have hs := Lib.hid (show depthR p x = (0, false) by unfold depthR; rw [hfn]; rfl)
    rw [hfn] at hF
    clear hfn
    go_enter Try.func25, Try.ntmps25
    go_wp2_with fail
    refine (hF.out _ (hO.out.below (B1.out _)).rd (Nat.le_refl _)).mono ?_
    rintro e w1 ⟨rfl, b⟩
    have bb := Lib.hid ((B1.out (.cells #[.slice A n c] 29)).trans (b.mono (by simp)))
    go_wp2_with fail
    go_ret2
    rw [hs.out]
    exact ⟨rfl, bb.out⟩
  | true =>
    obtain ⟨x0, sx, rfl, hxn, hxx, hok, hn12⟩ := oneE_at hfn
    have hs := Lib.hid (show depthR p x0 = (getI (arrD p (n - x0)) x0, true) by unfold depthR; rw [hfn, Int.toNat_natCast, hL.out]; rfl)
    rw [hfn] at hF
    have HOK := Lib.hid hok
    rw [hL.out] at hxn hn12
    have hRd := Lib.hid hO.out.rd
    obtain ⟨i0, hi, hz0, hz1, hz2⟩ := info_parts info3
    have hmk := fun W => run_make_rowN (P := Try.prog) 33 3 i0 _ Try.underlying33 hi hz0 .i64 .i64 n n (Nat.le_refl _) (by rw [hz2]; omega) (by omega) W
    rw [hz1] at hmk
    clear hfn hxx hok hi hz0 hz2 hsm
    go_enter Try.func25, Try.ntmps25
    go_wp2_with fail
    refine (hF.out _ (hO.out.below (B1.out _)).rd (Nat.le_refl _)).mono ?_
    rintro e w1 ⟨rfl, b⟩
    have z0 : w1.cell? ⟨w.heap.size, 0, none⟩ = some (.slice A n c) := (b.cell (p := ⟨w.heap.size, 0, none⟩) (by simp)).trans (by simp [go_sem])
    have s1 : w.heap.size < w1.heap.size := by have := b.size; simp at this; omega
    have bb := Lib.hid ((B1.out (.cells #[.slice A n c] 29)).trans (b.mono (by simp)))
    clear b
    go_wp2_with fail
    obtain ⟨g, hg⟩ : ∃ g, w1.heap.size = g := ⟨_, rfl⟩
    obtain ⟨w2, hw2⟩ : ∃ w2, w1.alloc (.cells (madeCells #[Value.int .i64 0] n) 3) = w2 := ⟨_, rfl⟩
    have hA : Arr w2 g n (arrD p 0) := by rw [← hw2, ← hg]; have := Arr.new (w := w1) (n := n) hn; unfold arrD; rw [hL.out]; exact this
    have bb2 : Below w.heap.size w w2 := by rw [← hw2]; exact bb.out.alloc (by omega) _
    have z2 : w2.cell? ⟨w.heap.size, 0, none⟩ = some (.slice A n c) := by rw [← hw2]; exact (World.cell?_alloc_lt w1 _ ⟨w.heap.size, 0, none⟩ s1).trans z0
    have l2 : g < w2.heap.size := by rw [← hw2, ← hg]; simp
    have R2 := Lib.hid (hRd.out.below bb2)
    rw [hw2, hg]
    have HA := Lib.hid hA
    have BB2 := Lib.hid bb2
    rw [hg] at s1
    clear hw2 hg z0 hA bb2 bb
    go_loopw [7] (fun i wr => ∃ k : Nat, k ≤ n ∧ i = .int .i64 ((n : Int) - 1 - k) ∧ Arr wr g n (arrD p k) ∧ Chg (fun b => b = g) w2 wr) (fun i _ => (intOf i + 1).toNat)
    case atStart => exact ⟨0, Nat.zero_le _, by simp, HA.out, Chg.refl _ _⟩
    case round =>
      obtain ⟨k, hk, rfl, hA, hch⟩ := hrel
      have HA := Lib.hid hA
      have zr : wr.cell? ⟨w.heap.size, 0, none⟩ = some (.slice A n c) := (hch.cell (p := ⟨w.heap.size, 0, none⟩) (by show w.heap.size < w2.heap.size; omega) (by show ¬ w.heap.size = g; omega)).trans z2
      have Rr := Lib.hid (rdE_chg R2.out hch (by omega) (fun b hb => by omega))
      have HC := Lib.hid hch
      clear hA hch
      by_cases hlt : k < n
      · obtain ⟨i, hi⟩ : ∃ i : Nat, i + (k + 1) = n := ⟨n - (k + 1), by omega⟩
        rw [show (n : Int) - 1 - k = i by omega]
        obtain ⟨s, hsx⟩ : ∃ s, p[i]? = some s := ⟨_, List.getElem?_eq_getElem (by rw [hL.out]; omega)⟩
        obtain ⟨ad, Ai, ci, rfl, hab, c0, c1, c2, c3⟩ := Rr.out i _ hsx
        have HS := Lib.hid hsx
        have C3 := Lib.hid c3
        clear hsx c3
        have hin : i < n := by omega
        obtain ⟨e1, e2⟩ := HA.out.at hin
        have hil : i < (arrD p k).length := by rw [arrD_len, hL.out]; omega
        obtain ⟨m, hm⟩ : ∃ m, s.2.2.length = m := ⟨_, rfl⟩
        have hm12 : m ≤ 12 := by rw [← hm]; exact ok_many HOK.out HS.out
        have HM := Lib.hid hm
        rw [hm] at c2
        have lo2 := HC.out.size
        clear hm
        go_wp2_with fail
        obtain ⟨wo, hwo⟩ : ∃ wo, wr.setCell ⟨g, i, none⟩ (.int .i64 1) = wo := ⟨_, rfl⟩
        have hco : Chg (fun b => b = g) wr wo := by rw [← hwo]; exact (Chg.refl _ wr).put ⟨g, i, none⟩ _ (.inr rfl)
        have hAo : Arr wo g n ((arrD p k).set i (1 + mx (arrD p k) s.2.2 0)) := by rw [← hwo, mx_zero]; exact HA.out.set i 1
        have HCo := Lib.hid hco
        have HAo := Lib.hid hAo
        have szo := hco.size
        have Ro := Lib.hid (rdE_chg Rr.out hco (by omega) (fun b hb => by omega))
        have zo : wo.cell? ⟨w.heap.size, 0, none⟩ = some (.slice (some ad) n c) := (hco.cell (p := ⟨w.heap.size, 0, none⟩) (by show w.heap.size < wr.heap.size; omega) (by show ¬ w.heap.size = g; omega)).trans zr
        rw [hwo]
        clear hwo hco hAo c0 c1 c2 C3 e1 e2 zr
        go_loopw [8] (fun j' wr => ∃ j : Nat, j ≤ m ∧ j' = .int .i64 j ∧ Arr wr g n ((arrD p k).set i (1 + mx (arrD p k) s.2.2 j)) ∧ Chg (fun b => b = g) wo wr) (fun j' _ => m - (intOf j').toNat)
        case atStart => exact ⟨0, Nat.zero_le _, rfl, HAo.out, Chg.refl _ _⟩
        case round =>
          obtain ⟨j, hj, rfl, hA, hch⟩ := hrel
          have HA2 := Lib.hid hA
          have zr2 : wr.cell? ⟨w.heap.size, 0, none⟩ = some (.slice (some ad) n c) := (hch.cell (p := ⟨w.heap.size, 0, none⟩) (by show w.heap.size < wo.heap.size; omega) (by show ¬ w.heap.size = g; omega)).trans zo
          have R3 := Lib.hid (rdE_chg Ro.out hch (by omega) (fun b hb => by omega))
          have HC2 := Lib.hid hch
          obtain ⟨ad2, Ai2, ci2, e0, _, d0, d1, d2, d3⟩ := R3.out i _ HS.out
          obtain rfl : ad = ad2 := by simpa using e0
          have D3 := Lib.hid d3
          rw [HM.out] at d2
          clear hA hch e0 d3
          obtain ⟨e1, e2⟩ := HA2.out.at (i := i) (by omega)
          rw [getI_set hil] at e1
          by_cases hjl : j < m
          · obtain ⟨z, hz⟩ : ∃ z, s.2.2[j]? = some z := ⟨_, List.getElem?_eq_getElem (by rw [HM.out]; exact hjl)⟩
            obtain ⟨q, rfl, hq1, hq2⟩ := ok_part HOK.out HS.out hz
            rw [hL.out] at hq2
            obtain ⟨ad', rfl, hab', d4⟩ := D3.out j _ hz
            obtain ⟨e3, e4⟩ := HA2.out.at hq2
            rw [getI_set_ne (by omega)] at e3
            have hN := Lib.hid (mx_next (a := arrD p k) hz)
            rw [Int.toNat_natCast] at hN
            have hbq := arrD_in p k q
            have HAd : Hid (Arr wr.drew g n ((arrD p k).set i (1 + mx (arrD p k) s.2.2 j))) := Lib.hid (HA2.out.chg (chg_drew (Chg.refl (fun _ => False) _)) (fun h => h))
            have HC3 := Lib.hid (chg_drew HC2.out)
            clear hz HA2 HC2
            generalize mx (arrD p k) s.2.2 j = mj at *
            generalize getI (arrD p k) q = mq at *
            go_wp2_with fail
            refine wp_region_still_tail 21 (by kernel_rfl) (by kernel_rfl) ?_
            simp only [List.take_succ_cons, List.take_zero, List.drop_succ_cons, List.drop_zero]
            change wpStill _ _ wr.drew _ _ _
            have e1' : wr.drew.cell? ⟨g, i, none⟩ = some (.int .i64 (1 + mj)) := e1
            have e2' : wr.drew.frozen? ⟨g, i, none⟩ = false := e2
            have e3' : wr.drew.cell? ⟨g, q, none⟩ = some (.int .i64 mq) := e3
            have zr2' : wr.drew.cell? ⟨w.heap.size, 0, none⟩ = some (.slice (some ad) n c) := zr2
            have d2' : wr.drew.cell? ⟨(ad.add (i * 3)).block, (ad.add (i * 3)).off + 2, none⟩ = some (.slice (some ad') m ci2) := d2
            have d4' : wr.drew.cell? (ad'.add j) = some (.int .i64 (q : Int)) := d4
            repeat still_step
            still_call ((l1Most_any _ _ _).mono (fun e w' h => ⟨h.1, h.2.symm⟩))
            repeat still_step
            refine wpStill_nil ?_
            change wpList _ _ _ _ _ wr.drew
            clear e1 e2 e3 e4 zr2 zr2' d2 d2' d4 d4' d0 d1
            generalize wr.drew = w4 at *
            have hz : ∀ z, max (1 + mj) (mq + 1) = z → Arr (w4.setCell ⟨g, i, none⟩ (.int .i64 z)) g n ((arrD p k).set i (1 + mx (arrD p k) s.2.2 (j + 1))) := fun z hz => by
              have h := HAd.out.set i z
              rw [List.set_set] at h
              rw [hN.out, show 1 + max mj mq = z by omega]
              exact h
            have HZ := Lib.hid hz
            clear hz
            go_wp2_with fail
            go_roundw
            case rel => exact ⟨j + 1, by omega, by go_num, HZ.out _ rfl, HC3.out.put ⟨g, i, none⟩ _ (.inr rfl)⟩
            case measure => simp [intOf]; omega
          · obtain rfl : j = m := by omega
            have e5 : (arrD p (k + 1)) = ((arrD p k).set i (1 + mx (arrD p k) s.2.2 j)) := by
              rw [arrD_next (by rw [hL.out]; exact hi) HS.out, HM.out]
            have E5 := Lib.hid e5
            clear e5
            go_wp2_with fail
            go_roundw
            case rel => exact ⟨k + 1, by omega, by go_num, by rw [E5.out]; exact HA2.out, ((HC.out.trans HCo.out (fun _ _ h => h)).trans HC2.out (fun _ _ h => h))⟩
            case measure => simp [intOf]
      · obtain rfl : k = n := by omega
        rw [show (k : Int) - 1 - k = -1 by omega]
        obtain ⟨e1, e2⟩ := HA.out.at hxn
        rw [show getI (arrD p k) x0 = getI (arrD p (k - x0)) x0 by
          have := arrD_keep p x0 (by rw [hL.out]; omega) k (by rw [hL.out]; omega) (by rw [hL.out]; exact Nat.le_refl _)
          rwa [hL.out] at this] at e1
        go_wp2_with fail
        go_ret2
        rw [hs.out]
        exact ⟨rfl, BB2.out.trans (HC.out.below (by have := BB2.out.size; omega) (fun b hb => by omega))⟩
end Go.Proofs.Ytkjgibhckcdneaa.ErD
