/- impl.AreAlike and spec.AreAlike tell whether two errors are alike. -/
import Derived.Test.YtkjgibhckcdneaaErsj
namespace Go.Proofs.Ytkjgibhckcdneaa.ErS
set_option linter.unusedVariables false
set_option linter.unusedSimpArgs false
open Go.ChangeShapes Go.WideShapes Go.ChangeAt Go.RowKit
open Mem IntsP ErP ErM ErT ErA ErU ErD ErW

set_option maxRecDepth 100000 in
set_option maxHeartbeats 2000000 in
theorem aliI_any (lo n c : Nat) (A : Option Addr) (p : Er) (x y : Int) (hn : n ≤ 2000000) (hl : p.length = n) (hsm : SmallE p 2000000) (w : World) (ho : OwnE w lo (.slice A n c) p) :
    Calls Try.prog 34 #[.agg #[.slice A n c], .int .i64 x, .int .i64 y] w (BoolR (alikeR p x y) w) := by
  have hF := Lib.hid (fun w hr hB => isErrorOf_any w.heap.size A n c p x (by omega) hl (hsm.mono (by omega)) w hr hB)
  have hG := Lib.hid (fun w hr hB => isErrorOf_any w.heap.size A n c p y (by omega) hl (hsm.mono (by omega)) w hr hB)
  have b1 : ∀ o : Obj, Below w.heap.size w (w.alloc o) := fun o => (Below.refl _ _).alloc (Nat.le_refl _) _
  have B1 := Lib.hid b1
  have hO := Lib.hid ho
  have hL := Lib.hid hl
  clear ho hl b1
  cases hfx : oneE p x with
  | false =>
    have hs := Lib.hid (show alikeR p x y = (false, false) by unfold alikeR; rw [hfx]; rfl)
    rw [hfx] at hF
    clear hfx
    go_enter Try.func34, Try.ntmps34
    go_wp2_with fail
    refine (hF.out _ (hO.out.below (B1.out _)).rd (Nat.le_refl _)).mono ?_
    rintro e w1 ⟨rfl, b⟩
    have bb := Lib.hid ((B1.out (.cells #[.slice A n c] 29)).trans (b.mono (by simp)))
    go_wp2_with fail
    go_ret2
    rw [hs.out]
    exact ⟨rfl, bb.out⟩
  | true =>
  cases hfy : oneE p y with
  | false =>
    have hs := Lib.hid (show alikeR p x y = (false, false) by unfold alikeR; rw [hfx, hfy]; rfl)
    rw [hfx] at hF
    rw [hfy] at hG
    clear hfx hfy
    go_enter Try.func34, Try.ntmps34
    go_wp2_with fail
    refine (hF.out _ (hO.out.below (B1.out _)).rd (Nat.le_refl _)).mono ?_
    rintro e w1 ⟨rfl, b⟩
    have z0 : w1.cell? ⟨w.heap.size, 0, none⟩ = some (.slice A n c) := (b.cell (p := ⟨w.heap.size, 0, none⟩) (by simp)).trans (by simp [go_sem])
    have bb := Lib.hid ((B1.out (.cells #[.slice A n c] 29)).trans (b.mono (by simp)))
    clear b
    go_wp2_with fail
    refine (hG.out _ (hO.out.below bb.out).rd (Nat.le_refl _)).mono ?_
    rintro e w2 ⟨rfl, b2⟩
    have bb2 := Lib.hid (bb.out.trans (b2.mono bb.out.size))
    go_wp2_with fail
    go_ret2
    rw [hs.out]
    exact ⟨rfl, bb2.out⟩
  | true =>
    obtain ⟨x0, sx, rfl, hxn, hxx, hok, hn12⟩ := oneE_at hfx
    obtain ⟨y0, sy, rfl, hyn, hyy, _, _⟩ := oneE_at hfy
    have hs := Lib.hid (show alikeR p x0 y0 = (decide (getI (arrS p n) x0 = getI (arrS p n) y0), true) by unfold alikeR; rw [hfx, hfy, Int.toNat_natCast, Int.toNat_natCast, hL.out]; rfl)
    have hW := Lib.hid (fun W (hr : RdE W W.heap.size A p) => shapes_any n c A p hL.out hok W hr)
    rw [hfx] at hF
    rw [hfy] at hG
    rw [hL.out] at hyn hxn hn12
    clear hfx hfy hxx hyy hok
    go_enter Try.func34, Try.ntmps34
    go_wp2_with fail
    refine (hF.out _ (hO.out.below (B1.out _)).rd (Nat.le_refl _)).mono ?_
    rintro e w1 ⟨rfl, b⟩
    have z0 : w1.cell? ⟨w.heap.size, 0, none⟩ = some (.slice A n c) := (b.cell (p := ⟨w.heap.size, 0, none⟩) (by simp)).trans (by simp [go_sem])
    have bb := Lib.hid ((B1.out (.cells #[.slice A n c] 29)).trans (b.mono (by simp)))
    have l1 : w.heap.size < w1.heap.size := by have := b.size; simp at this; omega
    clear b
    go_wp2_with fail
    refine (hG.out _ (hO.out.below bb.out).rd (Nat.le_refl _)).mono ?_
    rintro e w2 ⟨rfl, b2⟩
    have z2 : w2.cell? ⟨w.heap.size, 0, none⟩ = some (.slice A n c) := (b2.cell (p := ⟨w.heap.size, 0, none⟩) l1).trans z0
    have bb2 := Lib.hid (bb.out.trans (b2.mono bb.out.size))
    clear b2 z0
    go_wp2_with fail
    refine (hW.out _ (hO.out.below bb2.out).rd).mono ?_
    rintro e w3 ⟨g, rfl, hg1, hg2, hA, b3⟩
    obtain ⟨e1, e2⟩ := hA.at hyn
    obtain ⟨e3, e4⟩ := hA.at hxn
    have bb3 := Lib.hid (bb2.out.trans (b3.mono bb2.out.size))
    clear hA b3 z2
    rw [← beqZ] at hs
    generalize getI (arrS p n) x0 = zx at *
    generalize getI (arrS p n) y0 = zy at *
    go_wp2_with fail
    refine wp_region_still_tail 9 (by kernel_rfl) (by kernel_rfl) ?_
    simp only [List.take_succ_cons, List.take_zero, List.drop_succ_cons, List.drop_zero]
    change wpStill _ _ w3.drew _ _ _
    have e1' : w3.drew.cell? ⟨g, y0, none⟩ = some (.int .i64 zy) := e1
    have e3' : w3.drew.cell? ⟨g, x0, none⟩ = some (.int .i64 zx) := e3
    repeat still_step
    refine wpStill_nil ?_
    change wpList _ _ _ _ _ w3.drew
    have bb4 := Lib.hid bb3.out.drew
    clear e1 e2 e3 e4 e1' e3'
    generalize w3.drew = w4 at *
    go_wp2_with fail
    go_ret2
    rw [hs.out]
    exact ⟨rfl, bb4.out⟩
set_option maxRecDepth 100000 in
set_option maxHeartbeats 2000000 in
theorem aliS_any (lo n c : Nat) (A : Option Addr) (p : Er) (x y : Int) (hn : n ≤ 2000000) (hl : p.length = n) (hsm : SmallE p 2000000) (w : World) (ho : OwnE w lo (.slice A n c) p) :
    Calls Try.prog 33 #[.agg #[.slice A n c], .int .i64 x, .int .i64 y] w (BoolR (alikeR p x y) w) := by
  have hF := Lib.hid (fun w hr hB => l6One_any w.heap.size A n c p x (by omega) hl (hsm.mono (by omega)) w hr hB)
  have hG := Lib.hid (fun w hr hB => l6One_any w.heap.size A n c p y (by omega) hl (hsm.mono (by omega)) w hr hB)
  have b1 : ∀ o : Obj, Below w.heap.size w (w.alloc o) := fun o => (Below.refl _ _).alloc (Nat.le_refl _) _
  have B1 := Lib.hid b1
  have hO := Lib.hid ho
  have hL := Lib.hid hl
  clear ho hl b1
  cases hfx : oneE p x with
  | false =>
    have hs := Lib.hid (show alikeR p x y = (false, false) by unfold alikeR; rw [hfx]; rfl)
    rw [hfx] at hF
    clear hfx
    go_enter Try.func33, Try.ntmps33
    go_wp2_with fail
    refine (hF.out _ (hO.out.below (B1.out _)).rd (Nat.le_refl _)).mono ?_
    rintro e w1 ⟨rfl, b⟩
    have bb := Lib.hid ((B1.out (.cells #[.slice A n c] 29)).trans (b.mono (by simp)))
    go_wp2_with fail
    go_ret2
    rw [hs.out]
    exact ⟨rfl, bb.out⟩
  | true =>
  cases hfy : oneE p y with
  | false =>
    have hs := Lib.hid (show alikeR p x y = (false, false) by unfold alikeR; rw [hfx, hfy]; rfl)
    rw [hfx] at hF
    rw [hfy] at hG
    clear hfx hfy
    go_enter Try.func33, Try.ntmps33
    go_wp2_with fail
    refine (hF.out _ (hO.out.below (B1.out _)).rd (Nat.le_refl _)).mono ?_
    rintro e w1 ⟨rfl, b⟩
    have z0 : w1.cell? ⟨w.heap.size, 0, none⟩ = some (.slice A n c) := (b.cell (p := ⟨w.heap.size, 0, none⟩) (by simp)).trans (by simp [go_sem])
    have bb := Lib.hid ((B1.out (.cells #[.slice A n c] 29)).trans (b.mono (by simp)))
    clear b
    go_wp2_with fail
    refine (hG.out _ (hO.out.below bb.out).rd (Nat.le_refl _)).mono ?_
    rintro e w2 ⟨rfl, b2⟩
    have bb2 := Lib.hid (bb.out.trans (b2.mono bb.out.size))
    go_wp2_with fail
    go_ret2
    rw [hs.out]
    exact ⟨rfl, bb2.out⟩
  | true =>
    obtain ⟨x0, sx, rfl, hxn, hxx, hok, hn12⟩ := oneE_at hfx
    obtain ⟨y0, sy, rfl, hyn, hyy, _, _⟩ := oneE_at hfy
    have hs := Lib.hid (show alikeR p x0 y0 = (decide (getI (arrS p n) x0 = getI (arrS p n) y0), true) by unfold alikeR; rw [hfx, hfy, Int.toNat_natCast, Int.toNat_natCast, hL.out]; rfl)
    have hW := Lib.hid (fun W (hr : RdE W W.heap.size A p) => classes_any n c A p hL.out hok W hr)
    rw [hfx] at hF
    rw [hfy] at hG
    rw [hL.out] at hyn hxn hn12
    clear hfx hfy hxx hyy hok
    go_enter Try.func33, Try.ntmps33
    go_wp2_with fail
    refine (hF.out _ (hO.out.below (B1.out _)).rd (Nat.le_refl _)).mono ?_
    rintro e w1 ⟨rfl, b⟩
    have z0 : w1.cell? ⟨w.heap.size, 0, none⟩ = some (.slice A n c) := (b.cell (p := ⟨w.heap.size, 0, none⟩) (by simp)).trans (by simp [go_sem])
    have bb := Lib.hid ((B1.out (.cells #[.slice A n c] 29)).trans (b.mono (by simp)))
    have l1 : w.heap.size < w1.heap.size := by have := b.size; simp at this; omega
    clear b
    go_wp2_with fail
    refine (hG.out _ (hO.out.below bb.out).rd (Nat.le_refl _)).mono ?_
    rintro e w2 ⟨rfl, b2⟩
    have z2 : w2.cell? ⟨w.heap.size, 0, none⟩ = some (.slice A n c) := (b2.cell (p := ⟨w.heap.size, 0, none⟩) l1).trans z0
    have bb2 := Lib.hid (bb.out.trans (b2.mono bb.out.size))
    clear b2 z0
    go_wp2_with fail
    refine (hW.out _ (hO.out.below bb2.out).rd).mono ?_
    rintro e w3 ⟨g, rfl, hg1, hg2, hA, b3⟩
    obtain ⟨e1, e2⟩ := hA.at hyn
    obtain ⟨e3, e4⟩ := hA.at hxn
    have bb3 := Lib.hid (bb2.out.trans (b3.mono bb2.out.size))
    clear hA b3 z2
    rw [← beqZ] at hs
    generalize getI (arrS p n) x0 = zx at *
    generalize getI (arrS p n) y0 = zy at *
    go_wp2_with fail
    refine wp_region_still_tail 9 (by kernel_rfl) (by kernel_rfl) ?_
    simp only [List.take_succ_cons, List.take_zero, List.drop_succ_cons, List.drop_zero]
    change wpStill _ _ w3.drew _ _ _
    have e1' : w3.drew.cell? ⟨g, y0, none⟩ = some (.int .i64 zy) := e1
    have e3' : w3.drew.cell? ⟨g, x0, none⟩ = some (.int .i64 zx) := e3
    repeat still_step
    refine wpStill_nil ?_
    change wpList _ _ _ _ _ w3.drew
    have bb4 := Lib.hid bb3.out.drew
    clear e1 e2 e3 e4 e1' e3'
    generalize w3.drew = w4 at *
    go_wp2_with fail
    go_ret2
    rw [hs.out]
    exact ⟨rfl, bb4.out⟩
end Go.Proofs.Ytkjgibhckcdneaa.ErS
