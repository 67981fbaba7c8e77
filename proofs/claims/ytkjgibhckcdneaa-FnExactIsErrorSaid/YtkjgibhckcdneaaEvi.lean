/- impl.IsError tells whether an error is another one. -/
import Derived.Test.YtkjgibhckcdneaaEvt
namespace Go.Proofs.Ytkjgibhckcdneaa.ErI
set_option linter.unusedVariables false
set_option linter.unusedSimpArgs false
open Go.ChangeShapes Go.WideShapes Go.ChangeAt Go.RowKit
open Mem IntsP ErP ErM ErT ErA ErU ErD ErW ErL ErF ErQ

theorem capE_of_own {w : World} {lo n c : Nat} {A : Option Addr} {e : Er} (h : OwnE w lo (.slice A n c) e) : CapE w A e := by
  obtain ⟨vals, hl, ho, hr, _⟩ := h
  intro i s ad Ai ci hx hA hcell
  have hi : i < e.length := (List.getElem?_eq_some_iff.1 hx).1
  obtain ⟨u, hu, hown⟩ := hr i s hx
  rcases own_form ho with ⟨h0, _⟩ | ⟨_, g, cap, hv, _, hg⟩
  · omega
  · have hv' := hv
    simp only [Value.slice.injEq, true_and] at hv
    obtain ⟨rfl, _⟩ := hv
    rw [hv'] at ho
    obtain ⟨c0, c1, c2⟩ := cellsN_at vals i _ hu
    obtain rfl : (⟨g, 0, none⟩ : Addr) = ad := by simpa using hA
    rw [add_own] at hcell
    have h2 : w.cell? ⟨g, i * 3 + 2, none⟩ = some u := by rw [ho.cellAt _ (by omega)]; exact c2
    have h3 : u = .slice Ai s.2.2.length ci := by
      have := h2.symm.trans hcell
      simpa using this
    rw [h3] at hown
    rcases hown.2 with ⟨h4, h5⟩ | ⟨g1, c1', cur, h4, _, _, h5, _⟩
    · omega
    · simp only [Value.slice.injEq] at h4
      omega
set_option maxRecDepth 100000 in
set_option maxHeartbeats 4000000 in
theorem isI_any (lo n c : Nat) (A : Option Addr) (p : Er) (x y : Int) (hn : n ≤ 2000000) (hl : p.length = n) (hsm : SmallE p 2000000) (w : World) (ho : OwnE w lo (.slice A n c) p) :
    Calls Try.prog 44 #[.agg #[.slice A n c], .int .i64 x, .int .i64 y] w (BoolR (isR p x y) w) := by
  have hF := Lib.hid (fun w hr hB => isErrorOf_any w.heap.size A n c p x (by omega) hl (hsm.mono (by omega)) w hr hB)
  have hG := Lib.hid (fun w hr hB => isErrorOf_any w.heap.size A n c p y (by omega) hl (hsm.mono (by omega)) w hr hB)
  have b1 : ∀ o : Obj, Below w.heap.size w (w.alloc o) := fun o => (Below.refl _ _).alloc (Nat.le_refl _) _
  have B1 := Lib.hid b1
  have hO := Lib.hid ho
  have hL := Lib.hid hl
  clear ho hl b1
  cases hfx : oneE p x with
  | false =>
    have hs := Lib.hid (show isR p x y = (false, false) by unfold isR; rw [hfx]; rfl)
    rw [hfx] at hF
    clear hfx
    go_enter Try.func44, Try.ntmps44
    go_wp2_with fail
    refine (hF.out _ (hO.out.below (B1.out _)).rd (Nat.le_refl _)).mono ?_
    rintro e w1 ⟨rfl, b⟩
    have bb := Lib.hid ((B1.out (.cells #[.slice A n c] 29)).trans (b.mono (by simp)))
    go_wp2_with fail
    go_ret2
    rw [hs.out]
    exact ⟨rfl, bb.out⟩
  | true =>
  cases hfy : oneE p y with
  | false =>
    have hs := Lib.hid (show isR p x y = (false, false) by unfold isR; rw [hfx, hfy]; rfl)
    rw [hfx] at hF
    rw [hfy] at hG
    clear hfx hfy
    go_enter Try.func44, Try.ntmps44
    go_wp2_with fail
    refine (hF.out _ (hO.out.below (B1.out _)).rd (Nat.le_refl _)).mono ?_
    rintro e w1 ⟨rfl, b⟩
    have z0 : w1.cell? ⟨w.heap.size, 0, none⟩ = some (.slice A n c) := (b.cell (p := ⟨w.heap.size, 0, none⟩) (by simp)).trans (by simp [go_sem])
    have bb := Lib.hid ((B1.out (.cells #[.slice A n c] 29)).trans (b.mono (by simp)))
    clear b
    go_wp2_with fail
    refine (hG.out _ (hO.out.below bb.out).rd (Nat.le_refl _)).mono ?_
    rintro e w2 ⟨rfl, b2⟩
    have bb2 := Lib.hid (bb.out.trans (b2.mono bb.out.size))
    go_wp2_with fail
    go_ret2
    rw [hs.out]
    exact ⟨rfl, bb2.out⟩
  | true =>
    obtain ⟨x0, sx, rfl, hxn, hxx, hok, hn12⟩ := oneE_at hfx
    obtain ⟨y0, sy, rfl, hyn, hyy, _, _⟩ := oneE_at hfy
    have hs := Lib.hid (show isR p x0 y0 = (hitN p y0 x0, true) by unfold isR; rw [hfx, hfy, Int.toNat_natCast, Int.toNat_natCast]; rfl)
    have HOK := Lib.hid hok
    have HXN := Lib.hid hxn
    have HYN := Lib.hid hyn
    have hW := Lib.hid (fun W (hr : RdE W W.heap.size A p) (hc : CapE W A p) => vs_any n c A p hok hL.out W hr hc)
    rw [hfx] at hF
    rw [hfy] at hG
    rw [hL.out] at hxn hyn
    have hn12' : n ≤ 12 := by rw [← hL.out]; exact hn12
    clear hfx hfy hxx hyy hok hn12
    go_enter Try.func44, Try.ntmps44
    go_wp2_with fail
    refine (hF.out _ (hO.out.below (B1.out _)).rd (Nat.le_refl _)).mono ?_
    rintro e w1 ⟨rfl, b⟩
    have z0 : w1.cell? ⟨w.heap.size, 0, none⟩ = some (.slice A n c) := (b.cell (p := ⟨w.heap.size, 0, none⟩) (by simp)).trans (by simp [go_sem])
    have bb := Lib.hid ((B1.out (.cells #[.slice A n c] 29)).trans (b.mono (by simp)))
    have l1 : w.heap.size < w1.heap.size := by have := b.size; simp at this; omega
    clear b
    go_wp2_with fail
    refine (hG.out _ (hO.out.below bb.out).rd (Nat.le_refl _)).mono ?_
    rintro e w2 ⟨rfl, b2⟩
    have z2 : w2.cell? ⟨w.heap.size, 0, none⟩ = some (.slice A n c) := (b2.cell (p := ⟨w.heap.size, 0, none⟩) l1).trans z0
    have bb2 := Lib.hid (bb.out.trans (b2.mono bb.out.size))
    clear b2 z0
    go_wp2_with fail
    refine (hW.out _ (hO.out.below bb2.out).rd (capE_of_own (hO.out.below bb2.out))).mono ?_
    rintro e w3 ⟨gv, bs, rfl, hg1, hg2, hat, hV, b3⟩
    have bb3 := Lib.hid (bb2.out.trans (b3.mono bb2.out.size))
    have HI := Lib.hid (fun W (hv : Vals W p bs 0) => isTop_any p HOK.out bs y0 x0 HYN.out HXN.out W hv)
    have HV := Lib.hid hV
    have hx1 := hat x0 hxn
    have hy1 := hat y0 hyn
    obtain ⟨vx, hvx⟩ : ∃ v, valE p bs x0 = v := ⟨_, rfl⟩
    obtain ⟨vy, hvy⟩ : ∃ v, valE p bs y0 = v := ⟨_, rfl⟩
    rw [hvx, hvy] at HI
    rw [hvx] at hx1
    rw [hvy] at hy1
    clear hat hV b3 hvx hvy hW hF hG
    go_wp2_with fail
    have S0 : (fun V : World => V.cell? ⟨gv, x0, none⟩ = some vx ∧ V.cell? ⟨gv, y0, none⟩ = some vy) w3.drew := ⟨hx1, hy1⟩
    have HB := Lib.hid (bb3.out.trans ((Below.refl w.heap.size w3).drew))
    have HVD := Lib.hid (HV.out.chg (Chg.drewN (fun _ => False) w3 1))
    refine Last2.region_last [10] (fun V : World => V.cell? ⟨gv, x0, none⟩ = some vx ∧ V.cell? ⟨gv, y0, none⟩ = some vy) (by kernel_rfl) ?_
    refine Last2.last_take (i := 0) (d := some 21) (v := .slice (some ⟨gv, 0, none⟩) n n) rfl rfl (by kernel_rfl) (by kernel_rfl) (by kernel_rfl) (fun _ _ _ h => h) rfl (by kernel_rfl) (by kernel_rfl) rfl ?_ S0 ?_
    · (intro V hV; (try dsimp only at hV); go_simp; try with_reducible rfl)
    simp only [Act.put, List.setIfInBounds_toArray, List.set_cons_zero, List.set_cons_succ]
    refine Last2.last_take (i := 1) (d := some 22) (v := .int .i64 (x0 : Int)) rfl rfl (by kernel_rfl) (by kernel_rfl) (by kernel_rfl) (fun _ _ _ h => h) rfl (by kernel_rfl) (by kernel_rfl) rfl ?_ S0 ?_
    · (intro V hV; (try dsimp only at hV); go_simp; try with_reducible rfl)
    simp only [Act.put, List.setIfInBounds_toArray, List.set_cons_zero, List.set_cons_succ]
    refine Last2.last_take (i := 2) (d := some 23) (v := .pointer (some ⟨gv, x0, none⟩)) rfl rfl (by kernel_rfl) (by kernel_rfl) (by kernel_rfl) (fun _ _ _ h => h) rfl (by kernel_rfl) (by kernel_rfl) rfl ?_ S0 ?_
    · (intro V hV; (try dsimp only at hV); go_simp; try with_reducible rfl)
    simp only [Act.put, List.setIfInBounds_toArray, List.set_cons_zero, List.set_cons_succ]
    refine Last2.last_take (i := 3) (d := some 24) (v := vx) rfl rfl (by kernel_rfl) (by kernel_rfl) (by kernel_rfl) (fun _ _ _ h => h) rfl (by kernel_rfl) (by kernel_rfl) rfl ?_ S0 ?_
    · (intro V hV; (try dsimp only at hV); go_simp; try with_reducible rfl)
    simp only [Act.put, List.setIfInBounds_toArray, List.set_cons_zero, List.set_cons_succ]
    refine Last2.last_take (i := 4) (d := some 25) (v := .slice (some ⟨gv, 0, none⟩) n n) rfl rfl (by kernel_rfl) (by kernel_rfl) (by kernel_rfl) (fun _ _ _ h => h) rfl (by kernel_rfl) (by kernel_rfl) rfl ?_ S0 ?_
    · (intro V hV; (try dsimp only at hV); go_simp; try with_reducible rfl)
    simp only [Act.put, List.setIfInBounds_toArray, List.set_cons_zero, List.set_cons_succ]
    refine Last2.last_take (i := 5) (d := some 26) (v := .int .i64 (y0 : Int)) rfl rfl (by kernel_rfl) (by kernel_rfl) (by kernel_rfl) (fun _ _ _ h => h) rfl (by kernel_rfl) (by kernel_rfl) rfl ?_ S0 ?_
    · (intro V hV; (try dsimp only at hV); go_simp; try with_reducible rfl)
    simp only [Act.put, List.setIfInBounds_toArray, List.set_cons_zero, List.set_cons_succ]
    refine Last2.last_take (i := 6) (d := some 27) (v := .pointer (some ⟨gv, y0, none⟩)) rfl rfl (by kernel_rfl) (by kernel_rfl) (by kernel_rfl) (fun _ _ _ h => h) rfl (by kernel_rfl) (by kernel_rfl) rfl ?_ S0 ?_
    · (intro V hV; (try dsimp only at hV); go_simp; try with_reducible rfl)
    simp only [Act.put, List.setIfInBounds_toArray, List.set_cons_zero, List.set_cons_succ]
    refine Last2.last_take (i := 7) (d := some 28) (v := vy) rfl rfl (by kernel_rfl) (by kernel_rfl) (by kernel_rfl) (fun _ _ _ h => h) rfl (by kernel_rfl) (by kernel_rfl) rfl ?_ S0 ?_
    · (intro V hV; (try dsimp only at hV); go_simp; try with_reducible rfl)
    simp only [Act.put, List.setIfInBounds_toArray, List.set_cons_zero, List.set_cons_succ]
    refine Last2.last_one (i := 8) (o := { dst := some 29, op := .call { callee := .value (.func 70), args := #[.tmp 24, .tmp 28], argTypes := _ }, type := _, pos := _, after := _, guard := none }) (by kernel_rfl) rfl rfl (fun K hK => ?_)
    go_simp
    refine (HI.out _ HVD.out).mono ?_
    rintro e w5 ⟨rfl, c5⟩
    have S5 : (fun V : World => V.cell? ⟨gv, x0, none⟩ = some vx ∧ V.cell? ⟨gv, y0, none⟩ = some vy) w5 := ⟨(c5.cell (p := ⟨gv, x0, none⟩) (by show gv < w3.heap.size; exact hg2) (fun h => h)).trans hx1, (c5.cell (p := ⟨gv, y0, none⟩) (by show gv < w3.heap.size; exact hg2) (fun h => h)).trans hy1⟩
    refine hK.out _ _ (fun _ => S5) ?_
    clear hK K
    try simp only [Act.put, List.setIfInBounds_toArray, List.set_cons_zero, List.set_cons_succ]
    refine Last2.last_take (i := 9) (d := some 6) (v := .bool (hitN p y0 x0)) rfl rfl (by kernel_rfl) (by kernel_rfl) (by kernel_rfl) (fun _ _ _ h => h) rfl (by kernel_rfl) (by kernel_rfl) rfl ?_ S5 ?_
    · (intro V hV; (try dsimp only at hV); go_simp; try with_reducible rfl)
    simp only [Act.put, List.setIfInBounds_toArray, List.set_cons_zero, List.set_cons_succ]
    refine Last2.last_one (i := 10) (o := { dst := some 7, op := .assign (.const (.bool true)), type := _, pos := _, after := _, guard := none }) (by kernel_rfl) rfl rfl (fun K hK => ?_)
    go_simp
    refine hK.out _ _ (fun h => (h (by decide)).elim) ?_
    clear hK K
    try simp only [Act.put, List.setIfInBounds_toArray, List.set_cons_zero, List.set_cons_succ]
    refine Last2.last_done (by kernel_rfl) ?_ _
    have BE := Lib.hid (HB.out.trans (c5.below HB.out.size (fun b _ h => h.elim)))
    clear S0 S5 c5
    go_wp2_with fail
    go_ret2
    rw [hs.out]
    exact ⟨rfl, BE.out⟩
end Go.Proofs.Ytkjgibhckcdneaa.ErI
