/- spec.IsError tells whether an error is another one. -/
import Derived.Test.YtkjgibhckcdneaaErin
import Derived.Test.YtkjgibhckcdneaaErwy
import Derived.Test.YtkjgibhckcdneaaEip
import Derived.Test.YtkjgibhckcdneaaLast2
import Derived.Test.YtkjgibhckcdneaaErwf
import Derived.BigQuiet
namespace Go.Proofs.Ytkjgibhckcdneaa.ErI
set_option linter.unusedVariables false
set_option linter.unusedSimpArgs false
open Go.ChangeShapes Go.WideShapes Go.ChangeAt Go.RowKit
open Mem IntsP ErP ErM ErT ErA ErU ErD ErW ErL ErF ErQ

set_option maxRecDepth 100000 in
set_option maxHeartbeats 8000000 in
theorem isS_any (lo n c : Nat) (A : Option Addr) (p : Er) (x y : Int) (hn : n ≤ 2000000) (hl : p.length = n) (hsm : SmallE p 2000000) (w : World) (ho : OwnE w lo (.slice A n c) p) :
    Calls Try.prog 43 #[.agg #[.slice A n c], .int .i64 x, .int .i64 y] w (BoolR (isR p x y) w) := by
  have hF := Lib.hid (fun w hr hB => l6One_any w.heap.size A n c p x (by omega) hl (hsm.mono (by omega)) w hr hB)
  have hG := Lib.hid (fun w hr hB => l6One_any w.heap.size A n c p y (by omega) hl (hsm.mono (by omega)) w hr hB)
  have b1 : ∀ o : Obj, Below w.heap.size w (w.alloc o) := fun o => (Below.refl _ _).alloc (Nat.le_refl _) _
  have B1 := Lib.hid b1
  have hO := Lib.hid ho
  have hL := Lib.hid hl
  clear ho hl b1
  cases hfx : oneE p x with
  | false =>
    have hs := Lib.hid (show isR p x y = (false, false) by unfold isR; rw [hfx]; rfl)
    rw [hfx] at hF
    clear hfx
    go_enter Try.func43, Try.ntmps43
    go_wp2_with fail
    refine (hF.out _ (hO.out.below (B1.out _)).rd (Nat.le_refl _)).mono ?_
    rintro e w1 ⟨rfl, b⟩
    have bb := Lib.hid ((B1.out (.cells #[.slice A n c] 29)).trans (b.mono (by simp)))
    go_wp2_with fail
    go_ret2
    rw [hs.out]
    exact ⟨rfl, bb.out⟩
  | true =>
  cases hfy : oneE p y with
  | false =>
    have hs := Lib.hid (show isR p x y = (false, false) by unfold isR; rw [hfx, hfy]; rfl)
    rw [hfx] at hF
    rw [hfy] at hG
    clear hfx hfy
    go_enter Try.func43, Try.ntmps43
    go_wp2_with fail
    refine (hF.out _ (hO.out.below (B1.out _)).rd (Nat.le_refl _)).mono ?_
    rintro e w1 ⟨rfl, b⟩
    have z0 : w1.cell? ⟨w.heap.size, 0, none⟩ = some (.slice A n c) := (b.cell (p := ⟨w.heap.size, 0, none⟩) (by simp)).trans (by simp [go_sem])
    have bb := Lib.hid ((B1.out (.cells #[.slice A n c] 29)).trans (b.mono (by simp)))
    clear b
    go_wp2_with fail
    refine (hG.out _ (hO.out.below bb.out).rd (Nat.le_refl _)).mono ?_
    rintro e w2 ⟨rfl, b2⟩
    have bb2 := Lib.hid (bb.out.trans (b2.mono bb.out.size))
    go_wp2_with fail
    go_ret2
    rw [hs.out]
    exact ⟨rfl, bb2.out⟩
  | true =>
    obtain ⟨x0, sx, rfl, hxn, hxx, hok, hn12⟩ := oneE_at hfx
    obtain ⟨y0, sy, rfl, hyn, hyy, _, _⟩ := oneE_at hfy
    have hs := Lib.hid (show isR p x0 y0 = (hitsE p (waysE p x0) y0 n, true) by unfold isR; rw [hfx, hfy, Int.toNat_natCast, Int.toNat_natCast, hL.out]; rfl)
    rw [hL.out] at hxn hyn
    have hW := Lib.hid (fun W (hr : RdE W W.heap.size A p) => in_any n c A p x0 hL.out hok hxn W hr)
    have HOK := Lib.hid hok
    have hRd := Lib.hid hO.out.rd
    have HXX := Lib.hid hyy
    rw [hfx] at hF
    rw [hfy] at hG
    clear hfx hfy hxx hyy hok hsm
    go_enter Try.func43, Try.ntmps43
    go_wp2_with fail
    refine (hF.out _ (hO.out.below (B1.out _)).rd (Nat.le_refl _)).mono ?_
    rintro e w1 ⟨rfl, b⟩
    have z0 : w1.cell? ⟨w.heap.size, 0, none⟩ = some (.slice A n c) := (b.cell (p := ⟨w.heap.size, 0, none⟩) (by simp)).trans (by simp [go_sem])
    have bb := Lib.hid ((B1.out (.cells #[.slice A n c] 29)).trans (b.mono (by simp)))
    have x1 := Lib.hid (Blk.below (heap1_0 w (.cells #[.slice A n c] 29)) b (by simp))
    clear b
    go_wp2_with fail
    refine (hG.out _ (hO.out.below bb.out).rd (Nat.le_refl _)).mono ?_
    rintro e w2 ⟨rfl, b2⟩
    have x2 := Lib.hid (x1.out.below b2 x1.out.lt)
    have z2 : w2.cell? ⟨w.heap.size, 0, none⟩ = some (.slice A n c) := x2.out.cells 0
    have bb2 := Lib.hid (bb.out.trans (b2.mono bb.out.size))
    have R2 := Lib.hid (hRd.out.below bb2.out)
    have l2 : w.heap.size < w2.heap.size := x2.out.lt
    clear b2 z0 x1 hF hG
    obtain ⟨⟨t0, t1, t2⟩, hsy⟩ : ∃ s, p[y0]? = some s := ⟨_, List.getElem?_eq_getElem (by rw [hL.out]; exact hyn)⟩
    obtain ⟨ad, At, ct, rfl, hab, c0, c1, c2, c3⟩ := R2.out y0 _ hsy
    have HSY := Lib.hid hsy
    dsimp only at c0 c1 c2
    clear hsy c3
    go_wp2_with fail
    have S0 : (fun V : World => V.cell? ⟨w.heap.size, 0, none⟩ = some (.slice (some ad) n c) ∧ V.cell? (ad.add (y0 * 3)) = some (.int .i64 t0) ∧ V.cell? ⟨(ad.add (y0 * 3)).block, (ad.add (y0 * 3)).off + 1, none⟩ = some (.int .i64 t1) ∧ V.cell? ⟨(ad.add (y0 * 3)).block, (ad.add (y0 * 3)).off + 2, none⟩ = some (.slice At t2.length ct)) w2.drew := ⟨z2, c0, c1, c2⟩
    refine Last2.region_last [10] (fun V : World => V.cell? ⟨w.heap.size, 0, none⟩ = some (.slice (some ad) n c) ∧ V.cell? (ad.add (y0 * 3)) = some (.int .i64 t0) ∧ V.cell? ⟨(ad.add (y0 * 3)).block, (ad.add (y0 * 3)).off + 1, none⟩ = some (.int .i64 t1) ∧ V.cell? ⟨(ad.add (y0 * 3)).block, (ad.add (y0 * 3)).off + 2, none⟩ = some (.slice At t2.length ct)) (by kernel_rfl) ?_
    refine Last2.last_take (i := 0) (d := some 22) (v := .agg #[.slice (some ad) n c]) rfl rfl (by kernel_rfl) (by kernel_rfl) (by kernel_rfl) (fun _ _ _ h => h) rfl (by kernel_rfl) (by kernel_rfl) rfl ?_ S0 ?_
    · (intro V hV; (try dsimp only at hV); go_simp; try with_reducible rfl)
    simp only [Act.put, List.setIfInBounds_toArray, List.set_cons_zero, List.set_cons_succ]
    refine Last2.last_take (i := 1) (d := some 23) (v := .int .i64 (x0 : Int)) rfl rfl (by kernel_rfl) (by kernel_rfl) (by kernel_rfl) (fun _ _ _ h => h) rfl (by kernel_rfl) (by kernel_rfl) rfl ?_ S0 ?_
    · (intro V hV; (try dsimp only at hV); go_simp; try with_reducible rfl)
    simp only [Act.put, List.setIfInBounds_toArray, List.set_cons_zero, List.set_cons_succ]
    refine Last2.last_take (i := 3) (d := some 25) (v := .pointer (some ⟨w.heap.size, 0, none⟩)) rfl rfl (by kernel_rfl) (by kernel_rfl) (by kernel_rfl) (fun _ _ _ h => h) rfl (by kernel_rfl) (by kernel_rfl) rfl ?_ S0 ?_
    · (intro V hV; (try dsimp only at hV); go_simp; try with_reducible rfl)
    simp only [Act.put, List.setIfInBounds_toArray, List.set_cons_zero, List.set_cons_succ]
    refine Last2.last_take (i := 4) (d := some 26) (v := .slice (some ad) n c) rfl rfl (by kernel_rfl) (by kernel_rfl) (by kernel_rfl) (fun _ _ _ h => h) rfl (by kernel_rfl) (by kernel_rfl) rfl ?_ S0 ?_
    · (intro V hV; (try dsimp only at hV); go_simp; try with_reducible rfl)
    simp only [Act.put, List.setIfInBounds_toArray, List.set_cons_zero, List.set_cons_succ]
    refine Last2.last_take (i := 5) (d := some 27) (v := .int .i64 (y0 : Int)) rfl rfl (by kernel_rfl) (by kernel_rfl) (by kernel_rfl) (fun _ _ _ h => h) rfl (by kernel_rfl) (by kernel_rfl) rfl ?_ S0 ?_
    · (intro V hV; (try dsimp only at hV); go_simp; try with_reducible rfl)
    simp only [Act.put, List.setIfInBounds_toArray, List.set_cons_zero, List.set_cons_succ]
    refine Last2.last_take (i := 6) (d := some 28) (v := .pointer (some (ad.add (y0 * 3)))) rfl rfl (by kernel_rfl) (by kernel_rfl) (by kernel_rfl) (fun _ _ _ h => h) rfl (by kernel_rfl) (by kernel_rfl) rfl ?_ S0 ?_
    · (intro V hV; (try dsimp only at hV); go_simp; try with_reducible rfl)
    simp only [Act.put, List.setIfInBounds_toArray, List.set_cons_zero, List.set_cons_succ]
    refine Last2.last_take (i := 7) (d := some 29) (v := .agg #[.int .i64 t0, .int .i64 t1, .slice At t2.length ct]) rfl rfl (by kernel_rfl) (by kernel_rfl) (by kernel_rfl) (fun _ _ _ h => h) rfl (by kernel_rfl) (by kernel_rfl) rfl ?_ S0 ?_
    · (intro V hV; (try dsimp only at hV); go_simp; try with_reducible rfl)
    simp only [Act.put, List.setIfInBounds_toArray, List.set_cons_zero, List.set_cons_succ]
    have hU : Below w2.heap.size w2 w2.drew := (Below.refl _ _).drew
    have bbU := Lib.hid (bb2.out.trans (hU.mono bb2.out.size))
    have XU := Lib.hid (x2.out.below hU x2.out.lt)
    have RU := Lib.hid (show RdE w2.drew w2.drew.heap.size (some ad) p from ((R2.out.keep (fun _ _ => rfl)).more (by show w.heap.size ≤ w2.heap.size; omega)))
    have hSB : ∀ V, Below w2.drew.heap.size w2.drew V → (fun V : World => V.cell? ⟨w.heap.size, 0, none⟩ = some (.slice (some ad) n c) ∧ V.cell? (ad.add (y0 * 3)) = some (.int .i64 t0) ∧ V.cell? ⟨(ad.add (y0 * 3)).block, (ad.add (y0 * 3)).off + 1, none⟩ = some (.int .i64 t1) ∧ V.cell? ⟨(ad.add (y0 * 3)).block, (ad.add (y0 * 3)).off + 2, none⟩ = some (.slice At t2.length ct)) V := fun V b => ⟨(XU.out.below b XU.out.lt).cells 0, (b.cell (by rw [block_of_add]; show ad.block < w2.heap.size; omega)).trans c0, (b.cell (by show (ad.add _).block < w2.heap.size; rw [block_of_add]; omega)).trans c1, (b.cell (by show (ad.add _).block < w2.heap.size; rw [block_of_add]; omega)).trans c2⟩
    have HSB := Lib.hid hSB
    have lU : w.heap.size < w2.drew.heap.size := l2
    clear S0 z2 c0 c1 c2 hU hSB bb2 bb x2
    generalize w2.drew = U at *
    refine Last2.last_two (i := 2) (j := 8) (oi := { dst := some 24, op := .call { callee := .value (.func 57), args := #[.tmp 22, .tmp 23], argTypes := _ }, type := _, pos := _, after := _, guard := none }) (oj := { dst := some 9, op := .alloc 55, type := _, pos := _, after := _, guard := none }) (by kernel_rfl) rfl rfl rfl rfl (fun K hK => ?_) (fun K hK => ?_)
    · go_simp
      refine (hW.out _ RU.out).mono ?_
      rintro e V1 ⟨g, rfl, hg1, hg2, hA, bV1⟩
      have S1 := HSB.out V1 bV1
      refine hK.out _ _ (fun _ => S1) ?_
      clear hK K
      try simp only [Act.put, List.setIfInBounds_toArray, List.set_cons_zero, List.set_cons_succ]
      refine Last2.last_one (i := 8) (o := { dst := some 9, op := .alloc 55, type := _, pos := _, after := _, guard := none }) (by kernel_rfl) rfl rfl (fun K hK => ?_)
      go_simp
      obtain ⟨V2, hV2⟩ : ∃ V2, V1.alloc (.cells #[.int .i64 0, .int .i64 0, .slice none 0 0] 55) = V2 := ⟨_, rfl⟩
      have bV2 : Below V1.heap.size V1 V2 := by rw [← hV2]; exact (Below.refl _ _).alloc (Nat.le_refl _) _
      obtain ⟨tb, htb⟩ : ∃ tb, V1.heap.size = tb := ⟨_, rfl⟩
      have xT : Blk V2 tb 55 #[.int .i64 0, .int .i64 0, .slice none 0 0] := by rw [← hV2, ← htb]; exact heap1_0 _ _
      have bUV : Below U.heap.size U V2 := bV1.trans (bV2.mono bV1.size)
      have S2 := HSB.out V2 bUV
      rw [hV2, htb]
      refine hK.out _ _ (fun _ => S2) ?_
      clear hK K
      try simp only [Act.put, List.setIfInBounds_toArray, List.set_cons_zero, List.set_cons_succ]
      have hA' : ArrB V2 g n (waysE p x0) := hA.chg (Chg.of_below (C := fun _ => False) bV2) (fun h => h)
      have ltb : w.heap.size < tb := by have := bV1.size; omega
      have lg : g ≠ tb := by omega
      clear hV2 htb hA S1 bV1 bV2 hg1 hg2
      refine Last2.last_take (i := 9) (d := some 8) (v := .slice (some ⟨g, 0, none⟩) n n) rfl rfl (by kernel_rfl) (by kernel_rfl) (by kernel_rfl) (fun _ _ _ h => h) rfl (by kernel_rfl) (by kernel_rfl) rfl ?_ S2 ?_
      · (intro V hV; (try dsimp only at hV); go_simp; try with_reducible rfl)
      simp only [Act.put, List.setIfInBounds_toArray, List.set_cons_zero, List.set_cons_succ]
      refine Last2.last_one (i := 10) (o := { dst := none, op := .store 55 (.tmp 9) (.tmp 29), type := _, pos := _, after := _, guard := none }) (by kernel_rfl) rfl rfl (fun K hK => ?_)
      have y0' : V2.cell? ⟨tb, 0, none⟩ = some (.int .i64 0) := xT.cells 0
      have f0' : V2.frozen? ⟨tb, 0, none⟩ = false := xT.frozen 0
      have P1 : ∀ v, Blk (V2.setCell ⟨tb, 0, none⟩ v) tb 55 #[v, .int .i64 0, .slice none 0 0] := fun v => xT.put 0 v
      have P2 : ∀ v v', Blk ((V2.setCell ⟨tb, 0, none⟩ v).setCell ⟨tb, 1, none⟩ v') tb 55 #[v, v', .slice none 0 0] := fun v v' => (P1 v).put 1 v'
      have P3 : ∀ v v' v'', Blk (((V2.setCell ⟨tb, 0, none⟩ v).setCell ⟨tb, 1, none⟩ v').setCell ⟨tb, 2, none⟩ v'') tb 55 #[v, v', v''] := fun v v' v'' => (P2 v v').put 2 v''
      have y1' : ∀ v, (V2.setCell ⟨tb, 0, none⟩ v).cell? ⟨tb, 1, none⟩ = some (.int .i64 0) := fun v => (P1 v).cells 1
      have f1' : ∀ v, (V2.setCell ⟨tb, 0, none⟩ v).frozen? ⟨tb, 1, none⟩ = false := fun v => (P1 v).frozen 1
      have y2' : ∀ v v', ((V2.setCell ⟨tb, 0, none⟩ v).setCell ⟨tb, 1, none⟩ v').cell? ⟨tb, 2, none⟩ = some (.slice none 0 0) := fun v v' => (P2 v v').cells 2
      have f2' : ∀ v v', ((V2.setCell ⟨tb, 0, none⟩ v).setCell ⟨tb, 1, none⟩ v').frozen? ⟨tb, 2, none⟩ = false := fun v v' => (P2 v v').frozen 2
      go_simp
      refine hK.out _ _ (fun h => (h (by decide)).elim) ?_
      clear hK K
      try simp only [Act.put, List.setIfInBounds_toArray, List.set_cons_zero, List.set_cons_succ]
      refine Last2.last_done (by kernel_rfl) ?_ _
      obtain ⟨WV, hWV⟩ : ∃ WV, ((V2.setCell ⟨tb, 0, none⟩ (.int .i64 t0)).setCell ⟨tb, 1, none⟩ (.int .i64 t1)).setCell ⟨tb, 2, none⟩ (.slice At t2.length ct) = WV := ⟨_, rfl⟩
      have xV : Blk WV tb 55 #[.int .i64 t0, .int .i64 t1, .slice At t2.length ct] := by rw [← hWV]; exact P3 _ _ _
      have cV : Chg (fun b => b = tb) V2 WV := by rw [← hWV]; exact (((Chg.refl (fun b => b = tb) V2).put ⟨tb, 0, none⟩ _ (.inr rfl)).put ⟨tb, 1, none⟩ _ (.inr rfl)).put ⟨tb, 2, none⟩ _ (.inr rfl)
      have XVT := Lib.hid xV
      have HAV := Lib.hid (hA'.chg cV (fun h => lg h))
      have XVE := Lib.hid ((XU.out.below bUV XU.out.lt).chg cV (by omega))
      have RV := Lib.hid (rdE_chg (hRd.out.below (bbU.out.trans (bUV.mono bbU.out.size))) cV (by have := bUV.size; omega) (fun b hb => by omega))
      have BV := Lib.hid ((bbU.out.trans (bUV.mono bbU.out.size)).trans (cV.below (by have := bUV.size; omega) (fun b hb h => by omega)))
      have lV := cV.size
      have ltV := xV.lt
      rw [hWV]
      clear xT y0' f0' P1 P2 P3 y1' f1' y2' f2' hA' xV cV hWV bUV XU RU HSB S2 bbU lU
      generalize waysE p x0 = a at *
      go_wp2_with fail
      go_loopw [10] (fun i' wr => ∃ i : Nat, i ≤ n ∧ i' = .int .i64 i ∧ hitsE p a y0 i = false ∧ Chg (fun _ => False) WV wr) (fun i' _ => n - (intOf i').toNat)
      case atStart => exact ⟨0, Nat.zero_le _, rfl, rfl, Chg.refl _ _⟩
      case round =>
        obtain ⟨i, hin, rfl, hno, hch⟩ := hrel
        have HNO := Lib.hid hno
        have HC := Lib.hid hch
        have A2 := Lib.hid (HAV.out.chg hch (fun h => h))
        have XT2 := XVT.out.chg hch (fun h => h)
        have zr : wr.cell? ⟨w.heap.size, 0, none⟩ = some (.slice (some ad) n c) := (XVE.out.chg hch (fun h => h)).cells 0
        have e0 : wr.cell? ⟨tb, 0, none⟩ = some (.int .i64 t0) := XT2.cells 0
        have e1 : wr.cell? ⟨tb, 1, none⟩ = some (.int .i64 t1) := XT2.cells 1
        have R3 := Lib.hid (rdE_chg RV.out hch (by omega) (fun b _ h => h))
        clear hch hno XT2
        by_cases hlt : i < n
        · obtain ⟨⟨s0, s1, s2⟩, hsx⟩ : ∃ s, p[i]? = some s := ⟨_, List.getElem?_eq_getElem (by rw [hL.out]; exact hlt)⟩
          obtain ⟨ad2, Ai, ci, h2, hab2, c0, c1, c2, c3⟩ := R3.out i _ hsx
          obtain rfl : ad = ad2 := by simpa using h2
          have hhit := Lib.hid (show hitE p a y0 i = (decide (0 < getI a i) && (decide (i = y0) || likeE (s0, s1, s2) (t0, t1, t2))) by unfold hitE; rw [nodeE_at hsx, nodeE_at HSY.out])
          obtain ⟨b1, b2⟩ := A2.out.at hlt
          dsimp only at c0 c1 c2
          clear hsx h2 c3 hab2
          obtain ⟨lk, hlk⟩ : ∃ b, likeE (s0, s1, s2) (t0, t1, t2) = b := ⟨_, rfl⟩
          rw [hlk] at hhit
          by_cases k1 : s0 = 4
          · obtain rfl : s0 = 4 := k1
            by_cases k2 : t0 = 1
            · obtain rfl : t0 = 1 := k2
              by_cases k3 : s1 = t1
              · obtain rfl : s1 = t1 := k3
                obtain rfl : true = lk := by rw [← hlk]; simp [likeE]
                have k3 : (s1 == s1) = true := by simp
                clear hlk
                go_wp2_with fail
                go_quiet (fail)
                have HC2 := Lib.hid (HC.out.trans (Chg.drewN (fun _ => False) wr nq) (fun _ _ h => h))
                clear zr c0 c1 c2 e0 e1
                by_cases hp : 0 < getI a i
                · rw [decide_eq_true hp] at b1 hhit
                  by_cases hiy : i = y0
                  · have hres := Lib.hid (show hitsE p a y0 n = true from hits_yes (by rw [hhit.out, decide_eq_true hiy]; rfl) hlt)
                    subst hiy
                    clear hhit
                    go_wp2_with fail
                    go_ret2
                    rw [hs.out]
                    exact ⟨by rw [hres.out]; rfl, BV.out.trans (HC2.out.below (by omega) (fun b _ h => h.elim))⟩
                  · have hd : ((i : Int) == (y0 : Int)) = false := by simpa using (show ¬ (i : Int) = (y0 : Int) by omega)
                    rw [decide_eq_false hiy] at hhit
                    clear hiy
                    have hres := Lib.hid (show hitsE p a y0 n = true from hits_yes (by rw [hhit.out]; rfl) hlt)
                    clear hhit
                    go_wp2_with fail
                    go_ret2
                    rw [hs.out]
                    exact ⟨by rw [hres.out]; rfl, BV.out.trans (HC2.out.below (by omega) (fun b _ h => h.elim))⟩
                · rw [decide_eq_false hp] at b1 hhit
                  have hno := Lib.hid (show hitsE p a y0 (i + 1) = false by rw [hits_next, HNO.out, hhit.out]; rfl)
                  clear hhit
                  go_wp2_with fail
                  go_roundw
                  case rel => exact ⟨i + 1, by omega, by go_num, hno.out, HC2.out⟩
                  case measure => simp [intOf]; omega
              · have k3' : (s1 == t1) = false := by simpa using k3
                obtain rfl : false = lk := by rw [← hlk]; simp [likeE, k3]
                clear hlk k3
                go_wp2_with fail
                go_quiet (fail)
                have HC2 := Lib.hid (HC.out.trans (Chg.drewN (fun _ => False) wr nq) (fun _ _ h => h))
                clear zr c0 c1 c2 e0 e1
                by_cases hp : 0 < getI a i
                · rw [decide_eq_true hp] at b1 hhit
                  by_cases hiy : i = y0
                  · have hres := Lib.hid (show hitsE p a y0 n = true from hits_yes (by rw [hhit.out, decide_eq_true hiy]; rfl) hlt)
                    subst hiy
                    clear hhit
                    go_wp2_with fail
                    go_ret2
                    rw [hs.out]
                    exact ⟨by rw [hres.out]; rfl, BV.out.trans (HC2.out.below (by omega) (fun b _ h => h.elim))⟩
                  · have hd : ((i : Int) == (y0 : Int)) = false := by simpa using (show ¬ (i : Int) = (y0 : Int) by omega)
                    rw [decide_eq_false hiy] at hhit
                    clear hiy
                    have hno := Lib.hid (show hitsE p a y0 (i + 1) = false by rw [hits_next, HNO.out, hhit.out]; rfl)
                    clear hhit
                    go_wp2_with fail
                    go_roundw
                    case rel => exact ⟨i + 1, by omega, by go_num, hno.out, HC2.out⟩
                    case measure => simp [intOf]; omega
                · rw [decide_eq_false hp] at b1 hhit
                  have hno := Lib.hid (show hitsE p a y0 (i + 1) = false by rw [hits_next, HNO.out, hhit.out]; rfl)
                  clear hhit
                  go_wp2_with fail
                  go_roundw
                  case rel => exact ⟨i + 1, by omega, by go_num, hno.out, HC2.out⟩
                  case measure => simp [intOf]; omega
            · have k2' : (t0 == 1) = false := by simpa using k2
              obtain rfl : false = lk := by rw [← hlk]; simp [likeE, k2]
              clear hlk k2
              go_wp2_with fail
              go_quiet (fail)
              have HC2 := Lib.hid (HC.out.trans (Chg.drewN (fun _ => False) wr nq) (fun _ _ h => h))
              clear zr c0 c1 c2 e0 e1
              by_cases hp : 0 < getI a i
              · rw [decide_eq_true hp] at b1 hhit
                by_cases hiy : i = y0
                · have hres := Lib.hid (show hitsE p a y0 n = true from hits_yes (by rw [hhit.out, decide_eq_true hiy]; rfl) hlt)
                  subst hiy
                  clear hhit
                  go_wp2_with fail
                  go_ret2
                  rw [hs.out]
                  exact ⟨by rw [hres.out]; rfl, BV.out.trans (HC2.out.below (by omega) (fun b _ h => h.elim))⟩
                · have hd : ((i : Int) == (y0 : Int)) = false := by simpa using (show ¬ (i : Int) = (y0 : Int) by omega)
                  rw [decide_eq_false hiy] at hhit
                  clear hiy
                  have hno := Lib.hid (show hitsE p a y0 (i + 1) = false by rw [hits_next, HNO.out, hhit.out]; rfl)
                  clear hhit
                  go_wp2_with fail
                  go_roundw
                  case rel => exact ⟨i + 1, by omega, by go_num, hno.out, HC2.out⟩
                  case measure => simp [intOf]; omega
              · rw [decide_eq_false hp] at b1 hhit
                have hno := Lib.hid (show hitsE p a y0 (i + 1) = false by rw [hits_next, HNO.out, hhit.out]; rfl)
                clear hhit
                go_wp2_with fail
                go_roundw
                case rel => exact ⟨i + 1, by omega, by go_num, hno.out, HC2.out⟩
                case measure => simp [intOf]; omega
          · have k1' : (s0 == 4) = false := by simpa using k1
            obtain rfl : false = lk := by rw [← hlk]; simp [likeE, k1]
            clear hlk k1
            go_wp2_with fail
            go_quiet (fail)
            have HC2 := Lib.hid (HC.out.trans (Chg.drewN (fun _ => False) wr nq) (fun _ _ h => h))
            clear zr c0 c1 c2 e0 e1
            by_cases hp : 0 < getI a i
            · rw [decide_eq_true hp] at b1 hhit
              by_cases hiy : i = y0
              · have hres := Lib.hid (show hitsE p a y0 n = true from hits_yes (by rw [hhit.out, decide_eq_true hiy]; rfl) hlt)
                subst hiy
                clear hhit
                go_wp2_with fail
                go_ret2
                rw [hs.out]
                exact ⟨by rw [hres.out]; rfl, BV.out.trans (HC2.out.below (by omega) (fun b _ h => h.elim))⟩
              · have hd : ((i : Int) == (y0 : Int)) = false := by simpa using (show ¬ (i : Int) = (y0 : Int) by omega)
                rw [decide_eq_false hiy] at hhit
                clear hiy
                have hno := Lib.hid (show hitsE p a y0 (i + 1) = false by rw [hits_next, HNO.out, hhit.out]; rfl)
                clear hhit
                go_wp2_with fail
                go_roundw
                case rel => exact ⟨i + 1, by omega, by go_num, hno.out, HC2.out⟩
                case measure => simp [intOf]; omega
            · rw [decide_eq_false hp] at b1 hhit
              have hno := Lib.hid (show hitsE p a y0 (i + 1) = false by rw [hits_next, HNO.out, hhit.out]; rfl)
              clear hhit
              go_wp2_with fail
              go_roundw
              case rel => exact ⟨i + 1, by omega, by go_num, hno.out, HC2.out⟩
              case measure => simp [intOf]; omega
        · obtain rfl : n = i := by omega
          go_wp2_with fail
          go_ret2
          rw [hs.out]
          exact ⟨by rw [HNO.out]; rfl, BV.out.trans (HC.out.below (by omega) (fun b _ h => h.elim))⟩
    · go_simp
      obtain ⟨V1, hV1⟩ : ∃ V1, U.alloc (.cells #[.int .i64 0, .int .i64 0, .slice none 0 0] 55) = V1 := ⟨_, rfl⟩
      have bV1 : Below U.heap.size U V1 := by rw [← hV1]; exact (Below.refl _ _).alloc (Nat.le_refl _) _
      obtain ⟨tb, htb⟩ : ∃ tb, U.heap.size = tb := ⟨_, rfl⟩
      have xT1 : Blk V1 tb 55 #[.int .i64 0, .int .i64 0, .slice none 0 0] := by rw [← hV1, ← htb]; exact heap1_0 _ _
      have ltb : w.heap.size < tb := by omega
      rw [hV1, htb]
      refine hK.out _ _ (fun _ => HSB.out V1 bV1) ?_
      clear hK K
      try simp only [Act.put, List.setIfInBounds_toArray, List.set_cons_zero, List.set_cons_succ]
      refine Last2.last_one (i := 2) (o := { dst := some 24, op := .call { callee := .value (.func 57), args := #[.tmp 22, .tmp 23], argTypes := _ }, type := _, pos := _, after := _, guard := none }) (by kernel_rfl) rfl rfl (fun K hK => ?_)
      go_simp
      refine (hW.out _ ((RU.out.below bV1).more bV1.size)).mono ?_
      rintro e V2 ⟨g, rfl, hg1, hg2, hA', bV2⟩
      have bUV : Below U.heap.size U V2 := bV1.trans (bV2.mono bV1.size)
      have S2 := HSB.out V2 bUV
      refine hK.out _ _ (fun _ => S2) ?_
      clear hK K
      try simp only [Act.put, List.setIfInBounds_toArray, List.set_cons_zero, List.set_cons_succ]
      have xT : Blk V2 tb 55 #[.int .i64 0, .int .i64 0, .slice none 0 0] := xT1.below bV2 xT1.lt
      have lg : g ≠ tb := by have := xT1.lt; omega
      clear hV1 htb xT1 bV1 bV2 hg1 hg2
      refine Last2.last_take (i := 9) (d := some 8) (v := .slice (some ⟨g, 0, none⟩) n n) rfl rfl (by kernel_rfl) (by kernel_rfl) (by kernel_rfl) (fun _ _ _ h => h) rfl (by kernel_rfl) (by kernel_rfl) rfl ?_ S2 ?_
      · (intro V hV; (try dsimp only at hV); go_simp; try with_reducible rfl)
      simp only [Act.put, List.setIfInBounds_toArray, List.set_cons_zero, List.set_cons_succ]
      refine Last2.last_one (i := 10) (o := { dst := none, op := .store 55 (.tmp 9) (.tmp 29), type := _, pos := _, after := _, guard := none }) (by kernel_rfl) rfl rfl (fun K hK => ?_)
      have y0' : V2.cell? ⟨tb, 0, none⟩ = some (.int .i64 0) := xT.cells 0
      have f0' : V2.frozen? ⟨tb, 0, none⟩ = false := xT.frozen 0
      have P1 : ∀ v, Blk (V2.setCell ⟨tb, 0, none⟩ v) tb 55 #[v, .int .i64 0, .slice none 0 0] := fun v => xT.put 0 v
      have P2 : ∀ v v', Blk ((V2.setCell ⟨tb, 0, none⟩ v).setCell ⟨tb, 1, none⟩ v') tb 55 #[v, v', .slice none 0 0] := fun v v' => (P1 v).put 1 v'
      have P3 : ∀ v v' v'', Blk (((V2.setCell ⟨tb, 0, none⟩ v).setCell ⟨tb, 1, none⟩ v').setCell ⟨tb, 2, none⟩ v'') tb 55 #[v, v', v''] := fun v v' v'' => (P2 v v').put 2 v''
      have y1' : ∀ v, (V2.setCell ⟨tb, 0, none⟩ v).cell? ⟨tb, 1, none⟩ = some (.int .i64 0) := fun v => (P1 v).cells 1
      have f1' : ∀ v, (V2.setCell ⟨tb, 0, none⟩ v).frozen? ⟨tb, 1, none⟩ = false := fun v => (P1 v).frozen 1
      have y2' : ∀ v v', ((V2.setCell ⟨tb, 0, none⟩ v).setCell ⟨tb, 1, none⟩ v').cell? ⟨tb, 2, none⟩ = some (.slice none 0 0) := fun v v' => (P2 v v').cells 2
      have f2' : ∀ v v', ((V2.setCell ⟨tb, 0, none⟩ v).setCell ⟨tb, 1, none⟩ v').frozen? ⟨tb, 2, none⟩ = false := fun v v' => (P2 v v').frozen 2
      go_simp
      refine hK.out _ _ (fun h => (h (by decide)).elim) ?_
      clear hK K
      try simp only [Act.put, List.setIfInBounds_toArray, List.set_cons_zero, List.set_cons_succ]
      refine Last2.last_done (by kernel_rfl) ?_ _
      obtain ⟨WV, hWV⟩ : ∃ WV, ((V2.setCell ⟨tb, 0, none⟩ (.int .i64 t0)).setCell ⟨tb, 1, none⟩ (.int .i64 t1)).setCell ⟨tb, 2, none⟩ (.slice At t2.length ct) = WV := ⟨_, rfl⟩
      have xV : Blk WV tb 55 #[.int .i64 t0, .int .i64 t1, .slice At t2.length ct] := by rw [← hWV]; exact P3 _ _ _
      have cV : Chg (fun b => b = tb) V2 WV := by rw [← hWV]; exact (((Chg.refl (fun b => b = tb) V2).put ⟨tb, 0, none⟩ _ (.inr rfl)).put ⟨tb, 1, none⟩ _ (.inr rfl)).put ⟨tb, 2, none⟩ _ (.inr rfl)
      have XVT := Lib.hid xV
      have HAV := Lib.hid (hA'.chg cV (fun h => lg h))
      have XVE := Lib.hid ((XU.out.below bUV XU.out.lt).chg cV (by omega))
      have RV := Lib.hid (rdE_chg (hRd.out.below (bbU.out.trans (bUV.mono bbU.out.size))) cV (by have := bUV.size; omega) (fun b hb => by omega))
      have BV := Lib.hid ((bbU.out.trans (bUV.mono bbU.out.size)).trans (cV.below (by have := bUV.size; omega) (fun b hb h => by omega)))
      have lV := cV.size
      have ltV := xV.lt
      rw [hWV]
      clear xT y0' f0' P1 P2 P3 y1' f1' y2' f2' hA' xV cV hWV bUV XU RU HSB S2 bbU lU
      generalize waysE p x0 = a at *
      go_wp2_with fail
      go_loopw [10] (fun i' wr => ∃ i : Nat, i ≤ n ∧ i' = .int .i64 i ∧ hitsE p a y0 i = false ∧ Chg (fun _ => False) WV wr) (fun i' _ => n - (intOf i').toNat)
      case atStart => exact ⟨0, Nat.zero_le _, rfl, rfl, Chg.refl _ _⟩
      case round =>
        obtain ⟨i, hin, rfl, hno, hch⟩ := hrel
        have HNO := Lib.hid hno
        have HC := Lib.hid hch
        have A2 := Lib.hid (HAV.out.chg hch (fun h => h))
        have XT2 := XVT.out.chg hch (fun h => h)
        have zr : wr.cell? ⟨w.heap.size, 0, none⟩ = some (.slice (some ad) n c) := (XVE.out.chg hch (fun h => h)).cells 0
        have e0 : wr.cell? ⟨tb, 0, none⟩ = some (.int .i64 t0) := XT2.cells 0
        have e1 : wr.cell? ⟨tb, 1, none⟩ = some (.int .i64 t1) := XT2.cells 1
        have R3 := Lib.hid (rdE_chg RV.out hch (by omega) (fun b _ h => h))
        clear hch hno XT2
        by_cases hlt : i < n
        · obtain ⟨⟨s0, s1, s2⟩, hsx⟩ : ∃ s, p[i]? = some s := ⟨_, List.getElem?_eq_getElem (by rw [hL.out]; exact hlt)⟩
          obtain ⟨ad2, Ai, ci, h2, hab2, c0, c1, c2, c3⟩ := R3.out i _ hsx
          obtain rfl : ad = ad2 := by simpa using h2
          have hhit := Lib.hid (show hitE p a y0 i = (decide (0 < getI a i) && (decide (i = y0) || likeE (s0, s1, s2) (t0, t1, t2))) by unfold hitE; rw [nodeE_at hsx, nodeE_at HSY.out])
          obtain ⟨b1, b2⟩ := A2.out.at hlt
          dsimp only at c0 c1 c2
          clear hsx h2 c3 hab2
          obtain ⟨lk, hlk⟩ : ∃ b, likeE (s0, s1, s2) (t0, t1, t2) = b := ⟨_, rfl⟩
          rw [hlk] at hhit
          by_cases k1 : s0 = 4
          · obtain rfl : s0 = 4 := k1
            by_cases k2 : t0 = 1
            · obtain rfl : t0 = 1 := k2
              by_cases k3 : s1 = t1
              · obtain rfl : s1 = t1 := k3
                obtain rfl : true = lk := by rw [← hlk]; simp [likeE]
                have k3 : (s1 == s1) = true := by simp
                clear hlk
                go_wp2_with fail
                go_quiet (fail)
                have HC2 := Lib.hid (HC.out.trans (Chg.drewN (fun _ => False) wr nq) (fun _ _ h => h))
                clear zr c0 c1 c2 e0 e1
                by_cases hp : 0 < getI a i
                · rw [decide_eq_true hp] at b1 hhit
                  by_cases hiy : i = y0
                  · have hres := Lib.hid (show hitsE p a y0 n = true from hits_yes (by rw [hhit.out, decide_eq_true hiy]; rfl) hlt)
                    subst hiy
                    clear hhit
                    go_wp2_with fail
                    go_ret2
                    rw [hs.out]
                    exact ⟨by rw [hres.out]; rfl, BV.out.trans (HC2.out.below (by omega) (fun b _ h => h.elim))⟩
                  · have hd : ((i : Int) == (y0 : Int)) = false := by simpa using (show ¬ (i : Int) = (y0 : Int) by omega)
                    rw [decide_eq_false hiy] at hhit
                    clear hiy
                    have hres := Lib.hid (show hitsE p a y0 n = true from hits_yes (by rw [hhit.out]; rfl) hlt)
                    clear hhit
                    go_wp2_with fail
                    go_ret2
                    rw [hs.out]
                    exact ⟨by rw [hres.out]; rfl, BV.out.trans (HC2.out.below (by omega) (fun b _ h => h.elim))⟩
                · rw [decide_eq_false hp] at b1 hhit
                  have hno := Lib.hid (show hitsE p a y0 (i + 1) = false by rw [hits_next, HNO.out, hhit.out]; rfl)
                  clear hhit
                  go_wp2_with fail
                  go_roundw
                  case rel => exact ⟨i + 1, by omega, by go_num, hno.out, HC2.out⟩
                  case measure => simp [intOf]; omega
              · have k3' : (s1 == t1) = false := by simpa using k3
                obtain rfl : false = lk := by rw [← hlk]; simp [likeE, k3]
                clear hlk k3
                go_wp2_with fail
                go_quiet (fail)
                have HC2 := Lib.hid (HC.out.trans (Chg.drewN (fun _ => False) wr nq) (fun _ _ h => h))
                clear zr c0 c1 c2 e0 e1
                by_cases hp : 0 < getI a i
                · rw [decide_eq_true hp] at b1 hhit
                  by_cases hiy : i = y0
                  · have hres := Lib.hid (show hitsE p a y0 n = true from hits_yes (by rw [hhit.out, decide_eq_true hiy]; rfl) hlt)
                    subst hiy
                    clear hhit
                    go_wp2_with fail
                    go_ret2
                    rw [hs.out]
                    exact ⟨by rw [hres.out]; rfl, BV.out.trans (HC2.out.below (by omega) (fun b _ h => h.elim))⟩
                  · have hd : ((i : Int) == (y0 : Int)) = false := by simpa using (show ¬ (i : Int) = (y0 : Int) by omega)
                    rw [decide_eq_false hiy] at hhit
                    clear hiy
                    have hno := Lib.hid (show hitsE p a y0 (i + 1) = false by rw [hits_next, HNO.out, hhit.out]; rfl)
                    clear hhit
                    go_wp2_with fail
                    go_roundw
                    case rel => exact ⟨i + 1, by omega, by go_num, hno.out, HC2.out⟩
                    case measure => simp [intOf]; omega
                · rw [decide_eq_false hp] at b1 hhit
                  have hno := Lib.hid (show hitsE p a y0 (i + 1) = false by rw [hits_next, HNO.out, hhit.out]; rfl)
                  clear hhit
                  go_wp2_with fail
                  go_roundw
                  case rel => exact ⟨i + 1, by omega, by go_num, hno.out, HC2.out⟩
                  case measure => simp [intOf]; omega
            · have k2' : (t0 == 1) = false := by simpa using k2
              obtain rfl : false = lk := by rw [← hlk]; simp [likeE, k2]
              clear hlk k2
              go_wp2_with fail
              go_quiet (fail)
              have HC2 := Lib.hid (HC.out.trans (Chg.drewN (fun _ => False) wr nq) (fun _ _ h => h))
              clear zr c0 c1 c2 e0 e1
              by_cases hp : 0 < getI a i
              · rw [decide_eq_true hp] at b1 hhit
                by_cases hiy : i = y0
                · have hres := Lib.hid (show hitsE p a y0 n = true from hits_yes (by rw [hhit.out, decide_eq_true hiy]; rfl) hlt)
                  subst hiy
                  clear hhit
                  go_wp2_with fail
                  go_ret2
                  rw [hs.out]
                  exact ⟨by rw [hres.out]; rfl, BV.out.trans (HC2.out.below (by omega) (fun b _ h => h.elim))⟩
                · have hd : ((i : Int) == (y0 : Int)) = false := by simpa using (show ¬ (i : Int) = (y0 : Int) by omega)
                  rw [decide_eq_false hiy] at hhit
                  clear hiy
                  have hno := Lib.hid (show hitsE p a y0 (i + 1) = false by rw [hits_next, HNO.out, hhit.out]; rfl)
                  clear hhit
                  go_wp2_with fail
                  go_roundw
                  case rel => exact ⟨i + 1, by omega, by go_num, hno.out, HC2.out⟩
                  case measure => simp [intOf]; omega
              · rw [decide_eq_false hp] at b1 hhit
                have hno := Lib.hid (show hitsE p a y0 (i + 1) = false by rw [hits_next, HNO.out, hhit.out]; rfl)
                clear hhit
                go_wp2_with fail
                go_roundw
                case rel => exact ⟨i + 1, by omega, by go_num, hno.out, HC2.out⟩
                case measure => simp [intOf]; omega
          · have k1' : (s0 == 4) = false := by simpa using k1
            obtain rfl : false = lk := by rw [← hlk]; simp [likeE, k1]
            clear hlk k1
            go_wp2_with fail
            go_quiet (fail)
            have HC2 := Lib.hid (HC.out.trans (Chg.drewN (fun _ => False) wr nq) (fun _ _ h => h))
            clear zr c0 c1 c2 e0 e1
            by_cases hp : 0 < getI a i
            · rw [decide_eq_true hp] at b1 hhit
              by_cases hiy : i = y0
              · have hres := Lib.hid (show hitsE p a y0 n = true from hits_yes (by rw [hhit.out, decide_eq_true hiy]; rfl) hlt)
                subst hiy
                clear hhit
                go_wp2_with fail
                go_ret2
                rw [hs.out]
                exact ⟨by rw [hres.out]; rfl, BV.out.trans (HC2.out.below (by omega) (fun b _ h => h.elim))⟩
              · have hd : ((i : Int) == (y0 : Int)) = false := by simpa using (show ¬ (i : Int) = (y0 : Int) by omega)
                rw [decide_eq_false hiy] at hhit
                clear hiy
                have hno := Lib.hid (show hitsE p a y0 (i + 1) = false by rw [hits_next, HNO.out, hhit.out]; rfl)
                clear hhit
                go_wp2_with fail
                go_roundw
                case rel => exact ⟨i + 1, by omega, by go_num, hno.out, HC2.out⟩
                case measure => simp [intOf]; omega
            · rw [decide_eq_false hp] at b1 hhit
              have hno := Lib.hid (show hitsE p a y0 (i + 1) = false by rw [hits_next, HNO.out, hhit.out]; rfl)
              clear hhit
              go_wp2_with fail
              go_roundw
              case rel => exact ⟨i + 1, by omega, by go_num, hno.out, HC2.out⟩
              case measure => simp [intOf]; omega
        · obtain rfl : n = i := by omega
          go_wp2_with fail
          go_ret2
          rw [hs.out]
          exact ⟨by rw [HNO.out]; rfl, BV.out.trans (HC.out.below (by omega) (fun b _ h => h.elim))⟩
end Go.Proofs.Ytkjgibhckcdneaa.ErI
